/- Texts of the claim. -/
import Derived.Test.YticgggjfmhiilaaDoorLt
set_option linter.unusedVariables false
set_option linter.unusedSimpArgs false
set_option maxHeartbeats 60000000
set_option maxRecDepth 100000
namespace Go.Proofs.YticgggjfmhiilaaDoor
open Go.RowKit Go.Shelf
def SOut (t v:MT) (s:ByteArray) (p q i:Nat) (done:Bool) (ks:List ByteArray) (us:List MT):Prop :=
  (done=false→i≤p∧ks=t.k.take i∧us=t.v.take i) ∧
  (done=true→q≤i∧p<i∧ks=t.k.take p++[s]++(t.k.drop q).take (i - q)∧us=t.v.take p++[v]++(t.v.drop q).take (i - q))
def SLR (W2:World) (bu:Nat) (t v:MT) (s:ByteArray) (p q n g:Nat) (dv iv:Value) (wr:World):Prop :=
  ∃ (i:Nat) (done:Bool) (ks:List ByteArray) (us:List MT),i≤n∧n - i≤g∧dv=.bool done∧iv=.int .i64 (i:Int)∧PCut W2 bu ks us wr∧SOut t v s p q i done ks us∧ks.length≤102∧us.length=ks.length
theorem drop_up {α:Type} (l:List α) (q i:Nat) (d:α) (hq:q≤i) (h:i<l.length):(l.drop q).take (i+1 - q)=(l.drop q).take (i - q)++[l.getD i d]:=by
  rw [show i+1 - q=(i - q)+1 by omega,take_up (l.drop q) (i - q) d (by simp;omega)]
  congr 2
  simp only [List.getD_eq_getElem?_getD,List.getElem?_drop]
  rw [show q+(i - q)=i by omega]
theorem sout_low {t v:MT} {s:ByteArray} {p q i:Nat} {ks:List ByteArray} {us:List MT} (h:SOut t v s p q i false ks us) (hi:i<p) (hk:i<t.k.length) (hv:i<t.v.length) :
    SOut t v s p q (i+1) false (ks++[t.k.getD i ByteArray.empty]) (us++[t.v.getD i (leafT 0 false ⟨#[]⟩)]):=by
  obtain ⟨_,h1,h2⟩:=h.1 rfl
  exact ⟨fun _=>⟨by omega,by rw [h1,take_up _ _ _ hk],by rw [h2,take_up _ _ _ hv]⟩,fun h=>by cases h⟩
theorem sout_has {t v:MT} {s:ByteArray} {p q:Nat} {ks:List ByteArray} {us:List MT} (h:SOut t v s p q p false ks us) (hq:q=p+1):SOut t v s p q (p+1) true (ks++[s]) (us++[v]):=by
  obtain ⟨_,h1,h2⟩:=h.1 rfl
  subst hq
  exact ⟨(fun h=>by cases h),fun _=>⟨Nat.le_refl _,by omega,by simp [h1],by simp [h2]⟩⟩
theorem sout_new {t v:MT} {s:ByteArray} {p:Nat} {ks:List ByteArray} {us:List MT} (h:SOut t v s p p p false ks us) (hk:p<t.k.length) (hv:p<t.v.length) :
    SOut t v s p p (p+1) true (ks++[s]++[t.k.getD p ByteArray.empty]) (us++[v]++[t.v.getD p (leafT 0 false ⟨#[]⟩)]):=by
  obtain ⟨_,h1,h2⟩:=h.1 rfl
  exact ⟨(fun h=>by cases h),fun _=>⟨by omega,by omega,by rw [drop_up _ _ _ ByteArray.empty (Nat.le_refl _) hk];simp [h1],by rw [drop_up _ _ _ (leafT 0 false ⟨#[]⟩) (Nat.le_refl _) hv];simp [h2]⟩⟩
theorem sout_up {t v:MT} {s:ByteArray} {p q i:Nat} {ks:List ByteArray} {us:List MT} (h:SOut t v s p q i true ks us) (hk:i<t.k.length) (hv:i<t.v.length) :
    SOut t v s p q (i+1) true (ks++[t.k.getD i ByteArray.empty]) (us++[t.v.getD i (leafT 0 false ⟨#[]⟩)]):=by
  obtain ⟨h1,h2,h3,h4⟩:=h.2 rfl
  exact ⟨(fun h=>by cases h),fun _=>⟨by omega,by omega,by rw [drop_up _ _ _ ByteArray.empty h1 hk,h3];simp,by rw [drop_up _ _ _ (leafT 0 false ⟨#[]⟩) h1 hv,h4];simp⟩⟩
theorem sout_len {t v:MT} {s:ByteArray} {p q i:Nat} {done:Bool} {ks:List ByteArray} {us:List MT} (hpq:p≤q) (h:SOut t v s p q i done ks us):ks.length≤i+1:=by
  cases done
  · obtain ⟨_,h1,_⟩:=h.1 rfl
    rw [h1];simp;omega
  · obtain ⟨h1,h2,h3,_⟩:=h.2 rfl
    rw [h3];simp;omega
theorem sout_end {t v:MT} {s:ByteArray} {p q n:Nat} {ks:List ByteArray} {us:List MT} (hn:t.k.length=n) (hv:t.v.length=n) (h:SOut t v s p q n true ks us):ks=put1 t.k p q s∧us=put1 t.v p q v:=by
  obtain ⟨h1,h2,h3,h4⟩:=h.2 rfl
  unfold put1
  rw [h3,h4,List.take_of_length_le (l:=t.k.drop q) (by simp;omega),List.take_of_length_le (l:=t.v.drop q) (by simp;omega)]
  exact ⟨rfl,rfl⟩
theorem sout_last {t v:MT} {s:ByteArray} {p q n:Nat} {ks:List ByteArray} {us:List MT} (hn:t.k.length=n) (hv:t.v.length=n) (hq:q≤n) (hpq:p≤q) (h:SOut t v s p q n false ks us):ks++[s]=put1 t.k p q s∧us++[v]=put1 t.v p q v:=by
  obtain ⟨h1,h2,h3⟩:=h.1 rfl
  obtain rfl:p=n:=by omega
  obtain rfl:q=p:=by omega
  unfold put1
  rw [h2,h3,List.drop_of_length_le (by omega),List.drop_of_length_le (by omega)]
  simp
def SetPost (t v:MT) (s:ByteArray) (p q:Nat) (X:Nat→Prop) (w:World) (e:Ending) (w':World):Prop :=
  ∃ u:MT,e=.returned u.c.val∧(∃ ka kc va vc,u.c=objC7 ka u.k.length kc va u.k.length vc)∧u.m=[]∧u.k=put1 t.k p q s∧u.v=put1 t.v p q v∧Ind X w' (fun W=>Rep W u)∧Below w.heap.size w w'
theorem set_end {t v:MT} {s:ByteArray} {p q:Nat} {X:Nat→Prop} {w W2 wr:World} {bu br:Nat} {ks:List ByteArray} {us:List MT} {ka va:Option Addr} {kc vc:Nat} (hX:∀ k,X k→k<w.heap.size) (hT:Ind X w (fun W=>Rep W t)) (hV:Ind X w (fun W=>Rep W v)) (hs:s.size≤maxLen)
    (hb:Below w.heap.size w W2) (hbu:w.heap.size≤bu) (hbr:w.heap.size≤br) (hbr2:br<W2.heap.size) (h:Grw W2 bu (objC3 ka ks.length kc va us.length vc) (.slice ka ks.length kc) ks.length (sv ks) (.slice va us.length vc) us.length (flat (us.map MT.c)) wr)
    (hk:ks=put1 t.k p q s) (hu:us=put1 t.v p q v) (hl:us.length=ks.length) (hm:ks.length≤1000) :
    SetPost t v s p q X w (.returned (objC7 ka ks.length kc va ks.length vc).val) (put0 wr br (objC7 ka ks.length kc va ks.length vc)):=by
  obtain ⟨_,_,e1,hkc,hkr,_,hka,_⟩:=own_viewN h.ok
  cases e1
  obtain ⟨_,_,e2,hvc,hvr,_,hva,_⟩:=own_viewN h.ov
  cases e2
  have hb1:Below w.heap.size w wr:=hb.trans (h.but.below hbu hb.size)
  have hput:=put0_but wr br (objC7 ka ks.length kc va ks.length vc)
  have hb2:Below w.heap.size w (put0 wr br (objC7 ka ks.length kc va ks.length vc)):=hb1.trans (hput.below hbr hb1.size)
  have hkr2:=hput.rd hkr (fun a e _=>by have:=(hka a e).1;omega)
  have hvr2:=hput.rd hvr (fun a e _=>by have:=(hva a e).1;omega)
  have iT:=hT.below hb2;have iV:=hV.below hb2
  have iK:=ind_rdv (X:=X) hkr2 (fun a e hx=>by have h1:=(hka a e).1;have h2:=hX _ hx;have h3:=hb.size;omega)
  have iR:=ind_rdv (X:=X) hvr2 (fun a e hx=>by have h1:=(hva a e).1;have h2:=hX _ hx;have h3:=hb.size;omega)
  refine ⟨objT ka ks.length kc va ks.length vc ks us,rfl,⟨ka,kc,va,vc,rfl⟩,rfl,hk,hu,fun W h1 h2=>?_,hb2⟩
  have r1:=iT W h1 h2;have r2:=iV W h1 h2
  refine objT_rep rfl hkc (by omega) (iK W h1 h2) ?_ hl (by omega) (by omega) (iR W h1 h2) ?_
  · intro x hx
    rw [hk] at hx
    unfold put1 at hx
    rcases List.mem_append.1 hx with hx | hx
    · rcases List.mem_append.1 hx with hx | hx
      · exact r1.own.lk x (List.mem_of_mem_take hx)
      · rw [List.mem_singleton.1 hx];exact hs
    · exact r1.own.lk x (List.mem_of_mem_drop hx)
  · intro x hx
    rw [hu] at hx
    unfold put1 at hx
    rcases List.mem_append.1 hx with hx | hx
    · rcases List.mem_append.1 hx with hx | hx
      · exact r1.part (List.mem_of_mem_take hx)
      · rw [List.mem_singleton.1 hx];exact r2
    · exact r1.part (List.mem_of_mem_drop hx)
theorem refSet_any (t v:MT) (s:ByteArray) (p q:Nat) (X:Nat→Prop) (w:World) (hX:∀ k,X k→k<w.heap.size) (hT:Ind X w (fun W=>Rep W t)) (hV:Ind X w (fun W=>Rep W v)) (ho:Obj7 t) (hp:Spl t.k s p q) (hs:s.size≤maxLen) :
    Calls Tryd.prog 57 #[t.c.val,.string s,v.c.val] w (SetPost t v s p q X w):=by
  obtain ⟨Wa,hWa⟩:∃ x,(two2 w t.c v.c).alloc (.cells (Cel.cells (leafC 0 false ⟨#[]⟩)).toArray 28)=x:=⟨_,rfl⟩
  obtain ⟨Wb,hWb⟩:∃ x,Wa.alloc (.cells (Cel.cells (objC3 none 0 0 none 0 0)).toArray 28)=x:=⟨_,rfl⟩
  have hsa:Wa.heap.size=w.heap.size+3:=by rw [← hWa,World.size_alloc,two2_size]
  have hsb:Wb.heap.size=w.heap.size+4:=by rw [← hWb,World.size_alloc,hsa]
  have hba:Below w.heap.size w Wa:=by rw [← hWa];exact (two_below2 _ _ _).alloc (two_below2 _ _ _).size _
  have hbb:Below w.heap.size w Wb:=by rw [← hWb];exact hba.alloc hba.size _
  have hab:Below Wa.heap.size Wa Wb:=by rw [← hWb];exact (Below.refl _ _).alloc (Nat.le_refl _) _
  have h2a:Below (two2 w t.c v.c).heap.size (two2 w t.c v.c) Wa:=by rw [← hWa];exact (Below.refl _ _).alloc (Nat.le_refl _) _
  have hbt:BoxT Wb w.heap.size t.c:=((two2_box w t.c v.c).1.on (h2a.block _ (by rw [two2_size];omega))).on (hab.block _ (by omega))
  have hbv:BoxT Wb (w.heap.size+1) v.c:=((two2_box w t.c v.c).2.on (h2a.block _ (by rw [two2_size];omega))).on (hab.block _ (by omega))
  have hbr:BoxT Wb (w.heap.size+1+1) (leafC 0 false ⟨#[]⟩):=by
    refine BoxT.on (w:=Wa) ?_ (hab.block _ (by omega))
    rw [← hWa]
    have:=heap_alloc_new (two2 w t.c v.c) (.cells (Cel.cells (leafC 0 false ⟨#[]⟩)).toArray 28)
    rw [two2_size] at this
    exact this
  have hbu:BoxT Wb (w.heap.size+1+1+1) (objC3 none 0 0 none 0 0):=by
    rw [← hWb]
    have:=heap_alloc_new Wa (.cells (Cel.cells (objC3 none 0 0 none 0 0)).toArray 28)
    rw [hsa] at this
    exact this
  have KM:=Lib.hid (refMember_any t s p q Wb (hT.here.on hbb) ho hp hs)
  have HBB:=Lib.hid hbb;have HSB:=Lib.hid hsb
  have HBOX:=Lib.hid (And.intro hbt (And.intro hbv (And.intro hbr hbu)))
  have HT0:=Lib.hid hT;have HV0:=Lib.hid hV;have HX0:=Lib.hid hX
  have HRT:=Lib.hid (fun W (h:Below w.heap.size w W)=>(hT.here.on h:Rep W t))
  have HO:=Lib.hid ho
  have HAT:=Lib.hid (fun i (hi:i<t.k.length)=>spl_at hp hi)
  have HPQ:=Lib.hid (And.intro hp.pq (And.intro hp.qp hp.ql))
  have HQC:=Lib.hid (show q=p∨q=p+1 by have:=hp.pq;have:=hp.qp;omega)
  clear hT hV hX hp hbt hbv hbr hbu hbb hab h2a hba
  obtain ⟨ct,hct⟩:∃ c,t.c=c:=⟨_,rfl⟩
  obtain ⟨cv,hcv⟩:∃ c,v.c=c:=⟨_,rfl⟩
  have h7:0<t.k.length→t.c.k=7:=fun h=>ho.k7 (fun e=>by rw [e] at h;cases h)
  have hkn:=ho.kn;have hvn:=ho.vn
  have HVL:=Lib.hid ho.kv;have HLE:=Lib.hid ho.le
  clear ho
  have HKR:=Lib.hid (fun W (h:Rep W t)=>h.own.kr)
  have HVR:=Lib.hid (fun W (h:Rep W t)=>h.own.vr)
  rw [hct] at KM HBOX h7 hkn hvn HKR HVR hWa ⊢
  rw [hcv] at HBOX hWa ⊢
  have HCT:=Lib.hid hct;have HCV:=Lib.hid hcv
  clear hct hcv
  obtain ⟨k7,b0,neg,ma,mn,mc,e,st,ka0,kn,kc0,va0,vn,vc0⟩:=ct
  obtain ⟨yk,yb,yneg,yma,ymn,ymc,ye,ys,yka,ykn,ykc,yva,yvn,yvc⟩:=cv
  simp only at h7 hkn hvn HKR HVR
  subst hkn hvn
  generalize hn:t.k.length=n at *
  have HNL:=Lib.hid hn
  have HK7:=Lib.hid h7
  clear hn h7
  obtain ⟨bt,hbt0⟩:∃ x,w.heap.size=x:=⟨_,rfl⟩
  have HBT0:=Lib.hid hbt0
  unfold Cel.val at KM ⊢
  unfold two2 at hWa
  unfold Cel.cells leafC at hWa
  unfold Cel.cells objC3 at hWb
  simp only at hWa hWb
  have HWB:=Lib.hid hWb;have HWA:=Lib.hid hWa
  clear hWa hWb hsa hsb hbt0
  go_enter Tryd.func57,Tryd.ntmps57
  go_wp2_with fail
  rw [HWA.out,HWB.out]
  refine KM.out.mono ?_
  rintro r1 w1 ⟨c9,rfl,h1⟩
  obtain ⟨mk,mb,mneg,mma,mmn,mmc,me,ms,mka,mkn,mkc,mva,mvn,mvc⟩:=c9
  obtain ⟨W2,hw2⟩:∃ x,w1.alloc (.cells #[.int .i64 mk,.bool mb,.bool mneg,.slice mma mmn mmc,.int .i64 me,.string ms,.slice mka mkn mkc,.slice mva mvn mvc] 28)=x:=⟨_,rfl⟩
  have h12:Below w1.heap.size w1 W2:=by rw [← hw2];exact (Below.refl _ _).alloc (Nat.le_refl _) _
  have hb2:Below Wb.heap.size Wb W2:=h1.trans (h12.mono h1.size)
  have hbw:Below w.heap.size w W2:=HBB.out.trans (hb2.mono HBB.out.size)
  have hlt:w.heap.size+4≤W2.heap.size:=by have:=hb2.size;have:=HSB.out;omega
  have on4:∀ k c,k<w.heap.size+4→BoxT Wb k c→BoxT W2 k c:=fun k c hk h=>h.on (hb2.block _ (by have:=HSB.out;omega))
  have ht2:=on4 _ _ (by omega) HBOX.out.1;have hv2:=on4 _ _ (by omega) HBOX.out.2.1;have hr2:=on4 _ _ (by omega) HBOX.out.2.2.1;have hu2:=on4 _ _ (by omega) HBOX.out.2.2.2
  have HPC:=Lib.hid (show PCut W2 (w.heap.size+1+1+1) [] [] W2 from ⟨none,0,none,0,But.refl _ _,by omega,hu2,⟨rfl,.inl ⟨rfl,rfl⟩⟩,⟨rfl,.inl ⟨rfl,rfl⟩⟩⟩)
  have HT:=Lib.hid (fun W (h:But (w.heap.size+1+1+1) W2 W)=>And.intro (And.intro (ht2.on (h.block _ (by omega) (by omega))) (hv2.on (h.block _ (by omega) (by omega)))) (have hr:=HRT.out W (hbw.trans (h.below (by omega) hbw.size));And.intro (HKR.out W hr) (HVR.out W hr)))
  have HBR:=Lib.hid (fun W (h:But (w.heap.size+1+1+1) W2 W)=>hr2.on (h.block _ (by omega) (by omega)))
  have HEND:=Lib.hid (fun (wr:World) (ks:List ByteArray) (us:List MT) (ka va:Option Addr) (kc vc:Nat) (h:Grw W2 (w.heap.size+1+1+1) (objC3 ka ks.length kc va us.length vc) (.slice ka ks.length kc) ks.length (sv ks) (.slice va us.length vc) us.length (flat (us.map MT.c)) wr) (h1:ks=put1 t.k p q s) (h2:us=put1 t.v p q v) (h3:us.length=ks.length) (h4:ks.length≤1000) =>
    set_end (br:=w.heap.size+1+1) HX0.out HT0.out HV0.out hs hbw (by omega) (by omega) (by omega) h h1 h2 h3 h4)
  have HW2:=Lib.hid hlt
  obtain ⟨has,hhas⟩:∃ has,decide (q=p+1)=has:=⟨_,rfl⟩
  have HHAS:=Lib.hid hhas
  rw [hhas]
  clear h1 h12 hb2 hbw hlt on4 ht2 hv2 hr2 hu2 hhas HBOX HWA HWB KM
  have hn300:n≤100:=HLE.out
  unfold Cel.val
  go_wp2_with fail
  clear hw2
  go_loopg [8,11] n (fun k dv iv wr=>SLR W2 (w.heap.size+1+1+1) t v s p q n k dv iv wr)
  case atStart=>exact ⟨0,false,[],[],Nat.zero_le _,by omega,rfl,rfl,HPC.out,⟨fun _=>⟨Nat.zero_le _,rfl,rfl⟩,fun h=>by cases h⟩,by simp,rfl⟩
  case round =>
    obtain ⟨i,done,ks,us,hi,hk,rfl,rfl,⟨ka,kc,va,vc,hG⟩,hso,hkl,hul⟩:=hrel
    have HG:=Lib.hid hG;have HSO:=Lib.hid hso
    have HKL:=Lib.hid hkl;have HUL:=Lib.hid hul
    obtain ⟨c0,c1,c2,c3,c4,c5,c6,c7⟩:=(HT.out wr hG.but).1.1.cells
    simp only at c0 c1 c2 c3 c4 c5 c6 c7
    clear hG hso
    have hpq:=HPQ.out.1;have hqp:=HPQ.out.2.1;have hql:=HPQ.out.2.2
    by_cases hlt:i<n
    · obtain rfl:k7=7:=HK7.out (by omega)
      obtain ⟨g,rfl⟩:∃ k,gk=k+1:=⟨gk - 1,by omega⟩
      have hjz:(i:Int)<(n:Int):=by omega
      have hin:i<n:=hlt
      have hi100:(i:Int)≤100:=by omega
      have hik:i<t.k.length:=by rw [HNL.out];exact hlt
      have hiv:i<t.v.length:=by rw [HVL.out];exact hlt
      have hrk:=(HT.out wr HG.out.but).2.1
      have hrv:=(HT.out wr HG.out.but).2.2
      obtain ⟨nbk,nof,rfl,hnl⟩:=hrk.shape (by rw [sv_len];omega)
      obtain ⟨tbk,tof,rfl,htl⟩:=hrv.shape (by rw [flat_len,List.length_map];omega)
      have hcx:=sv_at hrk i hik
      have HX:=Lib.hid (fun W (h:But (w.heap.size+1+1+1) W2 W)=>sv_at (HT.out W h).2.1 i hik)
      have hat:=HAT.out i hin
      have SLOW:=Lib.hid (fun (h:SOut t v s p q i false ks us) (hp:i<p)=>sout_low h hp hik hiv)
      have SNEW:=Lib.hid (fun (h:SOut t v s p p p false ks us) (h1:p<t.k.length) (h2:p<t.v.length)=>sout_new h h1 h2)
      have SUP:=Lib.hid (fun (h:SOut t v s p q i true ks us)=>sout_up h hik hiv)
      generalize hxx:t.k.getD i ByteArray.empty=x at *
      obtain ⟨cz,hz⟩:∃ c,(t.v.getD i (leafT 0 false ⟨#[]⟩)).c=c:=⟨_,rfl⟩
      obtain ⟨zk,zb,zneg,zma,zmn,zmc,ze,zs,zka,zkn,zkc,zva,zvn,zvc⟩:=cz
      have hy:=hz;have hyc:=hz
      clear hrk hrv hz
      cases done
      · by_cases hip:i<p
        · obtain ⟨he1,he2,he3⟩:=hat.1 hip
          have HS2:=Lib.hid (SLOW.out HSO.out hip)
          clear hat
          unfold eqS at he1
          unfold ltS at he2 he3
          cases has <;> go_wp2_with fail
          all_goals
            refine wp_norm (fun J hJ=>?_)
            have HJ:=Lib.hid hJ
            clear hJ
            refine rl_start (S:=fun L W=>But (w.heap.size+1+1+1) W2 W∧(L.getD 19 false=false→W.cell? ⟨(w.heap.size+1+1+1),6,none⟩=some (.slice ka ks.length kc))∧(L.getD 21 false=false→W.cell? ⟨(w.heap.size+1+1+1),7,none⟩=some (.slice va us.length vc))) (by kernel_rfl) (have hG:=HG.out.below (below_drew (Below.refl _ _));⟨hG.but,fun _=>hG.box.cells.2.2.2.2.2.2.1,fun _=>hG.box.cells.2.2.2.2.2.2.2⟩) (fun hC hS=>?_)
            have hG:=HG.out.below (below_drew (Below.refl _ _))
            obtain ⟨Z0,hW0⟩:∃ x,x=wr.drew:=⟨_,rfl⟩
            rw [← hW0] at hG hS ⊢
            refine rl_pure 0 _ (.pointer (some ⟨(w.heap.size+1+1+1),6,none⟩)) (some 90) rfl (by kernel_rfl) (by kernel_rfl) (by kernel_rfl) (by kernel_rfl) (fun _ _ _ h=>h) (fun L W=>si2 0 19 21 rfl rfl _) (by kernel_rfl) (fun w=>by kernel_rfl) hC hS (fun hC hS=>?_)
            refine rl_load1 1 _ 22 (.tmp 90) ⟨(w.heap.size+1+1+1),6,none⟩ (.slice ka ks.length kc) _ (some 91) rfl (by kernel_rfl) (by kernel_rfl) (by kernel_rfl) (by kernel_rfl) (fun _ _ _ h=>h) (fun L W=>si2 1 19 21 rfl rfl _) (by kernel_rfl) rfl (by kernel_rfl) Tryd.underlying22 rfl (fun L W hC h1 hS=>hS.2.1 (cl_no hC 1 19 _ rfl (by kernel_rfl) h1)) hC hS (fun hC hS=>?_)
            refine rl_pure 2 _ (.pointer (some ⟨w.heap.size,6,none⟩)) (some 92) rfl (by kernel_rfl) (by kernel_rfl) (by kernel_rfl) (by kernel_rfl) (fun _ _ _ h=>h) (fun L W=>si2 2 19 21 rfl rfl _) (by kernel_rfl) (fun w=>by kernel_rfl) hC hS (fun hC hS=>?_)
            refine rl_load1 3 _ 22 (.tmp 92) ⟨w.heap.size,6,none⟩ (.slice (some ⟨nbk,nof,none⟩) n kc0) _ (some 93) rfl (by kernel_rfl) (by kernel_rfl) (by kernel_rfl) (by kernel_rfl) (fun _ _ _ h=>h) (fun L W=>si2 3 19 21 rfl rfl _) (by kernel_rfl) rfl (by kernel_rfl) Tryd.underlying22 rfl (fun L W hC h1 hS=>(HT.out W hS.1).1.1.cells.2.2.2.2.2.2.1) hC hS (fun hC hS=>?_)
            refine rl_pure 4 _ (.int .i64 (i:Int)) (some 94) rfl (by kernel_rfl) (by kernel_rfl) (by kernel_rfl) (by kernel_rfl) (fun _ _ _ h=>h) (fun L W=>si2 4 19 21 rfl rfl _) (by kernel_rfl) (fun w=>by kernel_rfl) hC hS (fun hC hS=>?_)
            refine rl_pure 5 _ (.pointer (some ⟨nbk,nof+i,none⟩)) (some 95) rfl (by kernel_rfl) (by kernel_rfl) (by kernel_rfl) (by kernel_rfl) (fun _ _ _ h=>h) (fun L W=>si2 5 19 21 rfl rfl _) (by kernel_rfl) (fun w=>rl_idx w _ _ _ _ _ 9 nbk nof n kc0 i i 1 rfl (by kernel_rfl) (by kernel_rfl) Tryd.underlying22 (by kernel_rfl) hin (Nat.mul_one _)) hC hS (fun hC hS=>?_)
            refine rl_load1 6 _ 9 (.tmp 95) ⟨nbk,nof+i,none⟩ (.string x) _ (some 96) rfl (by kernel_rfl) (by kernel_rfl) (by kernel_rfl) (by kernel_rfl) (fun _ _ _ h=>h) (fun L W=>si2 6 19 21 rfl rfl _) (by kernel_rfl) rfl (by kernel_rfl) Tryd.underlying9 rfl (fun L W hC h1 hS=>(HX.out W hS.1)) hC hS (fun hC hS=>?_)
            refine rl_pure 9 _ (.pointer (some ⟨(w.heap.size+1+1+1),7,none⟩)) (some 99) rfl (by kernel_rfl) (by kernel_rfl) (by kernel_rfl) (by kernel_rfl) (fun _ _ _ h=>h) (fun L W=>si2 9 19 21 rfl rfl _) (by kernel_rfl) (fun w=>by kernel_rfl) hC hS (fun hC hS=>?_)
            refine rl_load1 10 _ 26 (.tmp 99) ⟨(w.heap.size+1+1+1),7,none⟩ (.slice va us.length vc) _ (some 100) rfl (by kernel_rfl) (by kernel_rfl) (by kernel_rfl) (by kernel_rfl) (fun _ _ _ h=>h) (fun L W=>si2 10 19 21 rfl rfl _) (by kernel_rfl) rfl (by kernel_rfl) Tryd.underlying26 rfl (fun L W hC h1 hS=>hS.2.2 (cl_no hC 10 21 _ rfl (by kernel_rfl) h1)) hC hS (fun hC hS=>?_)
            refine rl_pure 11 _ (.pointer (some ⟨w.heap.size,7,none⟩)) (some 101) rfl (by kernel_rfl) (by kernel_rfl) (by kernel_rfl) (by kernel_rfl) (fun _ _ _ h=>h) (fun L W=>si2 11 19 21 rfl rfl _) (by kernel_rfl) (fun w=>by kernel_rfl) hC hS (fun hC hS=>?_)
            refine rl_load1 12 _ 26 (.tmp 101) ⟨w.heap.size,7,none⟩ (.slice (some ⟨tbk,tof,none⟩) n vc0) _ (some 102) rfl (by kernel_rfl) (by kernel_rfl) (by kernel_rfl) (by kernel_rfl) (fun _ _ _ h=>h) (fun L W=>si2 12 19 21 rfl rfl _) (by kernel_rfl) rfl (by kernel_rfl) Tryd.underlying26 rfl (fun L W hC h1 hS=>(HT.out W hS.1).1.1.cells.2.2.2.2.2.2.2) hC hS (fun hC hS=>?_)
            refine rl_pure 13 _ (.int .i64 (i:Int)) (some 103) rfl (by kernel_rfl) (by kernel_rfl) (by kernel_rfl) (by kernel_rfl) (fun _ _ _ h=>h) (fun L W=>si2 13 19 21 rfl rfl _) (by kernel_rfl) (fun w=>by kernel_rfl) hC hS (fun hC hS=>?_)
            refine rl_pure 14 _ (.pointer (some ⟨tbk,tof+i*8,none⟩)) (some 104) rfl (by kernel_rfl) (by kernel_rfl) (by kernel_rfl) (by kernel_rfl) (fun _ _ _ h=>h) (fun L W=>si2 14 19 21 rfl rfl _) (by kernel_rfl) (fun w=>rl_idx w _ _ _ _ _ 28 tbk tof n vc0 i (i*8) 8 rfl (by kernel_rfl) (by kernel_rfl) Tryd.underlying26 (by kernel_rfl) hin rfl) hC hS (fun hC hS=>?_)
            refine rl_loadM 15 _ 28 (.tmp 104) tbk (tof+i*8) [.int .i64 zk,.bool zb,.bool zneg,.slice zma zmn zmc,.int .i64 ze,.string zs,.slice zka zkn zkc,.slice zva zvn zvc] _ (some 105) rfl (by kernel_rfl) (by kernel_rfl) (by kernel_rfl) (by kernel_rfl) (fun _ _ _ h=>h) (fun L W=>si2 15 19 21 rfl rfl _) (by kernel_rfl) rfl (by kernel_rfl) Tryd.underlying28 rfl (by kernel_rfl) (fun L W hC h1 hS=>flat_range (HT.out W hS.1).2.2 i hiv hy) hC hS (fun hC hS=>?_)
            refine rl_all [7,16] (by kernel_rfl) (by simp) hC (rl_two _ _ ?_ ?_)
            refine rl_val 7 _ (.slice (some ⟨Z0.heap.size,0,none⟩) 1 1) (Z0.alloc (.cells #[.string x] 9)) (some 97) rfl (by kernel_rfl) (by kernel_rfl) (by kernel_rfl) ?_
            have hlgK:=heap_alloc_new Z0 (.cells (List.toArray [.string x]) 9)
            replace hG:=hG.alloc (.cells (List.toArray [.string x]) 9)
            generalize Z0.heap.size=gK at hlgK ⊢
            generalize Z0.alloc (.cells #[.string x] 9)=Z1 at hlgK hG  ⊢
            refine rl_and ⟨hG.but,fun _=>hG.box.cells.2.2.2.2.2.2.1,fun _=>hG.box.cells.2.2.2.2.2.2.2⟩ (fun hS hC=>?_)
            refine rl_all [8,16] (by kernel_rfl) (by simp) hC (rl_two _ _ ?_ ?_)
            refine rl_law 8 _ (some 98) rfl (by kernel_rfl) (by kernel_rfl) (R:=fun v' w'=>w'.ownsRow W2.heap.size 9 1 v' (ks.length+1) ((sv ks)++[.string x])∧Z1.grownBy w' (Value.slice ka ks.length kc).ownBlock) (fun K hK=>wp_appV Tryd.underlying22 info_string rfl (by decide) (by decide) Z1 (.tmp 91) (.tmp 97) rfl W2.heap.size _ ks.length (sv ks) (by kernel_rfl) hG.ok (some ⟨gK,0,none⟩) 1 1 [.string x] (by kernel_rfl) rfl (rd_lit Z1 gK _ _ hlgK) (by intro u hu;rw [List.mem_singleton.1 hu];rfl) nofun (by first | omega | (simp;omega)) hG.but.size (fun v' w' h1 h2=>hK v' w' ⟨h1,h2⟩)) ?_
            rintro v' Z2 ⟨ho,hgr⟩
            obtain ⟨aK,cK,rfl,hcK,_⟩:=own_viewN ho
            replace hG:=hG.appK ho hgr
            refine rl_and ⟨hG.but,fun _=>hG.box.cells.2.2.2.2.2.2.1,fun _=>hG.box.cells.2.2.2.2.2.2.2⟩ (fun hS hC=>?_)
            refine rl_pure 18 _ (.pointer (some ⟨(w.heap.size+1+1+1),6,none⟩)) (some 108) rfl (by kernel_rfl) (by kernel_rfl) (by kernel_rfl) (by kernel_rfl) (fun _ _ _ h=>h) (fun L W=>si2 18 19 21 rfl rfl _) (by kernel_rfl) (fun w=>by kernel_rfl) hC hS (fun hC hS=>?_)
            refine rl_all [16] (by kernel_rfl) (by simp) hC (rl_one _ ?_)
            refine rl_val 16 _ (.slice (some ⟨Z2.heap.size,0,none⟩) 1 1) (Z2.alloc (.cells #[.int .i64 zk,.bool zb,.bool zneg,.slice zma zmn zmc,.int .i64 ze,.string zs,.slice zka zkn zkc,.slice zva zvn zvc] 28)) (some 106) rfl (by kernel_rfl) (by kernel_rfl) (by kernel_rfl) ?_
            have hlgV:=heap_alloc_new Z2 (.cells (List.toArray [.int .i64 zk,.bool zb,.bool zneg,.slice zma zmn zmc,.int .i64 ze,.string zs,.slice zka zkn zkc,.slice zva zvn zvc]) 28)
            replace hG:=hG.alloc (.cells (List.toArray [.int .i64 zk,.bool zb,.bool zneg,.slice zma zmn zmc,.int .i64 ze,.string zs,.slice zka zkn zkc,.slice zva zvn zvc]) 28)
            generalize Z2.heap.size=gV at hlgV ⊢
            generalize Z2.alloc (.cells #[.int .i64 zk,.bool zb,.bool zneg,.slice zma zmn zmc,.int .i64 ze,.string zs,.slice zka zkn zkc,.slice zva zvn zvc] 28)=Zt at hlgV hG  ⊢
            refine rl_and ⟨hG.but,fun _=>hG.box.cells.2.2.2.2.2.2.1,fun _=>hG.box.cells.2.2.2.2.2.2.2⟩ (fun hS hC=>?_)
            rotate_left
            refine rl_val 16 _ (.slice (some ⟨Z1.heap.size,0,none⟩) 1 1) (Z1.alloc (.cells #[.int .i64 zk,.bool zb,.bool zneg,.slice zma zmn zmc,.int .i64 ze,.string zs,.slice zka zkn zkc,.slice zva zvn zvc] 28)) (some 106) rfl (by kernel_rfl) (by kernel_rfl) (by kernel_rfl) ?_
            have hlgV:=heap_alloc_new Z1 (.cells (List.toArray [.int .i64 zk,.bool zb,.bool zneg,.slice zma zmn zmc,.int .i64 ze,.string zs,.slice zka zkn zkc,.slice zva zvn zvc]) 28)
            have hlgK:=((Below.refl Z1.heap.size Z1).alloc (Nat.le_refl _) (.cells (List.toArray [.int .i64 zk,.bool zb,.bool zneg,.slice zma zmn zmc,.int .i64 ze,.string zs,.slice zka zkn zkc,.slice zva zvn zvc]) 28)).block _ (Array.getElem?_eq_some_iff.1 hlgK).1 |>.trans hlgK
            replace hG:=hG.alloc (.cells (List.toArray [.int .i64 zk,.bool zb,.bool zneg,.slice zma zmn zmc,.int .i64 ze,.string zs,.slice zka zkn zkc,.slice zva zvn zvc]) 28)
            generalize Z1.heap.size=gV at hlgV ⊢
            generalize Z1.alloc (.cells #[.int .i64 zk,.bool zb,.bool zneg,.slice zma zmn zmc,.int .i64 ze,.string zs,.slice zka zkn zkc,.slice zva zvn zvc] 28)=Z4 at hlgV hG hlgK ⊢
            refine rl_and ⟨hG.but,fun _=>hG.box.cells.2.2.2.2.2.2.1,fun _=>hG.box.cells.2.2.2.2.2.2.2⟩ (fun hS hC=>?_)
            refine rl_all [8] (by kernel_rfl) (by simp) hC (rl_one _ ?_)
            refine rl_law 8 _ (some 98) rfl (by kernel_rfl) (by kernel_rfl) (R:=fun v' w'=>w'.ownsRow W2.heap.size 9 1 v' (ks.length+1) ((sv ks)++[.string x])∧Z4.grownBy w' (Value.slice ka ks.length kc).ownBlock) (fun K hK=>wp_appV Tryd.underlying22 info_string rfl (by decide) (by decide) Z4 (.tmp 91) (.tmp 97) rfl W2.heap.size _ ks.length (sv ks) (by kernel_rfl) hG.ok (some ⟨gK,0,none⟩) 1 1 [.string x] (by kernel_rfl) rfl (rd_lit Z4 gK _ _ hlgK) (by intro u hu;rw [List.mem_singleton.1 hu];rfl) nofun (by first | omega | (simp;omega)) hG.but.size (fun v' w' h1 h2=>hK v' w' ⟨h1,h2⟩)) ?_
            rintro v' Zt ⟨ho,hgr⟩
            obtain ⟨aK,cK,rfl,hcK,_⟩:=own_viewN ho
            replace hlgV:=hG.litV hgr hlgV
            replace hG:=hG.appK ho hgr
            refine rl_and ⟨hG.but,fun _=>hG.box.cells.2.2.2.2.2.2.1,fun _=>hG.box.cells.2.2.2.2.2.2.2⟩ (fun hS hC=>?_)
            refine rl_pure 18 _ (.pointer (some ⟨(w.heap.size+1+1+1),6,none⟩)) (some 108) rfl (by kernel_rfl) (by kernel_rfl) (by kernel_rfl) (by kernel_rfl) (fun _ _ _ h=>h) (fun L W=>si2 18 19 21 rfl rfl _) (by kernel_rfl) (fun w=>by kernel_rfl) hC hS (fun hC hS=>?_)
            rotate_left
            refine rl_val 16 _ (.slice (some ⟨Z0.heap.size,0,none⟩) 1 1) (Z0.alloc (.cells #[.int .i64 zk,.bool zb,.bool zneg,.slice zma zmn zmc,.int .i64 ze,.string zs,.slice zka zkn zkc,.slice zva zvn zvc] 28)) (some 106) rfl (by kernel_rfl) (by kernel_rfl) (by kernel_rfl) ?_
            have hlgV:=heap_alloc_new Z0 (.cells (List.toArray [.int .i64 zk,.bool zb,.bool zneg,.slice zma zmn zmc,.int .i64 ze,.string zs,.slice zka zkn zkc,.slice zva zvn zvc]) 28)
            replace hG:=hG.alloc (.cells (List.toArray [.int .i64 zk,.bool zb,.bool zneg,.slice zma zmn zmc,.int .i64 ze,.string zs,.slice zka zkn zkc,.slice zva zvn zvc]) 28)
            generalize Z0.heap.size=gV at hlgV ⊢
            generalize Z0.alloc (.cells #[.int .i64 zk,.bool zb,.bool zneg,.slice zma zmn zmc,.int .i64 ze,.string zs,.slice zka zkn zkc,.slice zva zvn zvc] 28)=Z6 at hlgV hG  ⊢
            refine rl_and ⟨hG.but,fun _=>hG.box.cells.2.2.2.2.2.2.1,fun _=>hG.box.cells.2.2.2.2.2.2.2⟩ (fun hS hC=>?_)
            refine rl_all [7] (by kernel_rfl) (by simp) hC (rl_one _ ?_)
            refine rl_val 7 _ (.slice (some ⟨Z6.heap.size,0,none⟩) 1 1) (Z6.alloc (.cells #[.string x] 9)) (some 97) rfl (by kernel_rfl) (by kernel_rfl) (by kernel_rfl) ?_
            have hlgK:=heap_alloc_new Z6 (.cells (List.toArray [.string x]) 9)
            have hlgV:=((Below.refl Z6.heap.size Z6).alloc (Nat.le_refl _) (.cells (List.toArray [.string x]) 9)).block _ (Array.getElem?_eq_some_iff.1 hlgV).1 |>.trans hlgV
            replace hG:=hG.alloc (.cells (List.toArray [.string x]) 9)
            generalize Z6.heap.size=gK at hlgK ⊢
            generalize Z6.alloc (.cells #[.string x] 9)=Z7 at hlgK hG hlgV ⊢
            refine rl_and ⟨hG.but,fun _=>hG.box.cells.2.2.2.2.2.2.1,fun _=>hG.box.cells.2.2.2.2.2.2.2⟩ (fun hS hC=>?_)
            refine rl_all [8] (by kernel_rfl) (by simp) hC (rl_one _ ?_)
            refine rl_law 8 _ (some 98) rfl (by kernel_rfl) (by kernel_rfl) (R:=fun v' w'=>w'.ownsRow W2.heap.size 9 1 v' (ks.length+1) ((sv ks)++[.string x])∧Z7.grownBy w' (Value.slice ka ks.length kc).ownBlock) (fun K hK=>wp_appV Tryd.underlying22 info_string rfl (by decide) (by decide) Z7 (.tmp 91) (.tmp 97) rfl W2.heap.size _ ks.length (sv ks) (by kernel_rfl) hG.ok (some ⟨gK,0,none⟩) 1 1 [.string x] (by kernel_rfl) rfl (rd_lit Z7 gK _ _ hlgK) (by intro u hu;rw [List.mem_singleton.1 hu];rfl) nofun (by first | omega | (simp;omega)) hG.but.size (fun v' w' h1 h2=>hK v' w' ⟨h1,h2⟩)) ?_
            rintro v' Zt ⟨ho,hgr⟩
            obtain ⟨aK,cK,rfl,hcK,_⟩:=own_viewN ho
            replace hlgV:=hG.litV hgr hlgV
            replace hG:=hG.appK ho hgr
            refine rl_and ⟨hG.but,fun _=>hG.box.cells.2.2.2.2.2.2.1,fun _=>hG.box.cells.2.2.2.2.2.2.2⟩ (fun hS hC=>?_)
            refine rl_pure 18 _ (.pointer (some ⟨(w.heap.size+1+1+1),6,none⟩)) (some 108) rfl (by kernel_rfl) (by kernel_rfl) (by kernel_rfl) (by kernel_rfl) (fun _ _ _ h=>h) (fun L W=>si2 18 19 21 rfl rfl _) (by kernel_rfl) (fun w=>by kernel_rfl) hC hS (fun hC hS=>?_)
            rotate_left
            all_goals
              refine rl_all [17] (by kernel_rfl) (by simp) hC (rl_one _ ?_)
              refine rl_law 17 _ (some 107) rfl (by kernel_rfl) (by kernel_rfl) (R:=fun v' w'=>w'.ownsRow W2.heap.size 28 8 v' (us.length+1) (flat (us.map MT.c)++[.int .i64 zk,.bool zb,.bool zneg,.slice zma zmn zmc,.int .i64 ze,.string zs,.slice zka zkn zkc,.slice zva zvn zvc])∧Zt.grownBy w' (Value.slice va us.length vc).ownBlock) (fun K hK=>wp_appV Tryd.underlying26 info_tree rfl (by decide) (by decide) Zt (.tmp 100) (.tmp 106) rfl W2.heap.size _ us.length (flat (us.map MT.c)) (by kernel_rfl) hG.ov (some ⟨gV,0,none⟩) 1 1 [.int .i64 zk,.bool zb,.bool zneg,.slice zma zmn zmc,.int .i64 ze,.string zs,.slice zka zkn zkc,.slice zva zvn zvc] (by kernel_rfl) rfl (rd_lit Zt gV _ _ hlgV) (cel_one ⟨zk,zb,zneg,zma,zmn,zmc,ze,zs,zka,zkn,zkc,zva,zvn,zvc⟩) nofun (by first | omega | (simp;omega)) hG.but.size (fun v' w' h1 h2=>hK v' w' ⟨h1,h2⟩)) ?_
              rintro v' Z9 ⟨ho,hgr⟩
              obtain ⟨aV,cV,rfl,hcV,_⟩:=own_viewN ho
              replace hG:=hG.appV ho hgr
              refine rl_and ⟨hG.but,fun _=>hG.box.cells.2.2.2.2.2.2.1,fun _=>hG.box.cells.2.2.2.2.2.2.2⟩ (fun hS hC=>?_)
              refine rl_all [19] (by kernel_rfl) (by simp) hC (rl_one _ ?_)
              refine rl_store 19 _ 22 (.tmp 108) (.tmp 98) ⟨(w.heap.size+1+1+1),6,none⟩ (.slice aK (ks.length+1) cK) rfl (by kernel_rfl) (by kernel_rfl) rfl (by kernel_rfl) (by kernel_rfl) (by kernel_rfl) rfl (by rw [hG.box.cells.2.2.2.2.2.2.1];rfl) (hG.box.free 6) ?_
              replace hG:=hG.set 6 (.slice aK (ks.length+1) cK) (box_set6 hG.box aK (ks.length+1) cK)
              refine rl_and ⟨hG.but,fun h=>Bool.noConfusion (show true=false from h),fun _=>hG.box.cells.2.2.2.2.2.2.2⟩ (fun hS hC=>?_)
              refine rl_pure 20 _ (.pointer (some ⟨(w.heap.size+1+1+1),7,none⟩)) (some 109) rfl (by kernel_rfl) (by kernel_rfl) (by kernel_rfl) (by kernel_rfl) (fun _ _ _ h=>h) (fun L W=>si2 20 19 21 rfl rfl _) (by kernel_rfl) (fun w=>by kernel_rfl) hC hS (fun hC hS=>?_)
              refine rl_all [21] (by kernel_rfl) (by simp) hC (rl_one _ ?_)
              refine rl_store 21 _ 26 (.tmp 109) (.tmp 107) ⟨(w.heap.size+1+1+1),7,none⟩ (.slice aV (us.length+1) cV) rfl (by kernel_rfl) (by kernel_rfl) rfl (by kernel_rfl) (by kernel_rfl) (by kernel_rfl) rfl (by rw [hG.box.cells.2.2.2.2.2.2.2];rfl) (hG.box.free 7) ?_
              replace hG:=hG.set 7 (.slice aV (us.length+1) cV) (box_set hG.box aV (us.length+1) cV)
              refine rl_and ⟨hG.but,fun h=>Bool.noConfusion (show true=false from h),fun h=>Bool.noConfusion (show true=false from h)⟩ (fun hS hC=>?_)
              refine rl_done (by kernel_rfl) ?_ _
              generalize ((Z9.setCell ⟨(w.heap.size+1+1+1),6,none⟩ (.slice aK (ks.length+1) cK)).setCell ⟨(w.heap.size+1+1+1),7,none⟩ (.slice aV (us.length+1) cV))=wc at hG ⊢
              clear hS hC
              refine HJ.out _ _ ?_
              clear HJ
              simp only [Act.put,List.setIfInBounds_toArray,List.set_cons_zero,List.set_cons_succ]
              have hcut:=pcut_of hyc hG
              have HF:=Lib.hid (show SLR W2 (w.heap.size+1+1+1) t v s p q n g (.bool false) (.int .i64 ((i:Int)+1)) wc from ⟨i+1,false,_,_,by omega,by omega,rfl,rfl,hcut,HS2.out,Nat.le_trans (sout_len hpq HS2.out) (by omega),by have:=HUL.out;simp;omega⟩)
              clear hcut hG
              go_wp2_with fail
              go_roundg g
              case rel=>exact HF.out
              case measure=>omega
        · have hie:=(HSO.out.1 rfl).1
          obtain rfl:i=p:=by omega
          cases has
          · have hq:q=i:=by have:=of_decide_eq_false HHAS.out;omega
            subst hq
            obtain ⟨he1,he2,he3⟩:=hat.2.2 (Nat.le_refl _)
            clear hat
            unfold eqS at he1
            unfold ltS at he2 he3
            go_wp2_with fail
            go_cut [] from 19 to 109 (fun wx=>PCut W2 (w.heap.size+1+1+1) (ks++[s]) (us++[v]) wx)
            case first =>
              rename_i J K hJ hK
              have HJ:=Lib.hid hJ
              refine wp_first J hK ?_
              clear hJ hK
              refine rl_start (S:=fun L W=>But (w.heap.size+1+1+1) W2 W∧(L.getD 11 false=false→W.cell? ⟨(w.heap.size+1+1+1),6,none⟩=some (.slice ka ks.length kc))∧(L.getD 13 false=false→W.cell? ⟨(w.heap.size+1+1+1),7,none⟩=some (.slice va us.length vc))) (by kernel_rfl) (have hG:=HG.out.below (below_drew (Below.refl _ _));⟨hG.but,fun _=>hG.box.cells.2.2.2.2.2.2.1,fun _=>hG.box.cells.2.2.2.2.2.2.2⟩) (fun hC hS=>?_)
              have hG:=HG.out.below (below_drew (Below.refl _ _))
              obtain ⟨Z0,hW0⟩:∃ x,x=wr.drew:=⟨_,rfl⟩
              rw [← hW0] at hG hS ⊢
              refine rl_pure 0 _ (.pointer (some ⟨(w.heap.size+1+1+1),6,none⟩)) (some 78) rfl (by kernel_rfl) (by kernel_rfl) (by kernel_rfl) (by kernel_rfl) (fun _ _ _ h=>h) (fun L W=>si2 0 11 13 rfl rfl _) (by kernel_rfl) (fun w=>by kernel_rfl) hC hS (fun hC hS=>?_)
              refine rl_load1 1 _ 22 (.tmp 78) ⟨(w.heap.size+1+1+1),6,none⟩ (.slice ka ks.length kc) _ (some 79) rfl (by kernel_rfl) (by kernel_rfl) (by kernel_rfl) (by kernel_rfl) (fun _ _ _ h=>h) (fun L W=>si2 1 11 13 rfl rfl _) (by kernel_rfl) rfl (by kernel_rfl) Tryd.underlying22 rfl (fun L W hC h1 hS=>hS.2.1 (cl_no hC 1 11 _ rfl (by kernel_rfl) h1)) hC hS (fun hC hS=>?_)
              refine rl_pure 2 _ (.string s) (some 80) rfl (by kernel_rfl) (by kernel_rfl) (by kernel_rfl) (by kernel_rfl) (fun _ _ _ h=>h) (fun L W=>si2 2 11 13 rfl rfl _) (by kernel_rfl) (fun w=>by kernel_rfl) hC hS (fun hC hS=>?_)
              refine rl_pure 5 _ (.pointer (some ⟨(w.heap.size+1+1+1),7,none⟩)) (some 83) rfl (by kernel_rfl) (by kernel_rfl) (by kernel_rfl) (by kernel_rfl) (fun _ _ _ h=>h) (fun L W=>si2 5 11 13 rfl rfl _) (by kernel_rfl) (fun w=>by kernel_rfl) hC hS (fun hC hS=>?_)
              refine rl_load1 6 _ 26 (.tmp 83) ⟨(w.heap.size+1+1+1),7,none⟩ (.slice va us.length vc) _ (some 84) rfl (by kernel_rfl) (by kernel_rfl) (by kernel_rfl) (by kernel_rfl) (fun _ _ _ h=>h) (fun L W=>si2 6 11 13 rfl rfl _) (by kernel_rfl) rfl (by kernel_rfl) Tryd.underlying26 rfl (fun L W hC h1 hS=>hS.2.2 (cl_no hC 6 13 _ rfl (by kernel_rfl) h1)) hC hS (fun hC hS=>?_)
              refine rl_loadM 7 _ 28 (.tmp 5) (w.heap.size+1) 0 [.int .i64 yk,.bool yb,.bool yneg,.slice yma ymn ymc,.int .i64 ye,.string ys,.slice yka ykn ykc,.slice yva yvn yvc] _ (some 85) rfl (by kernel_rfl) (by kernel_rfl) (by kernel_rfl) (by kernel_rfl) (fun _ _ _ h=>h) (fun L W=>si2 7 11 13 rfl rfl _) (by kernel_rfl) rfl (by kernel_rfl) Tryd.underlying28 rfl (by kernel_rfl) (fun L W hC h1 hS=>box_range (HT.out W hS.1).1.2) hC hS (fun hC hS=>?_)
              refine rl_all [3,8] (by kernel_rfl) (by simp) hC (rl_two _ _ ?_ ?_)
              refine rl_val 3 _ (.slice (some ⟨Z0.heap.size,0,none⟩) 1 1) (Z0.alloc (.cells #[.string s] 9)) (some 81) rfl (by kernel_rfl) (by kernel_rfl) (by kernel_rfl) ?_
              have hlgK:=heap_alloc_new Z0 (.cells (List.toArray [.string s]) 9)
              replace hG:=hG.alloc (.cells (List.toArray [.string s]) 9)
              generalize Z0.heap.size=gK at hlgK ⊢
              generalize Z0.alloc (.cells #[.string s] 9)=Z1 at hlgK hG  ⊢
              refine rl_and ⟨hG.but,fun _=>hG.box.cells.2.2.2.2.2.2.1,fun _=>hG.box.cells.2.2.2.2.2.2.2⟩ (fun hS hC=>?_)
              refine rl_all [4,8] (by kernel_rfl) (by simp) hC (rl_two _ _ ?_ ?_)
              refine rl_law 4 _ (some 82) rfl (by kernel_rfl) (by kernel_rfl) (R:=fun v' w'=>w'.ownsRow W2.heap.size 9 1 v' (ks.length+1) ((sv ks)++[.string s])∧Z1.grownBy w' (Value.slice ka ks.length kc).ownBlock) (fun K hK=>wp_appV Tryd.underlying22 info_string rfl (by decide) (by decide) Z1 (.tmp 79) (.tmp 81) rfl W2.heap.size _ ks.length (sv ks) (by kernel_rfl) hG.ok (some ⟨gK,0,none⟩) 1 1 [.string s] (by kernel_rfl) rfl (rd_lit Z1 gK _ _ hlgK) (by intro u hu;rw [List.mem_singleton.1 hu];rfl) nofun (by first | omega | (simp;omega)) hG.but.size (fun v' w' h1 h2=>hK v' w' ⟨h1,h2⟩)) ?_
              rintro v' Z2 ⟨ho,hgr⟩
              obtain ⟨aK,cK,rfl,hcK,_⟩:=own_viewN ho
              replace hG:=hG.appK ho hgr
              refine rl_and ⟨hG.but,fun _=>hG.box.cells.2.2.2.2.2.2.1,fun _=>hG.box.cells.2.2.2.2.2.2.2⟩ (fun hS hC=>?_)
              refine rl_pure 10 _ (.pointer (some ⟨(w.heap.size+1+1+1),6,none⟩)) (some 88) rfl (by kernel_rfl) (by kernel_rfl) (by kernel_rfl) (by kernel_rfl) (fun _ _ _ h=>h) (fun L W=>si2 10 11 13 rfl rfl _) (by kernel_rfl) (fun w=>by kernel_rfl) hC hS (fun hC hS=>?_)
              refine rl_all [8] (by kernel_rfl) (by simp) hC (rl_one _ ?_)
              refine rl_val 8 _ (.slice (some ⟨Z2.heap.size,0,none⟩) 1 1) (Z2.alloc (.cells #[.int .i64 yk,.bool yb,.bool yneg,.slice yma ymn ymc,.int .i64 ye,.string ys,.slice yka ykn ykc,.slice yva yvn yvc] 28)) (some 86) rfl (by kernel_rfl) (by kernel_rfl) (by kernel_rfl) ?_
              have hlgV:=heap_alloc_new Z2 (.cells (List.toArray [.int .i64 yk,.bool yb,.bool yneg,.slice yma ymn ymc,.int .i64 ye,.string ys,.slice yka ykn ykc,.slice yva yvn yvc]) 28)
              replace hG:=hG.alloc (.cells (List.toArray [.int .i64 yk,.bool yb,.bool yneg,.slice yma ymn ymc,.int .i64 ye,.string ys,.slice yka ykn ykc,.slice yva yvn yvc]) 28)
              generalize Z2.heap.size=gV at hlgV ⊢
              generalize Z2.alloc (.cells #[.int .i64 yk,.bool yb,.bool yneg,.slice yma ymn ymc,.int .i64 ye,.string ys,.slice yka ykn ykc,.slice yva yvn yvc] 28)=Zt at hlgV hG  ⊢
              refine rl_and ⟨hG.but,fun _=>hG.box.cells.2.2.2.2.2.2.1,fun _=>hG.box.cells.2.2.2.2.2.2.2⟩ (fun hS hC=>?_)
              rotate_left
              refine rl_val 8 _ (.slice (some ⟨Z1.heap.size,0,none⟩) 1 1) (Z1.alloc (.cells #[.int .i64 yk,.bool yb,.bool yneg,.slice yma ymn ymc,.int .i64 ye,.string ys,.slice yka ykn ykc,.slice yva yvn yvc] 28)) (some 86) rfl (by kernel_rfl) (by kernel_rfl) (by kernel_rfl) ?_
              have hlgV:=heap_alloc_new Z1 (.cells (List.toArray [.int .i64 yk,.bool yb,.bool yneg,.slice yma ymn ymc,.int .i64 ye,.string ys,.slice yka ykn ykc,.slice yva yvn yvc]) 28)
              have hlgK:=((Below.refl Z1.heap.size Z1).alloc (Nat.le_refl _) (.cells (List.toArray [.int .i64 yk,.bool yb,.bool yneg,.slice yma ymn ymc,.int .i64 ye,.string ys,.slice yka ykn ykc,.slice yva yvn yvc]) 28)).block _ (Array.getElem?_eq_some_iff.1 hlgK).1 |>.trans hlgK
              replace hG:=hG.alloc (.cells (List.toArray [.int .i64 yk,.bool yb,.bool yneg,.slice yma ymn ymc,.int .i64 ye,.string ys,.slice yka ykn ykc,.slice yva yvn yvc]) 28)
              generalize Z1.heap.size=gV at hlgV ⊢
              generalize Z1.alloc (.cells #[.int .i64 yk,.bool yb,.bool yneg,.slice yma ymn ymc,.int .i64 ye,.string ys,.slice yka ykn ykc,.slice yva yvn yvc] 28)=Z4 at hlgV hG hlgK ⊢
              refine rl_and ⟨hG.but,fun _=>hG.box.cells.2.2.2.2.2.2.1,fun _=>hG.box.cells.2.2.2.2.2.2.2⟩ (fun hS hC=>?_)
              refine rl_all [4] (by kernel_rfl) (by simp) hC (rl_one _ ?_)
              refine rl_law 4 _ (some 82) rfl (by kernel_rfl) (by kernel_rfl) (R:=fun v' w'=>w'.ownsRow W2.heap.size 9 1 v' (ks.length+1) ((sv ks)++[.string s])∧Z4.grownBy w' (Value.slice ka ks.length kc).ownBlock) (fun K hK=>wp_appV Tryd.underlying22 info_string rfl (by decide) (by decide) Z4 (.tmp 79) (.tmp 81) rfl W2.heap.size _ ks.length (sv ks) (by kernel_rfl) hG.ok (some ⟨gK,0,none⟩) 1 1 [.string s] (by kernel_rfl) rfl (rd_lit Z4 gK _ _ hlgK) (by intro u hu;rw [List.mem_singleton.1 hu];rfl) nofun (by first | omega | (simp;omega)) hG.but.size (fun v' w' h1 h2=>hK v' w' ⟨h1,h2⟩)) ?_
              rintro v' Zt ⟨ho,hgr⟩
              obtain ⟨aK,cK,rfl,hcK,_⟩:=own_viewN ho
              replace hlgV:=hG.litV hgr hlgV
              replace hG:=hG.appK ho hgr
              refine rl_and ⟨hG.but,fun _=>hG.box.cells.2.2.2.2.2.2.1,fun _=>hG.box.cells.2.2.2.2.2.2.2⟩ (fun hS hC=>?_)
              refine rl_pure 10 _ (.pointer (some ⟨(w.heap.size+1+1+1),6,none⟩)) (some 88) rfl (by kernel_rfl) (by kernel_rfl) (by kernel_rfl) (by kernel_rfl) (fun _ _ _ h=>h) (fun L W=>si2 10 11 13 rfl rfl _) (by kernel_rfl) (fun w=>by kernel_rfl) hC hS (fun hC hS=>?_)
              rotate_left
              refine rl_val 8 _ (.slice (some ⟨Z0.heap.size,0,none⟩) 1 1) (Z0.alloc (.cells #[.int .i64 yk,.bool yb,.bool yneg,.slice yma ymn ymc,.int .i64 ye,.string ys,.slice yka ykn ykc,.slice yva yvn yvc] 28)) (some 86) rfl (by kernel_rfl) (by kernel_rfl) (by kernel_rfl) ?_
              have hlgV:=heap_alloc_new Z0 (.cells (List.toArray [.int .i64 yk,.bool yb,.bool yneg,.slice yma ymn ymc,.int .i64 ye,.string ys,.slice yka ykn ykc,.slice yva yvn yvc]) 28)
              replace hG:=hG.alloc (.cells (List.toArray [.int .i64 yk,.bool yb,.bool yneg,.slice yma ymn ymc,.int .i64 ye,.string ys,.slice yka ykn ykc,.slice yva yvn yvc]) 28)
              generalize Z0.heap.size=gV at hlgV ⊢
              generalize Z0.alloc (.cells #[.int .i64 yk,.bool yb,.bool yneg,.slice yma ymn ymc,.int .i64 ye,.string ys,.slice yka ykn ykc,.slice yva yvn yvc] 28)=Z6 at hlgV hG  ⊢
              refine rl_and ⟨hG.but,fun _=>hG.box.cells.2.2.2.2.2.2.1,fun _=>hG.box.cells.2.2.2.2.2.2.2⟩ (fun hS hC=>?_)
              refine rl_all [3] (by kernel_rfl) (by simp) hC (rl_one _ ?_)
              refine rl_val 3 _ (.slice (some ⟨Z6.heap.size,0,none⟩) 1 1) (Z6.alloc (.cells #[.string s] 9)) (some 81) rfl (by kernel_rfl) (by kernel_rfl) (by kernel_rfl) ?_
              have hlgK:=heap_alloc_new Z6 (.cells (List.toArray [.string s]) 9)
              have hlgV:=((Below.refl Z6.heap.size Z6).alloc (Nat.le_refl _) (.cells (List.toArray [.string s]) 9)).block _ (Array.getElem?_eq_some_iff.1 hlgV).1 |>.trans hlgV
              replace hG:=hG.alloc (.cells (List.toArray [.string s]) 9)
              generalize Z6.heap.size=gK at hlgK ⊢
              generalize Z6.alloc (.cells #[.string s] 9)=Z7 at hlgK hG hlgV ⊢
              refine rl_and ⟨hG.but,fun _=>hG.box.cells.2.2.2.2.2.2.1,fun _=>hG.box.cells.2.2.2.2.2.2.2⟩ (fun hS hC=>?_)
              refine rl_all [4] (by kernel_rfl) (by simp) hC (rl_one _ ?_)
              refine rl_law 4 _ (some 82) rfl (by kernel_rfl) (by kernel_rfl) (R:=fun v' w'=>w'.ownsRow W2.heap.size 9 1 v' (ks.length+1) ((sv ks)++[.string s])∧Z7.grownBy w' (Value.slice ka ks.length kc).ownBlock) (fun K hK=>wp_appV Tryd.underlying22 info_string rfl (by decide) (by decide) Z7 (.tmp 79) (.tmp 81) rfl W2.heap.size _ ks.length (sv ks) (by kernel_rfl) hG.ok (some ⟨gK,0,none⟩) 1 1 [.string s] (by kernel_rfl) rfl (rd_lit Z7 gK _ _ hlgK) (by intro u hu;rw [List.mem_singleton.1 hu];rfl) nofun (by first | omega | (simp;omega)) hG.but.size (fun v' w' h1 h2=>hK v' w' ⟨h1,h2⟩)) ?_
              rintro v' Zt ⟨ho,hgr⟩
              obtain ⟨aK,cK,rfl,hcK,_⟩:=own_viewN ho
              replace hlgV:=hG.litV hgr hlgV
              replace hG:=hG.appK ho hgr
              refine rl_and ⟨hG.but,fun _=>hG.box.cells.2.2.2.2.2.2.1,fun _=>hG.box.cells.2.2.2.2.2.2.2⟩ (fun hS hC=>?_)
              refine rl_pure 10 _ (.pointer (some ⟨(w.heap.size+1+1+1),6,none⟩)) (some 88) rfl (by kernel_rfl) (by kernel_rfl) (by kernel_rfl) (by kernel_rfl) (fun _ _ _ h=>h) (fun L W=>si2 10 11 13 rfl rfl _) (by kernel_rfl) (fun w=>by kernel_rfl) hC hS (fun hC hS=>?_)
              rotate_left
              all_goals
                refine rl_all [9] (by kernel_rfl) (by simp) hC (rl_one _ ?_)
                refine rl_law 9 _ (some 87) rfl (by kernel_rfl) (by kernel_rfl) (R:=fun v' w'=>w'.ownsRow W2.heap.size 28 8 v' (us.length+1) (flat (us.map MT.c)++[.int .i64 yk,.bool yb,.bool yneg,.slice yma ymn ymc,.int .i64 ye,.string ys,.slice yka ykn ykc,.slice yva yvn yvc])∧Zt.grownBy w' (Value.slice va us.length vc).ownBlock) (fun K hK=>wp_appV Tryd.underlying26 info_tree rfl (by decide) (by decide) Zt (.tmp 84) (.tmp 86) rfl W2.heap.size _ us.length (flat (us.map MT.c)) (by kernel_rfl) hG.ov (some ⟨gV,0,none⟩) 1 1 [.int .i64 yk,.bool yb,.bool yneg,.slice yma ymn ymc,.int .i64 ye,.string ys,.slice yka ykn ykc,.slice yva yvn yvc] (by kernel_rfl) rfl (rd_lit Zt gV _ _ hlgV) (cel_one ⟨yk,yb,yneg,yma,ymn,ymc,ye,ys,yka,ykn,ykc,yva,yvn,yvc⟩) nofun (by first | omega | (simp;omega)) hG.but.size (fun v' w' h1 h2=>hK v' w' ⟨h1,h2⟩)) ?_
                rintro v' Z9 ⟨ho,hgr⟩
                obtain ⟨aV,cV,rfl,hcV,_⟩:=own_viewN ho
                replace hG:=hG.appV ho hgr
                refine rl_and ⟨hG.but,fun _=>hG.box.cells.2.2.2.2.2.2.1,fun _=>hG.box.cells.2.2.2.2.2.2.2⟩ (fun hS hC=>?_)
                refine rl_all [11] (by kernel_rfl) (by simp) hC (rl_one _ ?_)
                refine rl_store 11 _ 22 (.tmp 88) (.tmp 82) ⟨(w.heap.size+1+1+1),6,none⟩ (.slice aK (ks.length+1) cK) rfl (by kernel_rfl) (by kernel_rfl) rfl (by kernel_rfl) (by kernel_rfl) (by kernel_rfl) rfl (by rw [hG.box.cells.2.2.2.2.2.2.1];rfl) (hG.box.free 6) ?_
                replace hG:=hG.set 6 (.slice aK (ks.length+1) cK) (box_set6 hG.box aK (ks.length+1) cK)
                refine rl_and ⟨hG.but,fun h=>Bool.noConfusion (show true=false from h),fun _=>hG.box.cells.2.2.2.2.2.2.2⟩ (fun hS hC=>?_)
                refine rl_pure 12 _ (.pointer (some ⟨(w.heap.size+1+1+1),7,none⟩)) (some 89) rfl (by kernel_rfl) (by kernel_rfl) (by kernel_rfl) (by kernel_rfl) (fun _ _ _ h=>h) (fun L W=>si2 12 11 13 rfl rfl _) (by kernel_rfl) (fun w=>by kernel_rfl) hC hS (fun hC hS=>?_)
                refine rl_all [13] (by kernel_rfl) (by simp) hC (rl_one _ ?_)
                refine rl_store 13 _ 26 (.tmp 89) (.tmp 87) ⟨(w.heap.size+1+1+1),7,none⟩ (.slice aV (us.length+1) cV) rfl (by kernel_rfl) (by kernel_rfl) rfl (by kernel_rfl) (by kernel_rfl) (by kernel_rfl) rfl (by rw [hG.box.cells.2.2.2.2.2.2.2];rfl) (hG.box.free 7) ?_
                replace hG:=hG.set 7 (.slice aV (us.length+1) cV) (box_set hG.box aV (us.length+1) cV)
                refine rl_and ⟨hG.but,fun h=>Bool.noConfusion (show true=false from h),fun h=>Bool.noConfusion (show true=false from h)⟩ (fun hS hC=>?_)
                refine rl_done (by kernel_rfl) ?_ _
                refine HJ.out _ _ ?_
                clear HJ
                simp only [Act.put,List.setIfInBounds_toArray,List.set_cons_zero,List.set_cons_succ]
                (repeat apply Exists.intro)
                exact ⟨pcut_of HCV.out hG,rfl⟩
            case rest =>
              obtain ⟨ka,kc,va,vc,hG⟩:=hcut
              have HS2:=Lib.hid (by have:=SNEW.out HSO.out hik hiv;rwa [hxx] at this:SOut t v s q q (q+1) true (ks++[s]++[x]) (us++[v]++[t.v.getD q (leafT 0 false ⟨#[]⟩)]))
              have HGo:=Lib.hid HG.out
              have HG:=Lib.hid hG
              obtain ⟨wr',hwr⟩:∃ x,x=wc:=⟨_,rfl⟩
              clear hG
              go_wp2_with fail
              refine wp_norm (fun J hJ=>?_)
              have HJ:=Lib.hid hJ
              clear hJ
              refine rl_start (S:=fun L W=>But (w.heap.size+1+1+1) W2 W∧(L.getD 19 false=false→W.cell? ⟨(w.heap.size+1+1+1),6,none⟩=some (.slice ka (ks++[s]).length kc))∧(L.getD 21 false=false→W.cell? ⟨(w.heap.size+1+1+1),7,none⟩=some (.slice va (us++[v]).length vc))) (by kernel_rfl) (have hG:=HG.out.below (below_drew (Below.refl _ _));⟨hG.but,fun _=>hG.box.cells.2.2.2.2.2.2.1,fun _=>hG.box.cells.2.2.2.2.2.2.2⟩) (fun hC hS=>?_)
              have hG:=HG.out.below (below_drew (Below.refl _ _))
              obtain ⟨Z0,hW0⟩:∃ x,x=wc.drew:=⟨_,rfl⟩
              rw [← hW0] at hG hS ⊢
              refine rl_pure 0 _ (.pointer (some ⟨(w.heap.size+1+1+1),6,none⟩)) (some 90) rfl (by kernel_rfl) (by kernel_rfl) (by kernel_rfl) (by kernel_rfl) (fun _ _ _ h=>h) (fun L W=>si2 0 19 21 rfl rfl _) (by kernel_rfl) (fun w=>by kernel_rfl) hC hS (fun hC hS=>?_)
              refine rl_load1 1 _ 22 (.tmp 90) ⟨(w.heap.size+1+1+1),6,none⟩ (.slice ka (ks++[s]).length kc) _ (some 91) rfl (by kernel_rfl) (by kernel_rfl) (by kernel_rfl) (by kernel_rfl) (fun _ _ _ h=>h) (fun L W=>si2 1 19 21 rfl rfl _) (by kernel_rfl) rfl (by kernel_rfl) Tryd.underlying22 rfl (fun L W hC h1 hS=>hS.2.1 (cl_no hC 1 19 _ rfl (by kernel_rfl) h1)) hC hS (fun hC hS=>?_)
              refine rl_pure 2 _ (.pointer (some ⟨w.heap.size,6,none⟩)) (some 92) rfl (by kernel_rfl) (by kernel_rfl) (by kernel_rfl) (by kernel_rfl) (fun _ _ _ h=>h) (fun L W=>si2 2 19 21 rfl rfl _) (by kernel_rfl) (fun w=>by kernel_rfl) hC hS (fun hC hS=>?_)
              refine rl_load1 3 _ 22 (.tmp 92) ⟨w.heap.size,6,none⟩ (.slice (some ⟨nbk,nof,none⟩) n kc0) _ (some 93) rfl (by kernel_rfl) (by kernel_rfl) (by kernel_rfl) (by kernel_rfl) (fun _ _ _ h=>h) (fun L W=>si2 3 19 21 rfl rfl _) (by kernel_rfl) rfl (by kernel_rfl) Tryd.underlying22 rfl (fun L W hC h1 hS=>(HT.out W hS.1).1.1.cells.2.2.2.2.2.2.1) hC hS (fun hC hS=>?_)
              refine rl_pure 4 _ (.int .i64 (q:Int)) (some 94) rfl (by kernel_rfl) (by kernel_rfl) (by kernel_rfl) (by kernel_rfl) (fun _ _ _ h=>h) (fun L W=>si2 4 19 21 rfl rfl _) (by kernel_rfl) (fun w=>by kernel_rfl) hC hS (fun hC hS=>?_)
              refine rl_pure 5 _ (.pointer (some ⟨nbk,nof+q,none⟩)) (some 95) rfl (by kernel_rfl) (by kernel_rfl) (by kernel_rfl) (by kernel_rfl) (fun _ _ _ h=>h) (fun L W=>si2 5 19 21 rfl rfl _) (by kernel_rfl) (fun w=>rl_idx w _ _ _ _ _ 9 nbk nof n kc0 q q 1 rfl (by kernel_rfl) (by kernel_rfl) Tryd.underlying22 (by kernel_rfl) hin (Nat.mul_one _)) hC hS (fun hC hS=>?_)
              refine rl_load1 6 _ 9 (.tmp 95) ⟨nbk,nof+q,none⟩ (.string x) _ (some 96) rfl (by kernel_rfl) (by kernel_rfl) (by kernel_rfl) (by kernel_rfl) (fun _ _ _ h=>h) (fun L W=>si2 6 19 21 rfl rfl _) (by kernel_rfl) rfl (by kernel_rfl) Tryd.underlying9 rfl (fun L W hC h1 hS=>(HX.out W hS.1)) hC hS (fun hC hS=>?_)
              refine rl_pure 9 _ (.pointer (some ⟨(w.heap.size+1+1+1),7,none⟩)) (some 99) rfl (by kernel_rfl) (by kernel_rfl) (by kernel_rfl) (by kernel_rfl) (fun _ _ _ h=>h) (fun L W=>si2 9 19 21 rfl rfl _) (by kernel_rfl) (fun w=>by kernel_rfl) hC hS (fun hC hS=>?_)
              refine rl_load1 10 _ 26 (.tmp 99) ⟨(w.heap.size+1+1+1),7,none⟩ (.slice va (us++[v]).length vc) _ (some 100) rfl (by kernel_rfl) (by kernel_rfl) (by kernel_rfl) (by kernel_rfl) (fun _ _ _ h=>h) (fun L W=>si2 10 19 21 rfl rfl _) (by kernel_rfl) rfl (by kernel_rfl) Tryd.underlying26 rfl (fun L W hC h1 hS=>hS.2.2 (cl_no hC 10 21 _ rfl (by kernel_rfl) h1)) hC hS (fun hC hS=>?_)
              refine rl_pure 11 _ (.pointer (some ⟨w.heap.size,7,none⟩)) (some 101) rfl (by kernel_rfl) (by kernel_rfl) (by kernel_rfl) (by kernel_rfl) (fun _ _ _ h=>h) (fun L W=>si2 11 19 21 rfl rfl _) (by kernel_rfl) (fun w=>by kernel_rfl) hC hS (fun hC hS=>?_)
              refine rl_load1 12 _ 26 (.tmp 101) ⟨w.heap.size,7,none⟩ (.slice (some ⟨tbk,tof,none⟩) n vc0) _ (some 102) rfl (by kernel_rfl) (by kernel_rfl) (by kernel_rfl) (by kernel_rfl) (fun _ _ _ h=>h) (fun L W=>si2 12 19 21 rfl rfl _) (by kernel_rfl) rfl (by kernel_rfl) Tryd.underlying26 rfl (fun L W hC h1 hS=>(HT.out W hS.1).1.1.cells.2.2.2.2.2.2.2) hC hS (fun hC hS=>?_)
              refine rl_pure 13 _ (.int .i64 (q:Int)) (some 103) rfl (by kernel_rfl) (by kernel_rfl) (by kernel_rfl) (by kernel_rfl) (fun _ _ _ h=>h) (fun L W=>si2 13 19 21 rfl rfl _) (by kernel_rfl) (fun w=>by kernel_rfl) hC hS (fun hC hS=>?_)
              refine rl_pure 14 _ (.pointer (some ⟨tbk,tof+q*8,none⟩)) (some 104) rfl (by kernel_rfl) (by kernel_rfl) (by kernel_rfl) (by kernel_rfl) (fun _ _ _ h=>h) (fun L W=>si2 14 19 21 rfl rfl _) (by kernel_rfl) (fun w=>rl_idx w _ _ _ _ _ 28 tbk tof n vc0 q (q*8) 8 rfl (by kernel_rfl) (by kernel_rfl) Tryd.underlying26 (by kernel_rfl) hin rfl) hC hS (fun hC hS=>?_)
              refine rl_loadM 15 _ 28 (.tmp 104) tbk (tof+q*8) [.int .i64 zk,.bool zb,.bool zneg,.slice zma zmn zmc,.int .i64 ze,.string zs,.slice zka zkn zkc,.slice zva zvn zvc] _ (some 105) rfl (by kernel_rfl) (by kernel_rfl) (by kernel_rfl) (by kernel_rfl) (fun _ _ _ h=>h) (fun L W=>si2 15 19 21 rfl rfl _) (by kernel_rfl) rfl (by kernel_rfl) Tryd.underlying28 rfl (by kernel_rfl) (fun L W hC h1 hS=>flat_range (HT.out W hS.1).2.2 q hiv hy) hC hS (fun hC hS=>?_)
              refine rl_all [7,16] (by kernel_rfl) (by simp) hC (rl_two _ _ ?_ ?_)
              refine rl_val 7 _ (.slice (some ⟨Z0.heap.size,0,none⟩) 1 1) (Z0.alloc (.cells #[.string x] 9)) (some 97) rfl (by kernel_rfl) (by kernel_rfl) (by kernel_rfl) ?_
              have hlgK:=heap_alloc_new Z0 (.cells (List.toArray [.string x]) 9)
              replace hG:=hG.alloc (.cells (List.toArray [.string x]) 9)
              generalize Z0.heap.size=gK at hlgK ⊢
              generalize Z0.alloc (.cells #[.string x] 9)=Z1 at hlgK hG  ⊢
              refine rl_and ⟨hG.but,fun _=>hG.box.cells.2.2.2.2.2.2.1,fun _=>hG.box.cells.2.2.2.2.2.2.2⟩ (fun hS hC=>?_)
              refine rl_all [8,16] (by kernel_rfl) (by simp) hC (rl_two _ _ ?_ ?_)
              refine rl_law 8 _ (some 98) rfl (by kernel_rfl) (by kernel_rfl) (R:=fun v' w'=>w'.ownsRow W2.heap.size 9 1 v' ((ks++[s]).length+1) ((sv (ks++[s]))++[.string x])∧Z1.grownBy w' (Value.slice ka (ks++[s]).length kc).ownBlock) (fun K hK=>wp_appV Tryd.underlying22 info_string rfl (by decide) (by decide) Z1 (.tmp 91) (.tmp 97) rfl W2.heap.size _ (ks++[s]).length (sv (ks++[s])) (by kernel_rfl) hG.ok (some ⟨gK,0,none⟩) 1 1 [.string x] (by kernel_rfl) rfl (rd_lit Z1 gK _ _ hlgK) (by intro u hu;rw [List.mem_singleton.1 hu];rfl) nofun (by first | omega | (simp;omega)) hG.but.size (fun v' w' h1 h2=>hK v' w' ⟨h1,h2⟩)) ?_
              rintro v' Z2 ⟨ho,hgr⟩
              obtain ⟨aK,cK,rfl,hcK,_⟩:=own_viewN ho
              replace hG:=hG.appK ho hgr
              refine rl_and ⟨hG.but,fun _=>hG.box.cells.2.2.2.2.2.2.1,fun _=>hG.box.cells.2.2.2.2.2.2.2⟩ (fun hS hC=>?_)
              refine rl_pure 18 _ (.pointer (some ⟨(w.heap.size+1+1+1),6,none⟩)) (some 108) rfl (by kernel_rfl) (by kernel_rfl) (by kernel_rfl) (by kernel_rfl) (fun _ _ _ h=>h) (fun L W=>si2 18 19 21 rfl rfl _) (by kernel_rfl) (fun w=>by kernel_rfl) hC hS (fun hC hS=>?_)
              refine rl_all [16] (by kernel_rfl) (by simp) hC (rl_one _ ?_)
              refine rl_val 16 _ (.slice (some ⟨Z2.heap.size,0,none⟩) 1 1) (Z2.alloc (.cells #[.int .i64 zk,.bool zb,.bool zneg,.slice zma zmn zmc,.int .i64 ze,.string zs,.slice zka zkn zkc,.slice zva zvn zvc] 28)) (some 106) rfl (by kernel_rfl) (by kernel_rfl) (by kernel_rfl) ?_
              have hlgV:=heap_alloc_new Z2 (.cells (List.toArray [.int .i64 zk,.bool zb,.bool zneg,.slice zma zmn zmc,.int .i64 ze,.string zs,.slice zka zkn zkc,.slice zva zvn zvc]) 28)
              replace hG:=hG.alloc (.cells (List.toArray [.int .i64 zk,.bool zb,.bool zneg,.slice zma zmn zmc,.int .i64 ze,.string zs,.slice zka zkn zkc,.slice zva zvn zvc]) 28)
              generalize Z2.heap.size=gV at hlgV ⊢
              generalize Z2.alloc (.cells #[.int .i64 zk,.bool zb,.bool zneg,.slice zma zmn zmc,.int .i64 ze,.string zs,.slice zka zkn zkc,.slice zva zvn zvc] 28)=Zt at hlgV hG  ⊢
              refine rl_and ⟨hG.but,fun _=>hG.box.cells.2.2.2.2.2.2.1,fun _=>hG.box.cells.2.2.2.2.2.2.2⟩ (fun hS hC=>?_)
              rotate_left
              refine rl_val 16 _ (.slice (some ⟨Z1.heap.size,0,none⟩) 1 1) (Z1.alloc (.cells #[.int .i64 zk,.bool zb,.bool zneg,.slice zma zmn zmc,.int .i64 ze,.string zs,.slice zka zkn zkc,.slice zva zvn zvc] 28)) (some 106) rfl (by kernel_rfl) (by kernel_rfl) (by kernel_rfl) ?_
              have hlgV:=heap_alloc_new Z1 (.cells (List.toArray [.int .i64 zk,.bool zb,.bool zneg,.slice zma zmn zmc,.int .i64 ze,.string zs,.slice zka zkn zkc,.slice zva zvn zvc]) 28)
              have hlgK:=((Below.refl Z1.heap.size Z1).alloc (Nat.le_refl _) (.cells (List.toArray [.int .i64 zk,.bool zb,.bool zneg,.slice zma zmn zmc,.int .i64 ze,.string zs,.slice zka zkn zkc,.slice zva zvn zvc]) 28)).block _ (Array.getElem?_eq_some_iff.1 hlgK).1 |>.trans hlgK
              replace hG:=hG.alloc (.cells (List.toArray [.int .i64 zk,.bool zb,.bool zneg,.slice zma zmn zmc,.int .i64 ze,.string zs,.slice zka zkn zkc,.slice zva zvn zvc]) 28)
              generalize Z1.heap.size=gV at hlgV ⊢
              generalize Z1.alloc (.cells #[.int .i64 zk,.bool zb,.bool zneg,.slice zma zmn zmc,.int .i64 ze,.string zs,.slice zka zkn zkc,.slice zva zvn zvc] 28)=Z4 at hlgV hG hlgK ⊢
              refine rl_and ⟨hG.but,fun _=>hG.box.cells.2.2.2.2.2.2.1,fun _=>hG.box.cells.2.2.2.2.2.2.2⟩ (fun hS hC=>?_)
              refine rl_all [8] (by kernel_rfl) (by simp) hC (rl_one _ ?_)
              refine rl_law 8 _ (some 98) rfl (by kernel_rfl) (by kernel_rfl) (R:=fun v' w'=>w'.ownsRow W2.heap.size 9 1 v' ((ks++[s]).length+1) ((sv (ks++[s]))++[.string x])∧Z4.grownBy w' (Value.slice ka (ks++[s]).length kc).ownBlock) (fun K hK=>wp_appV Tryd.underlying22 info_string rfl (by decide) (by decide) Z4 (.tmp 91) (.tmp 97) rfl W2.heap.size _ (ks++[s]).length (sv (ks++[s])) (by kernel_rfl) hG.ok (some ⟨gK,0,none⟩) 1 1 [.string x] (by kernel_rfl) rfl (rd_lit Z4 gK _ _ hlgK) (by intro u hu;rw [List.mem_singleton.1 hu];rfl) nofun (by first | omega | (simp;omega)) hG.but.size (fun v' w' h1 h2=>hK v' w' ⟨h1,h2⟩)) ?_
              rintro v' Zt ⟨ho,hgr⟩
              obtain ⟨aK,cK,rfl,hcK,_⟩:=own_viewN ho
              replace hlgV:=hG.litV hgr hlgV
              replace hG:=hG.appK ho hgr
              refine rl_and ⟨hG.but,fun _=>hG.box.cells.2.2.2.2.2.2.1,fun _=>hG.box.cells.2.2.2.2.2.2.2⟩ (fun hS hC=>?_)
              refine rl_pure 18 _ (.pointer (some ⟨(w.heap.size+1+1+1),6,none⟩)) (some 108) rfl (by kernel_rfl) (by kernel_rfl) (by kernel_rfl) (by kernel_rfl) (fun _ _ _ h=>h) (fun L W=>si2 18 19 21 rfl rfl _) (by kernel_rfl) (fun w=>by kernel_rfl) hC hS (fun hC hS=>?_)
              rotate_left
              refine rl_val 16 _ (.slice (some ⟨Z0.heap.size,0,none⟩) 1 1) (Z0.alloc (.cells #[.int .i64 zk,.bool zb,.bool zneg,.slice zma zmn zmc,.int .i64 ze,.string zs,.slice zka zkn zkc,.slice zva zvn zvc] 28)) (some 106) rfl (by kernel_rfl) (by kernel_rfl) (by kernel_rfl) ?_
              have hlgV:=heap_alloc_new Z0 (.cells (List.toArray [.int .i64 zk,.bool zb,.bool zneg,.slice zma zmn zmc,.int .i64 ze,.string zs,.slice zka zkn zkc,.slice zva zvn zvc]) 28)
              replace hG:=hG.alloc (.cells (List.toArray [.int .i64 zk,.bool zb,.bool zneg,.slice zma zmn zmc,.int .i64 ze,.string zs,.slice zka zkn zkc,.slice zva zvn zvc]) 28)
              generalize Z0.heap.size=gV at hlgV ⊢
              generalize Z0.alloc (.cells #[.int .i64 zk,.bool zb,.bool zneg,.slice zma zmn zmc,.int .i64 ze,.string zs,.slice zka zkn zkc,.slice zva zvn zvc] 28)=Z6 at hlgV hG  ⊢
              refine rl_and ⟨hG.but,fun _=>hG.box.cells.2.2.2.2.2.2.1,fun _=>hG.box.cells.2.2.2.2.2.2.2⟩ (fun hS hC=>?_)
              refine rl_all [7] (by kernel_rfl) (by simp) hC (rl_one _ ?_)
              refine rl_val 7 _ (.slice (some ⟨Z6.heap.size,0,none⟩) 1 1) (Z6.alloc (.cells #[.string x] 9)) (some 97) rfl (by kernel_rfl) (by kernel_rfl) (by kernel_rfl) ?_
              have hlgK:=heap_alloc_new Z6 (.cells (List.toArray [.string x]) 9)
              have hlgV:=((Below.refl Z6.heap.size Z6).alloc (Nat.le_refl _) (.cells (List.toArray [.string x]) 9)).block _ (Array.getElem?_eq_some_iff.1 hlgV).1 |>.trans hlgV
              replace hG:=hG.alloc (.cells (List.toArray [.string x]) 9)
              generalize Z6.heap.size=gK at hlgK ⊢
              generalize Z6.alloc (.cells #[.string x] 9)=Z7 at hlgK hG hlgV ⊢
              refine rl_and ⟨hG.but,fun _=>hG.box.cells.2.2.2.2.2.2.1,fun _=>hG.box.cells.2.2.2.2.2.2.2⟩ (fun hS hC=>?_)
              refine rl_all [8] (by kernel_rfl) (by simp) hC (rl_one _ ?_)
              refine rl_law 8 _ (some 98) rfl (by kernel_rfl) (by kernel_rfl) (R:=fun v' w'=>w'.ownsRow W2.heap.size 9 1 v' ((ks++[s]).length+1) ((sv (ks++[s]))++[.string x])∧Z7.grownBy w' (Value.slice ka (ks++[s]).length kc).ownBlock) (fun K hK=>wp_appV Tryd.underlying22 info_string rfl (by decide) (by decide) Z7 (.tmp 91) (.tmp 97) rfl W2.heap.size _ (ks++[s]).length (sv (ks++[s])) (by kernel_rfl) hG.ok (some ⟨gK,0,none⟩) 1 1 [.string x] (by kernel_rfl) rfl (rd_lit Z7 gK _ _ hlgK) (by intro u hu;rw [List.mem_singleton.1 hu];rfl) nofun (by first | omega | (simp;omega)) hG.but.size (fun v' w' h1 h2=>hK v' w' ⟨h1,h2⟩)) ?_
              rintro v' Zt ⟨ho,hgr⟩
              obtain ⟨aK,cK,rfl,hcK,_⟩:=own_viewN ho
              replace hlgV:=hG.litV hgr hlgV
              replace hG:=hG.appK ho hgr
              refine rl_and ⟨hG.but,fun _=>hG.box.cells.2.2.2.2.2.2.1,fun _=>hG.box.cells.2.2.2.2.2.2.2⟩ (fun hS hC=>?_)
              refine rl_pure 18 _ (.pointer (some ⟨(w.heap.size+1+1+1),6,none⟩)) (some 108) rfl (by kernel_rfl) (by kernel_rfl) (by kernel_rfl) (by kernel_rfl) (fun _ _ _ h=>h) (fun L W=>si2 18 19 21 rfl rfl _) (by kernel_rfl) (fun w=>by kernel_rfl) hC hS (fun hC hS=>?_)
              rotate_left
              all_goals
                refine rl_all [17] (by kernel_rfl) (by simp) hC (rl_one _ ?_)
                refine rl_law 17 _ (some 107) rfl (by kernel_rfl) (by kernel_rfl) (R:=fun v' w'=>w'.ownsRow W2.heap.size 28 8 v' ((us++[v]).length+1) (flat ((us++[v]).map MT.c)++[.int .i64 zk,.bool zb,.bool zneg,.slice zma zmn zmc,.int .i64 ze,.string zs,.slice zka zkn zkc,.slice zva zvn zvc])∧Zt.grownBy w' (Value.slice va (us++[v]).length vc).ownBlock) (fun K hK=>wp_appV Tryd.underlying26 info_tree rfl (by decide) (by decide) Zt (.tmp 100) (.tmp 106) rfl W2.heap.size _ (us++[v]).length (flat ((us++[v]).map MT.c)) (by kernel_rfl) hG.ov (some ⟨gV,0,none⟩) 1 1 [.int .i64 zk,.bool zb,.bool zneg,.slice zma zmn zmc,.int .i64 ze,.string zs,.slice zka zkn zkc,.slice zva zvn zvc] (by kernel_rfl) rfl (rd_lit Zt gV _ _ hlgV) (cel_one ⟨zk,zb,zneg,zma,zmn,zmc,ze,zs,zka,zkn,zkc,zva,zvn,zvc⟩) nofun (by first | omega | (simp;omega)) hG.but.size (fun v' w' h1 h2=>hK v' w' ⟨h1,h2⟩)) ?_
                rintro v' Z9 ⟨ho,hgr⟩
                obtain ⟨aV,cV,rfl,hcV,_⟩:=own_viewN ho
                replace hG:=hG.appV ho hgr
                refine rl_and ⟨hG.but,fun _=>hG.box.cells.2.2.2.2.2.2.1,fun _=>hG.box.cells.2.2.2.2.2.2.2⟩ (fun hS hC=>?_)
                refine rl_all [19] (by kernel_rfl) (by simp) hC (rl_one _ ?_)
                refine rl_store 19 _ 22 (.tmp 108) (.tmp 98) ⟨(w.heap.size+1+1+1),6,none⟩ (.slice aK ((ks++[s]).length+1) cK) rfl (by kernel_rfl) (by kernel_rfl) rfl (by kernel_rfl) (by kernel_rfl) (by kernel_rfl) rfl (by rw [hG.box.cells.2.2.2.2.2.2.1];rfl) (hG.box.free 6) ?_
                replace hG:=hG.set 6 (.slice aK ((ks++[s]).length+1) cK) (box_set6 hG.box aK ((ks++[s]).length+1) cK)
                refine rl_and ⟨hG.but,fun h=>Bool.noConfusion (show true=false from h),fun _=>hG.box.cells.2.2.2.2.2.2.2⟩ (fun hS hC=>?_)
                refine rl_pure 20 _ (.pointer (some ⟨(w.heap.size+1+1+1),7,none⟩)) (some 109) rfl (by kernel_rfl) (by kernel_rfl) (by kernel_rfl) (by kernel_rfl) (fun _ _ _ h=>h) (fun L W=>si2 20 19 21 rfl rfl _) (by kernel_rfl) (fun w=>by kernel_rfl) hC hS (fun hC hS=>?_)
                refine rl_all [21] (by kernel_rfl) (by simp) hC (rl_one _ ?_)
                refine rl_store 21 _ 26 (.tmp 109) (.tmp 107) ⟨(w.heap.size+1+1+1),7,none⟩ (.slice aV ((us++[v]).length+1) cV) rfl (by kernel_rfl) (by kernel_rfl) rfl (by kernel_rfl) (by kernel_rfl) (by kernel_rfl) rfl (by rw [hG.box.cells.2.2.2.2.2.2.2];rfl) (hG.box.free 7) ?_
                replace hG:=hG.set 7 (.slice aV ((us++[v]).length+1) cV) (box_set hG.box aV ((us++[v]).length+1) cV)
                refine rl_and ⟨hG.but,fun h=>Bool.noConfusion (show true=false from h),fun h=>Bool.noConfusion (show true=false from h)⟩ (fun hS hC=>?_)
                refine rl_done (by kernel_rfl) ?_ _
                generalize ((Z9.setCell ⟨(w.heap.size+1+1+1),6,none⟩ (.slice aK ((ks++[s]).length+1) cK)).setCell ⟨(w.heap.size+1+1+1),7,none⟩ (.slice aV ((us++[v]).length+1) cV))=wc at hG ⊢
                clear hS hC
                refine HJ.out _ _ ?_
                clear HJ
                simp only [Act.put,List.setIfInBounds_toArray,List.set_cons_zero,List.set_cons_succ]
                have hcut:=pcut_of hyc hG
                have HF:=Lib.hid (show SLR W2 (w.heap.size+1+1+1) t v s q q n g (.bool true) (.int .i64 ((q:Int)+1)) wc from ⟨q+1,true,_,_,by omega,by omega,rfl,rfl,hcut,HS2.out,Nat.le_trans (sout_len hpq HS2.out) (by omega),by have:=HUL.out;simp;omega⟩)
                clear hcut hG
                go_wp2_with fail
                go_roundg g
                case rel=>exact HF.out
                case measure=>omega
          · have hq:q=i+1:=of_decide_eq_true HHAS.out
            have he1:=hat.2.1 (Nat.le_refl _) (by omega)
            have HS2:=Lib.hid (sout_has HSO.out hq)
            clear hat
            unfold eqS at he1
            go_wp2_with fail
            go_cut [] from 19 to 109 (fun wx=>PCut W2 (w.heap.size+1+1+1) (ks++[s]) (us++[v]) wx)
            case first =>
              rename_i J K hJ hK
              have HJ:=Lib.hid hJ
              refine wp_first J hK ?_
              clear hJ hK
              refine rl_start (S:=fun L W=>But (w.heap.size+1+1+1) W2 W∧(L.getD 11 false=false→W.cell? ⟨(w.heap.size+1+1+1),6,none⟩=some (.slice ka ks.length kc))∧(L.getD 13 false=false→W.cell? ⟨(w.heap.size+1+1+1),7,none⟩=some (.slice va us.length vc))) (by kernel_rfl) (have hG:=HG.out.below (below_drew (Below.refl _ _));⟨hG.but,fun _=>hG.box.cells.2.2.2.2.2.2.1,fun _=>hG.box.cells.2.2.2.2.2.2.2⟩) (fun hC hS=>?_)
              have hG:=HG.out.below (below_drew (Below.refl _ _))
              obtain ⟨Z0,hW0⟩:∃ x,x=wr.drew:=⟨_,rfl⟩
              rw [← hW0] at hG hS ⊢
              refine rl_pure 0 _ (.pointer (some ⟨(w.heap.size+1+1+1),6,none⟩)) (some 50) rfl (by kernel_rfl) (by kernel_rfl) (by kernel_rfl) (by kernel_rfl) (fun _ _ _ h=>h) (fun L W=>si2 0 11 13 rfl rfl _) (by kernel_rfl) (fun w=>by kernel_rfl) hC hS (fun hC hS=>?_)
              refine rl_load1 1 _ 22 (.tmp 50) ⟨(w.heap.size+1+1+1),6,none⟩ (.slice ka ks.length kc) _ (some 51) rfl (by kernel_rfl) (by kernel_rfl) (by kernel_rfl) (by kernel_rfl) (fun _ _ _ h=>h) (fun L W=>si2 1 11 13 rfl rfl _) (by kernel_rfl) rfl (by kernel_rfl) Tryd.underlying22 rfl (fun L W hC h1 hS=>hS.2.1 (cl_no hC 1 11 _ rfl (by kernel_rfl) h1)) hC hS (fun hC hS=>?_)
              refine rl_pure 2 _ (.string s) (some 52) rfl (by kernel_rfl) (by kernel_rfl) (by kernel_rfl) (by kernel_rfl) (fun _ _ _ h=>h) (fun L W=>si2 2 11 13 rfl rfl _) (by kernel_rfl) (fun w=>by kernel_rfl) hC hS (fun hC hS=>?_)
              refine rl_pure 5 _ (.pointer (some ⟨(w.heap.size+1+1+1),7,none⟩)) (some 55) rfl (by kernel_rfl) (by kernel_rfl) (by kernel_rfl) (by kernel_rfl) (fun _ _ _ h=>h) (fun L W=>si2 5 11 13 rfl rfl _) (by kernel_rfl) (fun w=>by kernel_rfl) hC hS (fun hC hS=>?_)
              refine rl_load1 6 _ 26 (.tmp 55) ⟨(w.heap.size+1+1+1),7,none⟩ (.slice va us.length vc) _ (some 56) rfl (by kernel_rfl) (by kernel_rfl) (by kernel_rfl) (by kernel_rfl) (fun _ _ _ h=>h) (fun L W=>si2 6 11 13 rfl rfl _) (by kernel_rfl) rfl (by kernel_rfl) Tryd.underlying26 rfl (fun L W hC h1 hS=>hS.2.2 (cl_no hC 6 13 _ rfl (by kernel_rfl) h1)) hC hS (fun hC hS=>?_)
              refine rl_loadM 7 _ 28 (.tmp 5) (w.heap.size+1) 0 [.int .i64 yk,.bool yb,.bool yneg,.slice yma ymn ymc,.int .i64 ye,.string ys,.slice yka ykn ykc,.slice yva yvn yvc] _ (some 57) rfl (by kernel_rfl) (by kernel_rfl) (by kernel_rfl) (by kernel_rfl) (fun _ _ _ h=>h) (fun L W=>si2 7 11 13 rfl rfl _) (by kernel_rfl) rfl (by kernel_rfl) Tryd.underlying28 rfl (by kernel_rfl) (fun L W hC h1 hS=>box_range (HT.out W hS.1).1.2) hC hS (fun hC hS=>?_)
              refine rl_all [3,8] (by kernel_rfl) (by simp) hC (rl_two _ _ ?_ ?_)
              refine rl_val 3 _ (.slice (some ⟨Z0.heap.size,0,none⟩) 1 1) (Z0.alloc (.cells #[.string s] 9)) (some 53) rfl (by kernel_rfl) (by kernel_rfl) (by kernel_rfl) ?_
              have hlgK:=heap_alloc_new Z0 (.cells (List.toArray [.string s]) 9)
              replace hG:=hG.alloc (.cells (List.toArray [.string s]) 9)
              generalize Z0.heap.size=gK at hlgK ⊢
              generalize Z0.alloc (.cells #[.string s] 9)=Z1 at hlgK hG  ⊢
              refine rl_and ⟨hG.but,fun _=>hG.box.cells.2.2.2.2.2.2.1,fun _=>hG.box.cells.2.2.2.2.2.2.2⟩ (fun hS hC=>?_)
              refine rl_all [4,8] (by kernel_rfl) (by simp) hC (rl_two _ _ ?_ ?_)
              refine rl_law 4 _ (some 54) rfl (by kernel_rfl) (by kernel_rfl) (R:=fun v' w'=>w'.ownsRow W2.heap.size 9 1 v' (ks.length+1) ((sv ks)++[.string s])∧Z1.grownBy w' (Value.slice ka ks.length kc).ownBlock) (fun K hK=>wp_appV Tryd.underlying22 info_string rfl (by decide) (by decide) Z1 (.tmp 51) (.tmp 53) rfl W2.heap.size _ ks.length (sv ks) (by kernel_rfl) hG.ok (some ⟨gK,0,none⟩) 1 1 [.string s] (by kernel_rfl) rfl (rd_lit Z1 gK _ _ hlgK) (by intro u hu;rw [List.mem_singleton.1 hu];rfl) nofun (by first | omega | (simp;omega)) hG.but.size (fun v' w' h1 h2=>hK v' w' ⟨h1,h2⟩)) ?_
              rintro v' Z2 ⟨ho,hgr⟩
              obtain ⟨aK,cK,rfl,hcK,_⟩:=own_viewN ho
              replace hG:=hG.appK ho hgr
              refine rl_and ⟨hG.but,fun _=>hG.box.cells.2.2.2.2.2.2.1,fun _=>hG.box.cells.2.2.2.2.2.2.2⟩ (fun hS hC=>?_)
              refine rl_pure 10 _ (.pointer (some ⟨(w.heap.size+1+1+1),6,none⟩)) (some 60) rfl (by kernel_rfl) (by kernel_rfl) (by kernel_rfl) (by kernel_rfl) (fun _ _ _ h=>h) (fun L W=>si2 10 11 13 rfl rfl _) (by kernel_rfl) (fun w=>by kernel_rfl) hC hS (fun hC hS=>?_)
              refine rl_all [8] (by kernel_rfl) (by simp) hC (rl_one _ ?_)
              refine rl_val 8 _ (.slice (some ⟨Z2.heap.size,0,none⟩) 1 1) (Z2.alloc (.cells #[.int .i64 yk,.bool yb,.bool yneg,.slice yma ymn ymc,.int .i64 ye,.string ys,.slice yka ykn ykc,.slice yva yvn yvc] 28)) (some 58) rfl (by kernel_rfl) (by kernel_rfl) (by kernel_rfl) ?_
              have hlgV:=heap_alloc_new Z2 (.cells (List.toArray [.int .i64 yk,.bool yb,.bool yneg,.slice yma ymn ymc,.int .i64 ye,.string ys,.slice yka ykn ykc,.slice yva yvn yvc]) 28)
              replace hG:=hG.alloc (.cells (List.toArray [.int .i64 yk,.bool yb,.bool yneg,.slice yma ymn ymc,.int .i64 ye,.string ys,.slice yka ykn ykc,.slice yva yvn yvc]) 28)
              generalize Z2.heap.size=gV at hlgV ⊢
              generalize Z2.alloc (.cells #[.int .i64 yk,.bool yb,.bool yneg,.slice yma ymn ymc,.int .i64 ye,.string ys,.slice yka ykn ykc,.slice yva yvn yvc] 28)=Zt at hlgV hG  ⊢
              refine rl_and ⟨hG.but,fun _=>hG.box.cells.2.2.2.2.2.2.1,fun _=>hG.box.cells.2.2.2.2.2.2.2⟩ (fun hS hC=>?_)
              rotate_left
              refine rl_val 8 _ (.slice (some ⟨Z1.heap.size,0,none⟩) 1 1) (Z1.alloc (.cells #[.int .i64 yk,.bool yb,.bool yneg,.slice yma ymn ymc,.int .i64 ye,.string ys,.slice yka ykn ykc,.slice yva yvn yvc] 28)) (some 58) rfl (by kernel_rfl) (by kernel_rfl) (by kernel_rfl) ?_
              have hlgV:=heap_alloc_new Z1 (.cells (List.toArray [.int .i64 yk,.bool yb,.bool yneg,.slice yma ymn ymc,.int .i64 ye,.string ys,.slice yka ykn ykc,.slice yva yvn yvc]) 28)
              have hlgK:=((Below.refl Z1.heap.size Z1).alloc (Nat.le_refl _) (.cells (List.toArray [.int .i64 yk,.bool yb,.bool yneg,.slice yma ymn ymc,.int .i64 ye,.string ys,.slice yka ykn ykc,.slice yva yvn yvc]) 28)).block _ (Array.getElem?_eq_some_iff.1 hlgK).1 |>.trans hlgK
              replace hG:=hG.alloc (.cells (List.toArray [.int .i64 yk,.bool yb,.bool yneg,.slice yma ymn ymc,.int .i64 ye,.string ys,.slice yka ykn ykc,.slice yva yvn yvc]) 28)
              generalize Z1.heap.size=gV at hlgV ⊢
              generalize Z1.alloc (.cells #[.int .i64 yk,.bool yb,.bool yneg,.slice yma ymn ymc,.int .i64 ye,.string ys,.slice yka ykn ykc,.slice yva yvn yvc] 28)=Z4 at hlgV hG hlgK ⊢
              refine rl_and ⟨hG.but,fun _=>hG.box.cells.2.2.2.2.2.2.1,fun _=>hG.box.cells.2.2.2.2.2.2.2⟩ (fun hS hC=>?_)
              refine rl_all [4] (by kernel_rfl) (by simp) hC (rl_one _ ?_)
              refine rl_law 4 _ (some 54) rfl (by kernel_rfl) (by kernel_rfl) (R:=fun v' w'=>w'.ownsRow W2.heap.size 9 1 v' (ks.length+1) ((sv ks)++[.string s])∧Z4.grownBy w' (Value.slice ka ks.length kc).ownBlock) (fun K hK=>wp_appV Tryd.underlying22 info_string rfl (by decide) (by decide) Z4 (.tmp 51) (.tmp 53) rfl W2.heap.size _ ks.length (sv ks) (by kernel_rfl) hG.ok (some ⟨gK,0,none⟩) 1 1 [.string s] (by kernel_rfl) rfl (rd_lit Z4 gK _ _ hlgK) (by intro u hu;rw [List.mem_singleton.1 hu];rfl) nofun (by first | omega | (simp;omega)) hG.but.size (fun v' w' h1 h2=>hK v' w' ⟨h1,h2⟩)) ?_
              rintro v' Zt ⟨ho,hgr⟩
              obtain ⟨aK,cK,rfl,hcK,_⟩:=own_viewN ho
              replace hlgV:=hG.litV hgr hlgV
              replace hG:=hG.appK ho hgr
              refine rl_and ⟨hG.but,fun _=>hG.box.cells.2.2.2.2.2.2.1,fun _=>hG.box.cells.2.2.2.2.2.2.2⟩ (fun hS hC=>?_)
              refine rl_pure 10 _ (.pointer (some ⟨(w.heap.size+1+1+1),6,none⟩)) (some 60) rfl (by kernel_rfl) (by kernel_rfl) (by kernel_rfl) (by kernel_rfl) (fun _ _ _ h=>h) (fun L W=>si2 10 11 13 rfl rfl _) (by kernel_rfl) (fun w=>by kernel_rfl) hC hS (fun hC hS=>?_)
              rotate_left
              refine rl_val 8 _ (.slice (some ⟨Z0.heap.size,0,none⟩) 1 1) (Z0.alloc (.cells #[.int .i64 yk,.bool yb,.bool yneg,.slice yma ymn ymc,.int .i64 ye,.string ys,.slice yka ykn ykc,.slice yva yvn yvc] 28)) (some 58) rfl (by kernel_rfl) (by kernel_rfl) (by kernel_rfl) ?_
              have hlgV:=heap_alloc_new Z0 (.cells (List.toArray [.int .i64 yk,.bool yb,.bool yneg,.slice yma ymn ymc,.int .i64 ye,.string ys,.slice yka ykn ykc,.slice yva yvn yvc]) 28)
              replace hG:=hG.alloc (.cells (List.toArray [.int .i64 yk,.bool yb,.bool yneg,.slice yma ymn ymc,.int .i64 ye,.string ys,.slice yka ykn ykc,.slice yva yvn yvc]) 28)
              generalize Z0.heap.size=gV at hlgV ⊢
              generalize Z0.alloc (.cells #[.int .i64 yk,.bool yb,.bool yneg,.slice yma ymn ymc,.int .i64 ye,.string ys,.slice yka ykn ykc,.slice yva yvn yvc] 28)=Z6 at hlgV hG  ⊢
              refine rl_and ⟨hG.but,fun _=>hG.box.cells.2.2.2.2.2.2.1,fun _=>hG.box.cells.2.2.2.2.2.2.2⟩ (fun hS hC=>?_)
              refine rl_all [3] (by kernel_rfl) (by simp) hC (rl_one _ ?_)
              refine rl_val 3 _ (.slice (some ⟨Z6.heap.size,0,none⟩) 1 1) (Z6.alloc (.cells #[.string s] 9)) (some 53) rfl (by kernel_rfl) (by kernel_rfl) (by kernel_rfl) ?_
              have hlgK:=heap_alloc_new Z6 (.cells (List.toArray [.string s]) 9)
              have hlgV:=((Below.refl Z6.heap.size Z6).alloc (Nat.le_refl _) (.cells (List.toArray [.string s]) 9)).block _ (Array.getElem?_eq_some_iff.1 hlgV).1 |>.trans hlgV
              replace hG:=hG.alloc (.cells (List.toArray [.string s]) 9)
              generalize Z6.heap.size=gK at hlgK ⊢
              generalize Z6.alloc (.cells #[.string s] 9)=Z7 at hlgK hG hlgV ⊢
              refine rl_and ⟨hG.but,fun _=>hG.box.cells.2.2.2.2.2.2.1,fun _=>hG.box.cells.2.2.2.2.2.2.2⟩ (fun hS hC=>?_)
              refine rl_all [4] (by kernel_rfl) (by simp) hC (rl_one _ ?_)
              refine rl_law 4 _ (some 54) rfl (by kernel_rfl) (by kernel_rfl) (R:=fun v' w'=>w'.ownsRow W2.heap.size 9 1 v' (ks.length+1) ((sv ks)++[.string s])∧Z7.grownBy w' (Value.slice ka ks.length kc).ownBlock) (fun K hK=>wp_appV Tryd.underlying22 info_string rfl (by decide) (by decide) Z7 (.tmp 51) (.tmp 53) rfl W2.heap.size _ ks.length (sv ks) (by kernel_rfl) hG.ok (some ⟨gK,0,none⟩) 1 1 [.string s] (by kernel_rfl) rfl (rd_lit Z7 gK _ _ hlgK) (by intro u hu;rw [List.mem_singleton.1 hu];rfl) nofun (by first | omega | (simp;omega)) hG.but.size (fun v' w' h1 h2=>hK v' w' ⟨h1,h2⟩)) ?_
              rintro v' Zt ⟨ho,hgr⟩
              obtain ⟨aK,cK,rfl,hcK,_⟩:=own_viewN ho
              replace hlgV:=hG.litV hgr hlgV
              replace hG:=hG.appK ho hgr
              refine rl_and ⟨hG.but,fun _=>hG.box.cells.2.2.2.2.2.2.1,fun _=>hG.box.cells.2.2.2.2.2.2.2⟩ (fun hS hC=>?_)
              refine rl_pure 10 _ (.pointer (some ⟨(w.heap.size+1+1+1),6,none⟩)) (some 60) rfl (by kernel_rfl) (by kernel_rfl) (by kernel_rfl) (by kernel_rfl) (fun _ _ _ h=>h) (fun L W=>si2 10 11 13 rfl rfl _) (by kernel_rfl) (fun w=>by kernel_rfl) hC hS (fun hC hS=>?_)
              rotate_left
              all_goals
                refine rl_all [9] (by kernel_rfl) (by simp) hC (rl_one _ ?_)
                refine rl_law 9 _ (some 59) rfl (by kernel_rfl) (by kernel_rfl) (R:=fun v' w'=>w'.ownsRow W2.heap.size 28 8 v' (us.length+1) (flat (us.map MT.c)++[.int .i64 yk,.bool yb,.bool yneg,.slice yma ymn ymc,.int .i64 ye,.string ys,.slice yka ykn ykc,.slice yva yvn yvc])∧Zt.grownBy w' (Value.slice va us.length vc).ownBlock) (fun K hK=>wp_appV Tryd.underlying26 info_tree rfl (by decide) (by decide) Zt (.tmp 56) (.tmp 58) rfl W2.heap.size _ us.length (flat (us.map MT.c)) (by kernel_rfl) hG.ov (some ⟨gV,0,none⟩) 1 1 [.int .i64 yk,.bool yb,.bool yneg,.slice yma ymn ymc,.int .i64 ye,.string ys,.slice yka ykn ykc,.slice yva yvn yvc] (by kernel_rfl) rfl (rd_lit Zt gV _ _ hlgV) (cel_one ⟨yk,yb,yneg,yma,ymn,ymc,ye,ys,yka,ykn,ykc,yva,yvn,yvc⟩) nofun (by first | omega | (simp;omega)) hG.but.size (fun v' w' h1 h2=>hK v' w' ⟨h1,h2⟩)) ?_
                rintro v' Z9 ⟨ho,hgr⟩
                obtain ⟨aV,cV,rfl,hcV,_⟩:=own_viewN ho
                replace hG:=hG.appV ho hgr
                refine rl_and ⟨hG.but,fun _=>hG.box.cells.2.2.2.2.2.2.1,fun _=>hG.box.cells.2.2.2.2.2.2.2⟩ (fun hS hC=>?_)
                refine rl_all [11] (by kernel_rfl) (by simp) hC (rl_one _ ?_)
                refine rl_store 11 _ 22 (.tmp 60) (.tmp 54) ⟨(w.heap.size+1+1+1),6,none⟩ (.slice aK (ks.length+1) cK) rfl (by kernel_rfl) (by kernel_rfl) rfl (by kernel_rfl) (by kernel_rfl) (by kernel_rfl) rfl (by rw [hG.box.cells.2.2.2.2.2.2.1];rfl) (hG.box.free 6) ?_
                replace hG:=hG.set 6 (.slice aK (ks.length+1) cK) (box_set6 hG.box aK (ks.length+1) cK)
                refine rl_and ⟨hG.but,fun h=>Bool.noConfusion (show true=false from h),fun _=>hG.box.cells.2.2.2.2.2.2.2⟩ (fun hS hC=>?_)
                refine rl_pure 12 _ (.pointer (some ⟨(w.heap.size+1+1+1),7,none⟩)) (some 61) rfl (by kernel_rfl) (by kernel_rfl) (by kernel_rfl) (by kernel_rfl) (fun _ _ _ h=>h) (fun L W=>si2 12 11 13 rfl rfl _) (by kernel_rfl) (fun w=>by kernel_rfl) hC hS (fun hC hS=>?_)
                refine rl_all [13] (by kernel_rfl) (by simp) hC (rl_one _ ?_)
                refine rl_store 13 _ 26 (.tmp 61) (.tmp 59) ⟨(w.heap.size+1+1+1),7,none⟩ (.slice aV (us.length+1) cV) rfl (by kernel_rfl) (by kernel_rfl) rfl (by kernel_rfl) (by kernel_rfl) (by kernel_rfl) rfl (by rw [hG.box.cells.2.2.2.2.2.2.2];rfl) (hG.box.free 7) ?_
                replace hG:=hG.set 7 (.slice aV (us.length+1) cV) (box_set hG.box aV (us.length+1) cV)
                refine rl_and ⟨hG.but,fun h=>Bool.noConfusion (show true=false from h),fun h=>Bool.noConfusion (show true=false from h)⟩ (fun hS hC=>?_)
                refine rl_done (by kernel_rfl) ?_ _
                refine HJ.out _ _ ?_
                clear HJ
                simp only [Act.put,List.setIfInBounds_toArray,List.set_cons_zero,List.set_cons_succ]
                (repeat apply Exists.intro)
                exact ⟨pcut_of HCV.out hG,rfl⟩
            case rest =>
              have HF:=Lib.hid (show SLR W2 (w.heap.size+1+1+1) t v s i q n g (.bool true) (.int .i64 ((i:Int)+1)) wc from ⟨i+1,true,_,_,by omega,by omega,rfl,rfl,hcut,HS2.out,Nat.le_trans (sout_len hpq HS2.out) (by omega),by have:=HUL.out;simp;omega⟩)
              clear hcut
              go_wp2_with fail
              go_roundg g
              case rel=>exact HF.out
              case measure=>omega
      · have hd:=HSO.out.2 rfl
        have HS2:=Lib.hid (by have:=SUP.out HSO.out;exact this)
        clear hat
        go_wp2_with fail
        refine wp_norm (fun J hJ=>?_)
        have HJ:=Lib.hid hJ
        clear hJ
        refine rl_start (S:=fun L W=>But (w.heap.size+1+1+1) W2 W∧(L.getD 19 false=false→W.cell? ⟨(w.heap.size+1+1+1),6,none⟩=some (.slice ka ks.length kc))∧(L.getD 21 false=false→W.cell? ⟨(w.heap.size+1+1+1),7,none⟩=some (.slice va us.length vc))) (by kernel_rfl) (have hG:=HG.out.below (below_drew (Below.refl _ _));⟨hG.but,fun _=>hG.box.cells.2.2.2.2.2.2.1,fun _=>hG.box.cells.2.2.2.2.2.2.2⟩) (fun hC hS=>?_)
        have hG:=HG.out.below (below_drew (Below.refl _ _))
        obtain ⟨Z0,hW0⟩:∃ x,x=wr.drew:=⟨_,rfl⟩
        rw [← hW0] at hG hS ⊢
        refine rl_pure 0 _ (.pointer (some ⟨(w.heap.size+1+1+1),6,none⟩)) (some 90) rfl (by kernel_rfl) (by kernel_rfl) (by kernel_rfl) (by kernel_rfl) (fun _ _ _ h=>h) (fun L W=>si2 0 19 21 rfl rfl _) (by kernel_rfl) (fun w=>by kernel_rfl) hC hS (fun hC hS=>?_)
        refine rl_load1 1 _ 22 (.tmp 90) ⟨(w.heap.size+1+1+1),6,none⟩ (.slice ka ks.length kc) _ (some 91) rfl (by kernel_rfl) (by kernel_rfl) (by kernel_rfl) (by kernel_rfl) (fun _ _ _ h=>h) (fun L W=>si2 1 19 21 rfl rfl _) (by kernel_rfl) rfl (by kernel_rfl) Tryd.underlying22 rfl (fun L W hC h1 hS=>hS.2.1 (cl_no hC 1 19 _ rfl (by kernel_rfl) h1)) hC hS (fun hC hS=>?_)
        refine rl_pure 2 _ (.pointer (some ⟨w.heap.size,6,none⟩)) (some 92) rfl (by kernel_rfl) (by kernel_rfl) (by kernel_rfl) (by kernel_rfl) (fun _ _ _ h=>h) (fun L W=>si2 2 19 21 rfl rfl _) (by kernel_rfl) (fun w=>by kernel_rfl) hC hS (fun hC hS=>?_)
        refine rl_load1 3 _ 22 (.tmp 92) ⟨w.heap.size,6,none⟩ (.slice (some ⟨nbk,nof,none⟩) n kc0) _ (some 93) rfl (by kernel_rfl) (by kernel_rfl) (by kernel_rfl) (by kernel_rfl) (fun _ _ _ h=>h) (fun L W=>si2 3 19 21 rfl rfl _) (by kernel_rfl) rfl (by kernel_rfl) Tryd.underlying22 rfl (fun L W hC h1 hS=>(HT.out W hS.1).1.1.cells.2.2.2.2.2.2.1) hC hS (fun hC hS=>?_)
        refine rl_pure 4 _ (.int .i64 (i:Int)) (some 94) rfl (by kernel_rfl) (by kernel_rfl) (by kernel_rfl) (by kernel_rfl) (fun _ _ _ h=>h) (fun L W=>si2 4 19 21 rfl rfl _) (by kernel_rfl) (fun w=>by kernel_rfl) hC hS (fun hC hS=>?_)
        refine rl_pure 5 _ (.pointer (some ⟨nbk,nof+i,none⟩)) (some 95) rfl (by kernel_rfl) (by kernel_rfl) (by kernel_rfl) (by kernel_rfl) (fun _ _ _ h=>h) (fun L W=>si2 5 19 21 rfl rfl _) (by kernel_rfl) (fun w=>rl_idx w _ _ _ _ _ 9 nbk nof n kc0 i i 1 rfl (by kernel_rfl) (by kernel_rfl) Tryd.underlying22 (by kernel_rfl) hin (Nat.mul_one _)) hC hS (fun hC hS=>?_)
        refine rl_load1 6 _ 9 (.tmp 95) ⟨nbk,nof+i,none⟩ (.string x) _ (some 96) rfl (by kernel_rfl) (by kernel_rfl) (by kernel_rfl) (by kernel_rfl) (fun _ _ _ h=>h) (fun L W=>si2 6 19 21 rfl rfl _) (by kernel_rfl) rfl (by kernel_rfl) Tryd.underlying9 rfl (fun L W hC h1 hS=>(HX.out W hS.1)) hC hS (fun hC hS=>?_)
        refine rl_pure 9 _ (.pointer (some ⟨(w.heap.size+1+1+1),7,none⟩)) (some 99) rfl (by kernel_rfl) (by kernel_rfl) (by kernel_rfl) (by kernel_rfl) (fun _ _ _ h=>h) (fun L W=>si2 9 19 21 rfl rfl _) (by kernel_rfl) (fun w=>by kernel_rfl) hC hS (fun hC hS=>?_)
        refine rl_load1 10 _ 26 (.tmp 99) ⟨(w.heap.size+1+1+1),7,none⟩ (.slice va us.length vc) _ (some 100) rfl (by kernel_rfl) (by kernel_rfl) (by kernel_rfl) (by kernel_rfl) (fun _ _ _ h=>h) (fun L W=>si2 10 19 21 rfl rfl _) (by kernel_rfl) rfl (by kernel_rfl) Tryd.underlying26 rfl (fun L W hC h1 hS=>hS.2.2 (cl_no hC 10 21 _ rfl (by kernel_rfl) h1)) hC hS (fun hC hS=>?_)
        refine rl_pure 11 _ (.pointer (some ⟨w.heap.size,7,none⟩)) (some 101) rfl (by kernel_rfl) (by kernel_rfl) (by kernel_rfl) (by kernel_rfl) (fun _ _ _ h=>h) (fun L W=>si2 11 19 21 rfl rfl _) (by kernel_rfl) (fun w=>by kernel_rfl) hC hS (fun hC hS=>?_)
        refine rl_load1 12 _ 26 (.tmp 101) ⟨w.heap.size,7,none⟩ (.slice (some ⟨tbk,tof,none⟩) n vc0) _ (some 102) rfl (by kernel_rfl) (by kernel_rfl) (by kernel_rfl) (by kernel_rfl) (fun _ _ _ h=>h) (fun L W=>si2 12 19 21 rfl rfl _) (by kernel_rfl) rfl (by kernel_rfl) Tryd.underlying26 rfl (fun L W hC h1 hS=>(HT.out W hS.1).1.1.cells.2.2.2.2.2.2.2) hC hS (fun hC hS=>?_)
        refine rl_pure 13 _ (.int .i64 (i:Int)) (some 103) rfl (by kernel_rfl) (by kernel_rfl) (by kernel_rfl) (by kernel_rfl) (fun _ _ _ h=>h) (fun L W=>si2 13 19 21 rfl rfl _) (by kernel_rfl) (fun w=>by kernel_rfl) hC hS (fun hC hS=>?_)
        refine rl_pure 14 _ (.pointer (some ⟨tbk,tof+i*8,none⟩)) (some 104) rfl (by kernel_rfl) (by kernel_rfl) (by kernel_rfl) (by kernel_rfl) (fun _ _ _ h=>h) (fun L W=>si2 14 19 21 rfl rfl _) (by kernel_rfl) (fun w=>rl_idx w _ _ _ _ _ 28 tbk tof n vc0 i (i*8) 8 rfl (by kernel_rfl) (by kernel_rfl) Tryd.underlying26 (by kernel_rfl) hin rfl) hC hS (fun hC hS=>?_)
        refine rl_loadM 15 _ 28 (.tmp 104) tbk (tof+i*8) [.int .i64 zk,.bool zb,.bool zneg,.slice zma zmn zmc,.int .i64 ze,.string zs,.slice zka zkn zkc,.slice zva zvn zvc] _ (some 105) rfl (by kernel_rfl) (by kernel_rfl) (by kernel_rfl) (by kernel_rfl) (fun _ _ _ h=>h) (fun L W=>si2 15 19 21 rfl rfl _) (by kernel_rfl) rfl (by kernel_rfl) Tryd.underlying28 rfl (by kernel_rfl) (fun L W hC h1 hS=>flat_range (HT.out W hS.1).2.2 i hiv hy) hC hS (fun hC hS=>?_)
        refine rl_all [7,16] (by kernel_rfl) (by simp) hC (rl_two _ _ ?_ ?_)
        refine rl_val 7 _ (.slice (some ⟨Z0.heap.size,0,none⟩) 1 1) (Z0.alloc (.cells #[.string x] 9)) (some 97) rfl (by kernel_rfl) (by kernel_rfl) (by kernel_rfl) ?_
        have hlgK:=heap_alloc_new Z0 (.cells (List.toArray [.string x]) 9)
        replace hG:=hG.alloc (.cells (List.toArray [.string x]) 9)
        generalize Z0.heap.size=gK at hlgK ⊢
        generalize Z0.alloc (.cells #[.string x] 9)=Z1 at hlgK hG  ⊢
        refine rl_and ⟨hG.but,fun _=>hG.box.cells.2.2.2.2.2.2.1,fun _=>hG.box.cells.2.2.2.2.2.2.2⟩ (fun hS hC=>?_)
        refine rl_all [8,16] (by kernel_rfl) (by simp) hC (rl_two _ _ ?_ ?_)
        refine rl_law 8 _ (some 98) rfl (by kernel_rfl) (by kernel_rfl) (R:=fun v' w'=>w'.ownsRow W2.heap.size 9 1 v' (ks.length+1) ((sv ks)++[.string x])∧Z1.grownBy w' (Value.slice ka ks.length kc).ownBlock) (fun K hK=>wp_appV Tryd.underlying22 info_string rfl (by decide) (by decide) Z1 (.tmp 91) (.tmp 97) rfl W2.heap.size _ ks.length (sv ks) (by kernel_rfl) hG.ok (some ⟨gK,0,none⟩) 1 1 [.string x] (by kernel_rfl) rfl (rd_lit Z1 gK _ _ hlgK) (by intro u hu;rw [List.mem_singleton.1 hu];rfl) nofun (by first | omega | (simp;omega)) hG.but.size (fun v' w' h1 h2=>hK v' w' ⟨h1,h2⟩)) ?_
        rintro v' Z2 ⟨ho,hgr⟩
        obtain ⟨aK,cK,rfl,hcK,_⟩:=own_viewN ho
        replace hG:=hG.appK ho hgr
        refine rl_and ⟨hG.but,fun _=>hG.box.cells.2.2.2.2.2.2.1,fun _=>hG.box.cells.2.2.2.2.2.2.2⟩ (fun hS hC=>?_)
        refine rl_pure 18 _ (.pointer (some ⟨(w.heap.size+1+1+1),6,none⟩)) (some 108) rfl (by kernel_rfl) (by kernel_rfl) (by kernel_rfl) (by kernel_rfl) (fun _ _ _ h=>h) (fun L W=>si2 18 19 21 rfl rfl _) (by kernel_rfl) (fun w=>by kernel_rfl) hC hS (fun hC hS=>?_)
        refine rl_all [16] (by kernel_rfl) (by simp) hC (rl_one _ ?_)
        refine rl_val 16 _ (.slice (some ⟨Z2.heap.size,0,none⟩) 1 1) (Z2.alloc (.cells #[.int .i64 zk,.bool zb,.bool zneg,.slice zma zmn zmc,.int .i64 ze,.string zs,.slice zka zkn zkc,.slice zva zvn zvc] 28)) (some 106) rfl (by kernel_rfl) (by kernel_rfl) (by kernel_rfl) ?_
        have hlgV:=heap_alloc_new Z2 (.cells (List.toArray [.int .i64 zk,.bool zb,.bool zneg,.slice zma zmn zmc,.int .i64 ze,.string zs,.slice zka zkn zkc,.slice zva zvn zvc]) 28)
        replace hG:=hG.alloc (.cells (List.toArray [.int .i64 zk,.bool zb,.bool zneg,.slice zma zmn zmc,.int .i64 ze,.string zs,.slice zka zkn zkc,.slice zva zvn zvc]) 28)
        generalize Z2.heap.size=gV at hlgV ⊢
        generalize Z2.alloc (.cells #[.int .i64 zk,.bool zb,.bool zneg,.slice zma zmn zmc,.int .i64 ze,.string zs,.slice zka zkn zkc,.slice zva zvn zvc] 28)=Zt at hlgV hG  ⊢
        refine rl_and ⟨hG.but,fun _=>hG.box.cells.2.2.2.2.2.2.1,fun _=>hG.box.cells.2.2.2.2.2.2.2⟩ (fun hS hC=>?_)
        rotate_left
        refine rl_val 16 _ (.slice (some ⟨Z1.heap.size,0,none⟩) 1 1) (Z1.alloc (.cells #[.int .i64 zk,.bool zb,.bool zneg,.slice zma zmn zmc,.int .i64 ze,.string zs,.slice zka zkn zkc,.slice zva zvn zvc] 28)) (some 106) rfl (by kernel_rfl) (by kernel_rfl) (by kernel_rfl) ?_
        have hlgV:=heap_alloc_new Z1 (.cells (List.toArray [.int .i64 zk,.bool zb,.bool zneg,.slice zma zmn zmc,.int .i64 ze,.string zs,.slice zka zkn zkc,.slice zva zvn zvc]) 28)
        have hlgK:=((Below.refl Z1.heap.size Z1).alloc (Nat.le_refl _) (.cells (List.toArray [.int .i64 zk,.bool zb,.bool zneg,.slice zma zmn zmc,.int .i64 ze,.string zs,.slice zka zkn zkc,.slice zva zvn zvc]) 28)).block _ (Array.getElem?_eq_some_iff.1 hlgK).1 |>.trans hlgK
        replace hG:=hG.alloc (.cells (List.toArray [.int .i64 zk,.bool zb,.bool zneg,.slice zma zmn zmc,.int .i64 ze,.string zs,.slice zka zkn zkc,.slice zva zvn zvc]) 28)
        generalize Z1.heap.size=gV at hlgV ⊢
        generalize Z1.alloc (.cells #[.int .i64 zk,.bool zb,.bool zneg,.slice zma zmn zmc,.int .i64 ze,.string zs,.slice zka zkn zkc,.slice zva zvn zvc] 28)=Z4 at hlgV hG hlgK ⊢
        refine rl_and ⟨hG.but,fun _=>hG.box.cells.2.2.2.2.2.2.1,fun _=>hG.box.cells.2.2.2.2.2.2.2⟩ (fun hS hC=>?_)
        refine rl_all [8] (by kernel_rfl) (by simp) hC (rl_one _ ?_)
        refine rl_law 8 _ (some 98) rfl (by kernel_rfl) (by kernel_rfl) (R:=fun v' w'=>w'.ownsRow W2.heap.size 9 1 v' (ks.length+1) ((sv ks)++[.string x])∧Z4.grownBy w' (Value.slice ka ks.length kc).ownBlock) (fun K hK=>wp_appV Tryd.underlying22 info_string rfl (by decide) (by decide) Z4 (.tmp 91) (.tmp 97) rfl W2.heap.size _ ks.length (sv ks) (by kernel_rfl) hG.ok (some ⟨gK,0,none⟩) 1 1 [.string x] (by kernel_rfl) rfl (rd_lit Z4 gK _ _ hlgK) (by intro u hu;rw [List.mem_singleton.1 hu];rfl) nofun (by first | omega | (simp;omega)) hG.but.size (fun v' w' h1 h2=>hK v' w' ⟨h1,h2⟩)) ?_
        rintro v' Zt ⟨ho,hgr⟩
        obtain ⟨aK,cK,rfl,hcK,_⟩:=own_viewN ho
        replace hlgV:=hG.litV hgr hlgV
        replace hG:=hG.appK ho hgr
        refine rl_and ⟨hG.but,fun _=>hG.box.cells.2.2.2.2.2.2.1,fun _=>hG.box.cells.2.2.2.2.2.2.2⟩ (fun hS hC=>?_)
        refine rl_pure 18 _ (.pointer (some ⟨(w.heap.size+1+1+1),6,none⟩)) (some 108) rfl (by kernel_rfl) (by kernel_rfl) (by kernel_rfl) (by kernel_rfl) (fun _ _ _ h=>h) (fun L W=>si2 18 19 21 rfl rfl _) (by kernel_rfl) (fun w=>by kernel_rfl) hC hS (fun hC hS=>?_)
        rotate_left
        refine rl_val 16 _ (.slice (some ⟨Z0.heap.size,0,none⟩) 1 1) (Z0.alloc (.cells #[.int .i64 zk,.bool zb,.bool zneg,.slice zma zmn zmc,.int .i64 ze,.string zs,.slice zka zkn zkc,.slice zva zvn zvc] 28)) (some 106) rfl (by kernel_rfl) (by kernel_rfl) (by kernel_rfl) ?_
        have hlgV:=heap_alloc_new Z0 (.cells (List.toArray [.int .i64 zk,.bool zb,.bool zneg,.slice zma zmn zmc,.int .i64 ze,.string zs,.slice zka zkn zkc,.slice zva zvn zvc]) 28)
        replace hG:=hG.alloc (.cells (List.toArray [.int .i64 zk,.bool zb,.bool zneg,.slice zma zmn zmc,.int .i64 ze,.string zs,.slice zka zkn zkc,.slice zva zvn zvc]) 28)
        generalize Z0.heap.size=gV at hlgV ⊢
        generalize Z0.alloc (.cells #[.int .i64 zk,.bool zb,.bool zneg,.slice zma zmn zmc,.int .i64 ze,.string zs,.slice zka zkn zkc,.slice zva zvn zvc] 28)=Z6 at hlgV hG  ⊢
        refine rl_and ⟨hG.but,fun _=>hG.box.cells.2.2.2.2.2.2.1,fun _=>hG.box.cells.2.2.2.2.2.2.2⟩ (fun hS hC=>?_)
        refine rl_all [7] (by kernel_rfl) (by simp) hC (rl_one _ ?_)
        refine rl_val 7 _ (.slice (some ⟨Z6.heap.size,0,none⟩) 1 1) (Z6.alloc (.cells #[.string x] 9)) (some 97) rfl (by kernel_rfl) (by kernel_rfl) (by kernel_rfl) ?_
        have hlgK:=heap_alloc_new Z6 (.cells (List.toArray [.string x]) 9)
        have hlgV:=((Below.refl Z6.heap.size Z6).alloc (Nat.le_refl _) (.cells (List.toArray [.string x]) 9)).block _ (Array.getElem?_eq_some_iff.1 hlgV).1 |>.trans hlgV
        replace hG:=hG.alloc (.cells (List.toArray [.string x]) 9)
        generalize Z6.heap.size=gK at hlgK ⊢
        generalize Z6.alloc (.cells #[.string x] 9)=Z7 at hlgK hG hlgV ⊢
        refine rl_and ⟨hG.but,fun _=>hG.box.cells.2.2.2.2.2.2.1,fun _=>hG.box.cells.2.2.2.2.2.2.2⟩ (fun hS hC=>?_)
        refine rl_all [8] (by kernel_rfl) (by simp) hC (rl_one _ ?_)
        refine rl_law 8 _ (some 98) rfl (by kernel_rfl) (by kernel_rfl) (R:=fun v' w'=>w'.ownsRow W2.heap.size 9 1 v' (ks.length+1) ((sv ks)++[.string x])∧Z7.grownBy w' (Value.slice ka ks.length kc).ownBlock) (fun K hK=>wp_appV Tryd.underlying22 info_string rfl (by decide) (by decide) Z7 (.tmp 91) (.tmp 97) rfl W2.heap.size _ ks.length (sv ks) (by kernel_rfl) hG.ok (some ⟨gK,0,none⟩) 1 1 [.string x] (by kernel_rfl) rfl (rd_lit Z7 gK _ _ hlgK) (by intro u hu;rw [List.mem_singleton.1 hu];rfl) nofun (by first | omega | (simp;omega)) hG.but.size (fun v' w' h1 h2=>hK v' w' ⟨h1,h2⟩)) ?_
        rintro v' Zt ⟨ho,hgr⟩
        obtain ⟨aK,cK,rfl,hcK,_⟩:=own_viewN ho
        replace hlgV:=hG.litV hgr hlgV
        replace hG:=hG.appK ho hgr
        refine rl_and ⟨hG.but,fun _=>hG.box.cells.2.2.2.2.2.2.1,fun _=>hG.box.cells.2.2.2.2.2.2.2⟩ (fun hS hC=>?_)
        refine rl_pure 18 _ (.pointer (some ⟨(w.heap.size+1+1+1),6,none⟩)) (some 108) rfl (by kernel_rfl) (by kernel_rfl) (by kernel_rfl) (by kernel_rfl) (fun _ _ _ h=>h) (fun L W=>si2 18 19 21 rfl rfl _) (by kernel_rfl) (fun w=>by kernel_rfl) hC hS (fun hC hS=>?_)
        rotate_left
        all_goals
          refine rl_all [17] (by kernel_rfl) (by simp) hC (rl_one _ ?_)
          refine rl_law 17 _ (some 107) rfl (by kernel_rfl) (by kernel_rfl) (R:=fun v' w'=>w'.ownsRow W2.heap.size 28 8 v' (us.length+1) (flat (us.map MT.c)++[.int .i64 zk,.bool zb,.bool zneg,.slice zma zmn zmc,.int .i64 ze,.string zs,.slice zka zkn zkc,.slice zva zvn zvc])∧Zt.grownBy w' (Value.slice va us.length vc).ownBlock) (fun K hK=>wp_appV Tryd.underlying26 info_tree rfl (by decide) (by decide) Zt (.tmp 100) (.tmp 106) rfl W2.heap.size _ us.length (flat (us.map MT.c)) (by kernel_rfl) hG.ov (some ⟨gV,0,none⟩) 1 1 [.int .i64 zk,.bool zb,.bool zneg,.slice zma zmn zmc,.int .i64 ze,.string zs,.slice zka zkn zkc,.slice zva zvn zvc] (by kernel_rfl) rfl (rd_lit Zt gV _ _ hlgV) (cel_one ⟨zk,zb,zneg,zma,zmn,zmc,ze,zs,zka,zkn,zkc,zva,zvn,zvc⟩) nofun (by first | omega | (simp;omega)) hG.but.size (fun v' w' h1 h2=>hK v' w' ⟨h1,h2⟩)) ?_
          rintro v' Z9 ⟨ho,hgr⟩
          obtain ⟨aV,cV,rfl,hcV,_⟩:=own_viewN ho
          replace hG:=hG.appV ho hgr
          refine rl_and ⟨hG.but,fun _=>hG.box.cells.2.2.2.2.2.2.1,fun _=>hG.box.cells.2.2.2.2.2.2.2⟩ (fun hS hC=>?_)
          refine rl_all [19] (by kernel_rfl) (by simp) hC (rl_one _ ?_)
          refine rl_store 19 _ 22 (.tmp 108) (.tmp 98) ⟨(w.heap.size+1+1+1),6,none⟩ (.slice aK (ks.length+1) cK) rfl (by kernel_rfl) (by kernel_rfl) rfl (by kernel_rfl) (by kernel_rfl) (by kernel_rfl) rfl (by rw [hG.box.cells.2.2.2.2.2.2.1];rfl) (hG.box.free 6) ?_
          replace hG:=hG.set 6 (.slice aK (ks.length+1) cK) (box_set6 hG.box aK (ks.length+1) cK)
          refine rl_and ⟨hG.but,fun h=>Bool.noConfusion (show true=false from h),fun _=>hG.box.cells.2.2.2.2.2.2.2⟩ (fun hS hC=>?_)
          refine rl_pure 20 _ (.pointer (some ⟨(w.heap.size+1+1+1),7,none⟩)) (some 109) rfl (by kernel_rfl) (by kernel_rfl) (by kernel_rfl) (by kernel_rfl) (fun _ _ _ h=>h) (fun L W=>si2 20 19 21 rfl rfl _) (by kernel_rfl) (fun w=>by kernel_rfl) hC hS (fun hC hS=>?_)
          refine rl_all [21] (by kernel_rfl) (by simp) hC (rl_one _ ?_)
          refine rl_store 21 _ 26 (.tmp 109) (.tmp 107) ⟨(w.heap.size+1+1+1),7,none⟩ (.slice aV (us.length+1) cV) rfl (by kernel_rfl) (by kernel_rfl) rfl (by kernel_rfl) (by kernel_rfl) (by kernel_rfl) rfl (by rw [hG.box.cells.2.2.2.2.2.2.2];rfl) (hG.box.free 7) ?_
          replace hG:=hG.set 7 (.slice aV (us.length+1) cV) (box_set hG.box aV (us.length+1) cV)
          refine rl_and ⟨hG.but,fun h=>Bool.noConfusion (show true=false from h),fun h=>Bool.noConfusion (show true=false from h)⟩ (fun hS hC=>?_)
          refine rl_done (by kernel_rfl) ?_ _
          generalize ((Z9.setCell ⟨(w.heap.size+1+1+1),6,none⟩ (.slice aK (ks.length+1) cK)).setCell ⟨(w.heap.size+1+1+1),7,none⟩ (.slice aV (us.length+1) cV))=wc at hG ⊢
          clear hS hC
          refine HJ.out _ _ ?_
          clear HJ
          simp only [Act.put,List.setIfInBounds_toArray,List.set_cons_zero,List.set_cons_succ]
          have hcut:=pcut_of hyc hG
          have HF:=Lib.hid (show SLR W2 (w.heap.size+1+1+1) t v s p q n g (.bool true) (.int .i64 ((i:Int)+1)) wc from ⟨i+1,true,_,_,by omega,by omega,rfl,rfl,hcut,HS2.out,Nat.le_trans (sout_len hpq HS2.out) (by omega),by have:=HUL.out;simp;omega⟩)
          clear hcut hG
          go_wp2_with fail
          go_roundg g
          case rel=>exact HF.out
          case measure=>omega
    · have hjz:¬ (i:Int)<(n:Int):=by omega
      obtain rfl:i=n:=by omega
      clear c0 c1 c2 c3 c4 c5 c6 c7
      obtain ⟨c0,c1,c2,c3,c4,c5,c6,c7⟩:=(HT.out wr HG.out.but).1.1.cells
      simp only at c0 c1 c2 c3 c4 c5 c6 c7
      cases done
      · have HL:=Lib.hid (sout_last HNL.out HVL.out hql hpq HSO.out)
        go_wp2_with fail
        refine wp_norm (fun J hJ=>?_)
        have HJ:=Lib.hid hJ
        clear hJ
        refine rl_start (S:=fun L W=>But (w.heap.size+1+1+1) W2 W∧(L.getD 11 false=false→W.cell? ⟨(w.heap.size+1+1+1),6,none⟩=some (.slice ka ks.length kc))∧(L.getD 13 false=false→W.cell? ⟨(w.heap.size+1+1+1),7,none⟩=some (.slice va us.length vc))) (by kernel_rfl) (have hG:=HG.out.below (below_drew (Below.refl _ _));⟨hG.but,fun _=>hG.box.cells.2.2.2.2.2.2.1,fun _=>hG.box.cells.2.2.2.2.2.2.2⟩) (fun hC hS=>?_)
        have hG:=HG.out.below (below_drew (Below.refl _ _))
        obtain ⟨Z0,hW0⟩:∃ x,x=wr.drew:=⟨_,rfl⟩
        rw [← hW0] at hG hS ⊢
        refine rl_pure 0 _ (.pointer (some ⟨(w.heap.size+1+1+1),6,none⟩)) (some 112) rfl (by kernel_rfl) (by kernel_rfl) (by kernel_rfl) (by kernel_rfl) (fun _ _ _ h=>h) (fun L W=>si2 0 11 13 rfl rfl _) (by kernel_rfl) (fun w=>by kernel_rfl) hC hS (fun hC hS=>?_)
        refine rl_load1 1 _ 22 (.tmp 112) ⟨(w.heap.size+1+1+1),6,none⟩ (.slice ka ks.length kc) _ (some 113) rfl (by kernel_rfl) (by kernel_rfl) (by kernel_rfl) (by kernel_rfl) (fun _ _ _ h=>h) (fun L W=>si2 1 11 13 rfl rfl _) (by kernel_rfl) rfl (by kernel_rfl) Tryd.underlying22 rfl (fun L W hC h1 hS=>hS.2.1 (cl_no hC 1 11 _ rfl (by kernel_rfl) h1)) hC hS (fun hC hS=>?_)
        refine rl_pure 2 _ (.string s) (some 114) rfl (by kernel_rfl) (by kernel_rfl) (by kernel_rfl) (by kernel_rfl) (fun _ _ _ h=>h) (fun L W=>si2 2 11 13 rfl rfl _) (by kernel_rfl) (fun w=>by kernel_rfl) hC hS (fun hC hS=>?_)
        refine rl_pure 5 _ (.pointer (some ⟨(w.heap.size+1+1+1),7,none⟩)) (some 117) rfl (by kernel_rfl) (by kernel_rfl) (by kernel_rfl) (by kernel_rfl) (fun _ _ _ h=>h) (fun L W=>si2 5 11 13 rfl rfl _) (by kernel_rfl) (fun w=>by kernel_rfl) hC hS (fun hC hS=>?_)
        refine rl_load1 6 _ 26 (.tmp 117) ⟨(w.heap.size+1+1+1),7,none⟩ (.slice va us.length vc) _ (some 118) rfl (by kernel_rfl) (by kernel_rfl) (by kernel_rfl) (by kernel_rfl) (fun _ _ _ h=>h) (fun L W=>si2 6 11 13 rfl rfl _) (by kernel_rfl) rfl (by kernel_rfl) Tryd.underlying26 rfl (fun L W hC h1 hS=>hS.2.2 (cl_no hC 6 13 _ rfl (by kernel_rfl) h1)) hC hS (fun hC hS=>?_)
        refine rl_loadM 7 _ 28 (.tmp 5) (w.heap.size+1) 0 [.int .i64 yk,.bool yb,.bool yneg,.slice yma ymn ymc,.int .i64 ye,.string ys,.slice yka ykn ykc,.slice yva yvn yvc] _ (some 119) rfl (by kernel_rfl) (by kernel_rfl) (by kernel_rfl) (by kernel_rfl) (fun _ _ _ h=>h) (fun L W=>si2 7 11 13 rfl rfl _) (by kernel_rfl) rfl (by kernel_rfl) Tryd.underlying28 rfl (by kernel_rfl) (fun L W hC h1 hS=>box_range (HT.out W hS.1).1.2) hC hS (fun hC hS=>?_)
        refine rl_all [3,8] (by kernel_rfl) (by simp) hC (rl_two _ _ ?_ ?_)
        refine rl_val 3 _ (.slice (some ⟨Z0.heap.size,0,none⟩) 1 1) (Z0.alloc (.cells #[.string s] 9)) (some 115) rfl (by kernel_rfl) (by kernel_rfl) (by kernel_rfl) ?_
        have hlgK:=heap_alloc_new Z0 (.cells (List.toArray [.string s]) 9)
        replace hG:=hG.alloc (.cells (List.toArray [.string s]) 9)
        generalize Z0.heap.size=gK at hlgK ⊢
        generalize Z0.alloc (.cells #[.string s] 9)=Z1 at hlgK hG  ⊢
        refine rl_and ⟨hG.but,fun _=>hG.box.cells.2.2.2.2.2.2.1,fun _=>hG.box.cells.2.2.2.2.2.2.2⟩ (fun hS hC=>?_)
        refine rl_all [4,8] (by kernel_rfl) (by simp) hC (rl_two _ _ ?_ ?_)
        refine rl_law 4 _ (some 116) rfl (by kernel_rfl) (by kernel_rfl) (R:=fun v' w'=>w'.ownsRow W2.heap.size 9 1 v' (ks.length+1) ((sv ks)++[.string s])∧Z1.grownBy w' (Value.slice ka ks.length kc).ownBlock) (fun K hK=>wp_appV Tryd.underlying22 info_string rfl (by decide) (by decide) Z1 (.tmp 113) (.tmp 115) rfl W2.heap.size _ ks.length (sv ks) (by kernel_rfl) hG.ok (some ⟨gK,0,none⟩) 1 1 [.string s] (by kernel_rfl) rfl (rd_lit Z1 gK _ _ hlgK) (by intro u hu;rw [List.mem_singleton.1 hu];rfl) nofun (by first | omega | (simp;omega)) hG.but.size (fun v' w' h1 h2=>hK v' w' ⟨h1,h2⟩)) ?_
        rintro v' Z2 ⟨ho,hgr⟩
        obtain ⟨aK,cK,rfl,hcK,_⟩:=own_viewN ho
        replace hG:=hG.appK ho hgr
        refine rl_and ⟨hG.but,fun _=>hG.box.cells.2.2.2.2.2.2.1,fun _=>hG.box.cells.2.2.2.2.2.2.2⟩ (fun hS hC=>?_)
        refine rl_pure 10 _ (.pointer (some ⟨(w.heap.size+1+1+1),6,none⟩)) (some 122) rfl (by kernel_rfl) (by kernel_rfl) (by kernel_rfl) (by kernel_rfl) (fun _ _ _ h=>h) (fun L W=>si2 10 11 13 rfl rfl _) (by kernel_rfl) (fun w=>by kernel_rfl) hC hS (fun hC hS=>?_)
        refine rl_all [8] (by kernel_rfl) (by simp) hC (rl_one _ ?_)
        refine rl_val 8 _ (.slice (some ⟨Z2.heap.size,0,none⟩) 1 1) (Z2.alloc (.cells #[.int .i64 yk,.bool yb,.bool yneg,.slice yma ymn ymc,.int .i64 ye,.string ys,.slice yka ykn ykc,.slice yva yvn yvc] 28)) (some 120) rfl (by kernel_rfl) (by kernel_rfl) (by kernel_rfl) ?_
        have hlgV:=heap_alloc_new Z2 (.cells (List.toArray [.int .i64 yk,.bool yb,.bool yneg,.slice yma ymn ymc,.int .i64 ye,.string ys,.slice yka ykn ykc,.slice yva yvn yvc]) 28)
        replace hG:=hG.alloc (.cells (List.toArray [.int .i64 yk,.bool yb,.bool yneg,.slice yma ymn ymc,.int .i64 ye,.string ys,.slice yka ykn ykc,.slice yva yvn yvc]) 28)
        generalize Z2.heap.size=gV at hlgV ⊢
        generalize Z2.alloc (.cells #[.int .i64 yk,.bool yb,.bool yneg,.slice yma ymn ymc,.int .i64 ye,.string ys,.slice yka ykn ykc,.slice yva yvn yvc] 28)=Zt at hlgV hG  ⊢
        refine rl_and ⟨hG.but,fun _=>hG.box.cells.2.2.2.2.2.2.1,fun _=>hG.box.cells.2.2.2.2.2.2.2⟩ (fun hS hC=>?_)
        rotate_left
        refine rl_val 8 _ (.slice (some ⟨Z1.heap.size,0,none⟩) 1 1) (Z1.alloc (.cells #[.int .i64 yk,.bool yb,.bool yneg,.slice yma ymn ymc,.int .i64 ye,.string ys,.slice yka ykn ykc,.slice yva yvn yvc] 28)) (some 120) rfl (by kernel_rfl) (by kernel_rfl) (by kernel_rfl) ?_
        have hlgV:=heap_alloc_new Z1 (.cells (List.toArray [.int .i64 yk,.bool yb,.bool yneg,.slice yma ymn ymc,.int .i64 ye,.string ys,.slice yka ykn ykc,.slice yva yvn yvc]) 28)
        have hlgK:=((Below.refl Z1.heap.size Z1).alloc (Nat.le_refl _) (.cells (List.toArray [.int .i64 yk,.bool yb,.bool yneg,.slice yma ymn ymc,.int .i64 ye,.string ys,.slice yka ykn ykc,.slice yva yvn yvc]) 28)).block _ (Array.getElem?_eq_some_iff.1 hlgK).1 |>.trans hlgK
        replace hG:=hG.alloc (.cells (List.toArray [.int .i64 yk,.bool yb,.bool yneg,.slice yma ymn ymc,.int .i64 ye,.string ys,.slice yka ykn ykc,.slice yva yvn yvc]) 28)
        generalize Z1.heap.size=gV at hlgV ⊢
        generalize Z1.alloc (.cells #[.int .i64 yk,.bool yb,.bool yneg,.slice yma ymn ymc,.int .i64 ye,.string ys,.slice yka ykn ykc,.slice yva yvn yvc] 28)=Z4 at hlgV hG hlgK ⊢
        refine rl_and ⟨hG.but,fun _=>hG.box.cells.2.2.2.2.2.2.1,fun _=>hG.box.cells.2.2.2.2.2.2.2⟩ (fun hS hC=>?_)
        refine rl_all [4] (by kernel_rfl) (by simp) hC (rl_one _ ?_)
        refine rl_law 4 _ (some 116) rfl (by kernel_rfl) (by kernel_rfl) (R:=fun v' w'=>w'.ownsRow W2.heap.size 9 1 v' (ks.length+1) ((sv ks)++[.string s])∧Z4.grownBy w' (Value.slice ka ks.length kc).ownBlock) (fun K hK=>wp_appV Tryd.underlying22 info_string rfl (by decide) (by decide) Z4 (.tmp 113) (.tmp 115) rfl W2.heap.size _ ks.length (sv ks) (by kernel_rfl) hG.ok (some ⟨gK,0,none⟩) 1 1 [.string s] (by kernel_rfl) rfl (rd_lit Z4 gK _ _ hlgK) (by intro u hu;rw [List.mem_singleton.1 hu];rfl) nofun (by first | omega | (simp;omega)) hG.but.size (fun v' w' h1 h2=>hK v' w' ⟨h1,h2⟩)) ?_
        rintro v' Zt ⟨ho,hgr⟩
        obtain ⟨aK,cK,rfl,hcK,_⟩:=own_viewN ho
        replace hlgV:=hG.litV hgr hlgV
        replace hG:=hG.appK ho hgr
        refine rl_and ⟨hG.but,fun _=>hG.box.cells.2.2.2.2.2.2.1,fun _=>hG.box.cells.2.2.2.2.2.2.2⟩ (fun hS hC=>?_)
        refine rl_pure 10 _ (.pointer (some ⟨(w.heap.size+1+1+1),6,none⟩)) (some 122) rfl (by kernel_rfl) (by kernel_rfl) (by kernel_rfl) (by kernel_rfl) (fun _ _ _ h=>h) (fun L W=>si2 10 11 13 rfl rfl _) (by kernel_rfl) (fun w=>by kernel_rfl) hC hS (fun hC hS=>?_)
        rotate_left
        refine rl_val 8 _ (.slice (some ⟨Z0.heap.size,0,none⟩) 1 1) (Z0.alloc (.cells #[.int .i64 yk,.bool yb,.bool yneg,.slice yma ymn ymc,.int .i64 ye,.string ys,.slice yka ykn ykc,.slice yva yvn yvc] 28)) (some 120) rfl (by kernel_rfl) (by kernel_rfl) (by kernel_rfl) ?_
        have hlgV:=heap_alloc_new Z0 (.cells (List.toArray [.int .i64 yk,.bool yb,.bool yneg,.slice yma ymn ymc,.int .i64 ye,.string ys,.slice yka ykn ykc,.slice yva yvn yvc]) 28)
        replace hG:=hG.alloc (.cells (List.toArray [.int .i64 yk,.bool yb,.bool yneg,.slice yma ymn ymc,.int .i64 ye,.string ys,.slice yka ykn ykc,.slice yva yvn yvc]) 28)
        generalize Z0.heap.size=gV at hlgV ⊢
        generalize Z0.alloc (.cells #[.int .i64 yk,.bool yb,.bool yneg,.slice yma ymn ymc,.int .i64 ye,.string ys,.slice yka ykn ykc,.slice yva yvn yvc] 28)=Z6 at hlgV hG  ⊢
        refine rl_and ⟨hG.but,fun _=>hG.box.cells.2.2.2.2.2.2.1,fun _=>hG.box.cells.2.2.2.2.2.2.2⟩ (fun hS hC=>?_)
        refine rl_all [3] (by kernel_rfl) (by simp) hC (rl_one _ ?_)
        refine rl_val 3 _ (.slice (some ⟨Z6.heap.size,0,none⟩) 1 1) (Z6.alloc (.cells #[.string s] 9)) (some 115) rfl (by kernel_rfl) (by kernel_rfl) (by kernel_rfl) ?_
        have hlgK:=heap_alloc_new Z6 (.cells (List.toArray [.string s]) 9)
        have hlgV:=((Below.refl Z6.heap.size Z6).alloc (Nat.le_refl _) (.cells (List.toArray [.string s]) 9)).block _ (Array.getElem?_eq_some_iff.1 hlgV).1 |>.trans hlgV
        replace hG:=hG.alloc (.cells (List.toArray [.string s]) 9)
        generalize Z6.heap.size=gK at hlgK ⊢
        generalize Z6.alloc (.cells #[.string s] 9)=Z7 at hlgK hG hlgV ⊢
        refine rl_and ⟨hG.but,fun _=>hG.box.cells.2.2.2.2.2.2.1,fun _=>hG.box.cells.2.2.2.2.2.2.2⟩ (fun hS hC=>?_)
        refine rl_all [4] (by kernel_rfl) (by simp) hC (rl_one _ ?_)
        refine rl_law 4 _ (some 116) rfl (by kernel_rfl) (by kernel_rfl) (R:=fun v' w'=>w'.ownsRow W2.heap.size 9 1 v' (ks.length+1) ((sv ks)++[.string s])∧Z7.grownBy w' (Value.slice ka ks.length kc).ownBlock) (fun K hK=>wp_appV Tryd.underlying22 info_string rfl (by decide) (by decide) Z7 (.tmp 113) (.tmp 115) rfl W2.heap.size _ ks.length (sv ks) (by kernel_rfl) hG.ok (some ⟨gK,0,none⟩) 1 1 [.string s] (by kernel_rfl) rfl (rd_lit Z7 gK _ _ hlgK) (by intro u hu;rw [List.mem_singleton.1 hu];rfl) nofun (by first | omega | (simp;omega)) hG.but.size (fun v' w' h1 h2=>hK v' w' ⟨h1,h2⟩)) ?_
        rintro v' Zt ⟨ho,hgr⟩
        obtain ⟨aK,cK,rfl,hcK,_⟩:=own_viewN ho
        replace hlgV:=hG.litV hgr hlgV
        replace hG:=hG.appK ho hgr
        refine rl_and ⟨hG.but,fun _=>hG.box.cells.2.2.2.2.2.2.1,fun _=>hG.box.cells.2.2.2.2.2.2.2⟩ (fun hS hC=>?_)
        refine rl_pure 10 _ (.pointer (some ⟨(w.heap.size+1+1+1),6,none⟩)) (some 122) rfl (by kernel_rfl) (by kernel_rfl) (by kernel_rfl) (by kernel_rfl) (fun _ _ _ h=>h) (fun L W=>si2 10 11 13 rfl rfl _) (by kernel_rfl) (fun w=>by kernel_rfl) hC hS (fun hC hS=>?_)
        rotate_left
        all_goals
          refine rl_all [9] (by kernel_rfl) (by simp) hC (rl_one _ ?_)
          refine rl_law 9 _ (some 121) rfl (by kernel_rfl) (by kernel_rfl) (R:=fun v' w'=>w'.ownsRow W2.heap.size 28 8 v' (us.length+1) (flat (us.map MT.c)++[.int .i64 yk,.bool yb,.bool yneg,.slice yma ymn ymc,.int .i64 ye,.string ys,.slice yka ykn ykc,.slice yva yvn yvc])∧Zt.grownBy w' (Value.slice va us.length vc).ownBlock) (fun K hK=>wp_appV Tryd.underlying26 info_tree rfl (by decide) (by decide) Zt (.tmp 118) (.tmp 120) rfl W2.heap.size _ us.length (flat (us.map MT.c)) (by kernel_rfl) hG.ov (some ⟨gV,0,none⟩) 1 1 [.int .i64 yk,.bool yb,.bool yneg,.slice yma ymn ymc,.int .i64 ye,.string ys,.slice yka ykn ykc,.slice yva yvn yvc] (by kernel_rfl) rfl (rd_lit Zt gV _ _ hlgV) (cel_one ⟨yk,yb,yneg,yma,ymn,ymc,ye,ys,yka,ykn,ykc,yva,yvn,yvc⟩) nofun (by first | omega | (simp;omega)) hG.but.size (fun v' w' h1 h2=>hK v' w' ⟨h1,h2⟩)) ?_
          rintro v' Z9 ⟨ho,hgr⟩
          obtain ⟨aV,cV,rfl,hcV,_⟩:=own_viewN ho
          replace hG:=hG.appV ho hgr
          refine rl_and ⟨hG.but,fun _=>hG.box.cells.2.2.2.2.2.2.1,fun _=>hG.box.cells.2.2.2.2.2.2.2⟩ (fun hS hC=>?_)
          refine rl_all [11] (by kernel_rfl) (by simp) hC (rl_one _ ?_)
          refine rl_store 11 _ 22 (.tmp 122) (.tmp 116) ⟨(w.heap.size+1+1+1),6,none⟩ (.slice aK (ks.length+1) cK) rfl (by kernel_rfl) (by kernel_rfl) rfl (by kernel_rfl) (by kernel_rfl) (by kernel_rfl) rfl (by rw [hG.box.cells.2.2.2.2.2.2.1];rfl) (hG.box.free 6) ?_
          replace hG:=hG.set 6 (.slice aK (ks.length+1) cK) (box_set6 hG.box aK (ks.length+1) cK)
          refine rl_and ⟨hG.but,fun h=>Bool.noConfusion (show true=false from h),fun _=>hG.box.cells.2.2.2.2.2.2.2⟩ (fun hS hC=>?_)
          refine rl_pure 12 _ (.pointer (some ⟨(w.heap.size+1+1+1),7,none⟩)) (some 123) rfl (by kernel_rfl) (by kernel_rfl) (by kernel_rfl) (by kernel_rfl) (fun _ _ _ h=>h) (fun L W=>si2 12 11 13 rfl rfl _) (by kernel_rfl) (fun w=>by kernel_rfl) hC hS (fun hC hS=>?_)
          refine rl_all [13] (by kernel_rfl) (by simp) hC (rl_one _ ?_)
          refine rl_store 13 _ 26 (.tmp 123) (.tmp 121) ⟨(w.heap.size+1+1+1),7,none⟩ (.slice aV (us.length+1) cV) rfl (by kernel_rfl) (by kernel_rfl) rfl (by kernel_rfl) (by kernel_rfl) (by kernel_rfl) rfl (by rw [hG.box.cells.2.2.2.2.2.2.2];rfl) (hG.box.free 7) ?_
          replace hG:=hG.set 7 (.slice aV (us.length+1) cV) (box_set hG.box aV (us.length+1) cV)
          refine rl_and ⟨hG.but,fun h=>Bool.noConfusion (show true=false from h),fun h=>Bool.noConfusion (show true=false from h)⟩ (fun hS hC=>?_)
          refine rl_done (by kernel_rfl) ?_ _
          generalize ((Z9.setCell ⟨(w.heap.size+1+1+1),6,none⟩ (.slice aK (ks.length+1) cK)).setCell ⟨(w.heap.size+1+1+1),7,none⟩ (.slice aV (us.length+1) cV))=wc at hG ⊢
          clear hS hC
          refine HJ.out _ _ ?_
          clear HJ
          simp only [Act.put,List.setIfInBounds_toArray,List.set_cons_zero,List.set_cons_succ]
          obtain ⟨ka,kc,va,vc,hG⟩:=pcut_of HCV.out hG
          have hul2:(us++[v]).length=(ks++[s]).length:=by have:=HUL.out;first | omega | (simp;omega)
          have hkl2:(ks++[s]).length≤1000:=by have:=HKL.out;first | omega | (simp;omega)
          have hvar:=(HBR.out wc hG.but).var
          unfold Var at hvar
          obtain ⟨⟨g0,g1,g2,g3,g4,g5,g6,g7⟩,f0,f1,f2,f3,f4,f5,f6,f7⟩:=hvar
          simp only [leafC] at g0 g1 g2 g3 g4 g5 g6 g7
          have HF:=Lib.hid (HEND.out wc (ks++[s]) (us++[v]) ka va kc vc hG HL.out.1 HL.out.2 hul2 hkl2)
          have hbx:=(put0_box (HBR.out wc hG.but) (c:=objC7 ka (ks++[s]).length kc va (ks++[s]).length vc)).cells
          unfold put0 objC7 at hbx HF
          simp only at hbx HF
          obtain ⟨e0,e1,e2,e3,e4,e5,e6,e7⟩:=hbx
          obtain ⟨d0,d1,d2,d3,d4,d5,d6,d7⟩:=hG.box.cells
          simp only [objC3] at d0 d1 d2 d3 d4 d5 d6 d7
          rw [hul2] at d7
          clear hG hul2 hkl2
          generalize (ks++[s]).length=lk at d6 d7 e0 e1 e2 e3 e4 e5 e6 e7 HF ⊢
          go_wp2
          exact bodyPost_ret (v:=.agg #[.int .i64 7,.bool false,.bool false,.slice none 0 0,.int .i64 0,.string ⟨#[]⟩,.slice ka lk kc,.slice va lk vc]) (by simp [results,Tryd.results57,go_sem,e0,e1,e2,e3,e4,e5,e6,e7]) rfl HF.out
      · have HL:=Lib.hid (sout_end HNL.out HVL.out HSO.out)
        have hG:=HG.out
        have hul2:us.length=ks.length:=by have:=HUL.out;first | omega | (simp;omega)
        have hkl2:ks.length≤1000:=by have:=HKL.out;first | omega | (simp;omega)
        have hvar:=(HBR.out wr hG.but).var
        unfold Var at hvar
        obtain ⟨⟨g0,g1,g2,g3,g4,g5,g6,g7⟩,f0,f1,f2,f3,f4,f5,f6,f7⟩:=hvar
        simp only [leafC] at g0 g1 g2 g3 g4 g5 g6 g7
        have HF:=Lib.hid (HEND.out wr ks us ka va kc vc hG HL.out.1 HL.out.2 hul2 hkl2)
        have hbx:=(put0_box (HBR.out wr hG.but) (c:=objC7 ka ks.length kc va ks.length vc)).cells
        unfold put0 objC7 at hbx HF
        simp only at hbx HF
        obtain ⟨e0,e1,e2,e3,e4,e5,e6,e7⟩:=hbx
        obtain ⟨d0,d1,d2,d3,d4,d5,d6,d7⟩:=hG.box.cells
        simp only [objC3] at d0 d1 d2 d3 d4 d5 d6 d7
        rw [hul2] at d7
        clear hG hul2 hkl2
        generalize ks.length=lk at d6 d7 e0 e1 e2 e3 e4 e5 e6 e7 HF ⊢
        go_wp2
        exact bodyPost_ret (v:=.agg #[.int .i64 7,.bool false,.bool false,.slice none 0 0,.int .i64 0,.string ⟨#[]⟩,.slice ka lk kc,.slice va lk vc]) (by simp [results,Tryd.results57,go_sem,e0,e1,e2,e3,e4,e5,e6,e7]) rfl HF.out
end Go.Proofs.YticgggjfmhiilaaDoor
