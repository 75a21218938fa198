/- Texts of the claim. -/
import Derived.Test.YtijaphbccnadbaaGreatDoorUI
import Derived.Test.YtijaphbccnadbaaGreatDoorUF
set_option linter.unusedVariables false
set_option linter.unusedSimpArgs false
set_option maxHeartbeats 8000000
set_option maxRecDepth 100000
namespace Go.Proofs.YtijaphbccnadbaaGreatDoor
open Go.RowKit Go.Shelf Go.Lib Go.Sort
def MemI (L:List (List UInt8) × List MT):Prop:=L.1.length=L.2.length∧∀ s∈L.1,s.length≤2000
theorem memberL_inv {V:List UInt8→Nat→PRJ} (L:List (List UInt8) × List MT) (l:List UInt8) (n:Nat) (r:(List (List UInt8) × List MT) × List UInt8 × Nat) (hI:MemI L) (h:memberL V L l n=.inl r):MemI r.1:=by
  unfold memberL at h
  split at h
  · cases h
  · rename_i q hq
    split at h
    · split at h
      · cases h
      · simp only [Sum.inl.injEq] at h
        subst h
        refine ⟨by simp [hI.1],fun s hs=>?_⟩
        rcases List.mem_append.1 hs with hs | hs
        · exact hI.2 s hs
        · rw [List.mem_singleton.1 hs];exact textL_len (t:=q.1) (r:=q.2) hq
    · cases h
theorem memberL_one {V:List UInt8→Nat→PRJ} (L:List (List UInt8) × List MT) (l:List UInt8) (n:Nat) (r:(List (List UInt8) × List MT) × List UInt8 × Nat) (h:memberL V L l n=.inl r):r.1.2.length=L.2.length+1:=by
  unfold memberL at h
  split at h
  · cases h
  · split at h
    · split at h
      · cases h
      · simp only [Sum.inl.injEq] at h
        subst h
        simp
    · cases h
theorem strs_nodup (N:List (List UInt8)):(strs N).Nodup ↔ N.Nodup:=by
  unfold strs List.Nodup
  rw [List.pairwise_map]
  constructor
  · intro h;exact h.imp (fun {a b} hab e=>hab (by rw [e]))
  · intro h;exact h.imp (fun {a b} hab e=>hab (by injection e with e;injection e))
def pickU (us:List MT) (S:List Nat):List MT:=S.map fun p=>us.getD p (leafT 0 false ⟨#[]⟩)
theorem pickU_c (us:List MT) (S:List Nat) (h:∀ p∈S,p<us.length):pickC (us.map MT.c) S=(pickU us S).map MT.c:=by
  unfold pickC pickU
  rw [List.map_map]
  apply List.map_congr_left
  intro p hp
  have:=h p hp
  simp [List.getD,this]
theorem pickU_mem {us:List MT} {S:List Nat} (h:∀ p∈S,p<us.length) {x:MT} (hx:x∈pickU us S):x∈us:=by
  unfold pickU at hx
  obtain ⟨p,hp,rfl⟩:=List.mem_map.1 hx
  have:=h p hp
  simp [List.getD,this]
theorem pickU_bare (us:List MT) (S:List Nat) (h:∀ p∈S,p<us.length):(pickU us S).map MT.bare=S.map fun i=>(us.map MT.bare).getD i (leafT 0 false ⟨#[]⟩):=by
  unfold pickU
  rw [List.map_map]
  apply List.map_congr_left
  intro p hp
  have:=h p hp
  simp [List.getD,this]
theorem objL_no {V:List UInt8→Nat→PRJ} {d n:Nat} {s:List UInt8} {x:Int} (h:loopL (memberL V) 125 (d+1) (s.length+1) 0 ([],[]) (skipL s).tail n=.inr x):objL V d n s=.inr x:=by unfold objL;rw [h]
theorem objL_twice {V:List UInt8→Nat→PRJ} {d n:Nat} {s:List UInt8} {q:(List (List UInt8) × List MT) × List UInt8 × Nat} (h:loopL (memberL V) 125 (d+1) (s.length+1) 0 ([],[]) (skipL s).tail n=.inl q) (h2:¬ q.1.1.Nodup):objL V d n s=.inr 2:=by unfold objL;rw [h];simp [h2]
theorem objL_yes {V:List UInt8→Nat→PRJ} {d n:Nat} {s:List UInt8} {q:(List (List UInt8) × List MT) × List UInt8 × Nat} (h:loopL (memberL V) 125 (d+1) (s.length+1) 0 ([],[]) (skipL s).tail n=.inl q) (h2:q.1.1.Nodup) :
    objL V d n s=.inl (bobj ((sortedK (strs q.1.1)).map fun i=>(strs q.1.1).getD i ByteArray.empty) ((sortedK (strs q.1.1)).map fun i=>q.1.2.getD i (leafT 0 false ⟨#[]⟩)),q.2.1,q.2.2):=by unfold objL;rw [h];simp [h2]
def ObI (w:World) (g bi br bk B:Nat) (L:List (List UInt8) × List MT) (W:World):Prop:=ObJ w g bi br bk B L W∧∃ l d n,RdJ g l d n W
theorem memberL_len {V:List UInt8→Nat→PRJ} (hV:∀ s n,Eats s n (V s n)) (s:List (List UInt8) × List MT) (l:List UInt8) (n:Nat) (r:(List (List UInt8) × List MT) × List UInt8 × Nat) (hn:n≤2000) (h:memberL V s l n=.inl r):r.2.1.length<l.length∧r.2.2≤2000∧r.1.2.length=s.2.length+1:=by
  have h1:=memberL_eats hV s l n r h
  exact ⟨h1.1,h1.2 hn,memberL_one s l n r h⟩
theorem obj_new {w:World} {g bi br B m:Nat} {nv:Value} {N:List (List UInt8)} {us:List MT} {va:Option Addr} {vc:Nat} {W W':World} {g1 g2:Nat} (hK:ItK w g bi br B nv us va vc W) (hm:m≤300) (hN:N.length=m) (hu:us.length=m) (hz:∀ s∈N,s.length≤2000)
    (q1:W.heap.size≤g1) (q2:W.heap.size≤g2) (hk1:BlkV W' g1 9 (sv (pickB (strs N) (srt Op.bytesLess (keyB (strs N)) 0 m)))) (hk2:BlkV W' g2 28 (flat (pickC (us.map MT.c) (srt Op.bytesLess (keyB (strs N)) 0 m)))) (hb:Below W.heap.size W W') :
    Ind (fun k=>k<B) W' (fun X=>Rep X (.mk (objC g1 g2 m) [] (pickB (strs N) (srt Op.bytesLess (keyB (strs N)) 0 m)) (pickU us (srt Op.bytesLess (keyB (strs N)) 0 m)))):=by
  have hS:∀ p∈srt Op.bytesLess (keyB (strs N)) 0 m,p<m:=fun p hp=>by have:=srt_mem.1 hp;omega
  have hlN:(strs N).length=m:=by unfold strs;rw [List.length_map,hN]
  rw [pickU_c us _ (fun p hp=>by have:=hS p hp;omega)] at hk2
  have hB:=hK.hB
  intro X h1 h2
  have i1:=ind_rdv (X:=fun k=>k<B) hk1.all (fun a e hx=>by cases e;simp only at hx;omega) X h1 h2
  have i2:=ind_rdv (X:=fun k=>k<B) hk2.all (fun a e hx=>by cases e;simp only at hx;omega) X h1 h2
  have i3:=hK.ind X (Nat.le_trans hb.size h1) (fun k hk hx=>by
    rw [h2 k (Nat.lt_of_lt_of_le hk hb.size) (fun h=>hx (.inl h)),hb.block k hk])
  refine Rep.mk ⟨rfl,Nat.le_refl _,Okl.nil,Rd.nil _ _,?_,Nat.le_refl _,i1,?_,Nat.le_refl _,i2,⟨Nat.zero_le _,(by show m≤_;omega),(by show m≤_;omega)⟩,(by show ByteArray.empty.size≤_;exact Nat.zero_le _),?_,⟨(by show (-9223372036854775808:Int)≤0;decide),(by show (0:Int)≤9223372036854775807;decide)⟩,⟨(by show (-9223372036854775808:Int)≤7;decide),(by show (7:Int)≤9223372036854775807;decide)⟩⟩ ?_
  · show (pickB _ _).length=m;rw [pickB_len,srt_len]
  · show (pickU _ _).length=m;unfold pickU;rw [List.length_map,srt_len]
  · intro s hs
    change s∈pickB _ _ at hs
    unfold pickB at hs
    obtain ⟨p,hp,rfl⟩:=List.mem_map.1 hs
    have hp:=hS p hp
    have hpN:p<N.length:=by omega
    have e:(strs N).getD p ByteArray.empty=⟨N[p].toArray⟩:=by unfold strs;simp [List.getD,hpN]
    rw [e]
    have:=hz N[p] (List.getElem_mem _)
    simp only [ByteArray.size,List.size_toArray]
    unfold maxLen;omega
  · intro x hx
    exact i3 x (pickU_mem (fun p hp=>by have:=hS p hp;omega) hx)
theorem box8_alloc {W:World} {b:Nat} {t:TypeId} {u0 u1 u2 u3 u4 u5 u6 u7:Value} (h:W.heap[b]? = some (.cells #[u0,u1,u2,u3,u4,u5,u6,u7] t)) (v0 v1 v2 v3 v4 v5 v6 v7:Value) (o:Obj) :
    (((((((((W.setCell ⟨b,0,none⟩ v0).setCell ⟨b,1,none⟩ v1).setCell ⟨b,2,none⟩ v2).setCell ⟨b,3,none⟩ v3).setCell ⟨b,4,none⟩ v4).setCell ⟨b,5,none⟩ v5).setCell ⟨b,6,none⟩ v6).setCell ⟨b,7,none⟩ v7).alloc o).heap[b]? = some (.cells #[v0,v1,v2,v3,v4,v5,v6,v7] t):=by
  have hlt:b<W.heap.size:=(Array.getElem?_eq_some_iff.1 h).1
  rw [Below.heap_alloc _ _ _ (by simpa [World.setCell] using hlt)]
  simp [World.setCell,Array.getElem?_modify,h]
theorem obj_bare {N:List (List UInt8)} {us:List MT} {k:Nat} (g1 g2:Nat) (hm:k≤300) (hN:N.length=k) (hu:us.length=k) :
    (MT.mk (objC g1 g2 k) [] (pickB (strs N) (srt Op.bytesLess (keyB (strs N)) 0 k)) (pickU us (srt Op.bytesLess (keyB (strs N)) 0 k))).bare =
      bobj ((sortedK (strs N)).map fun i=>(strs N).getD i ByteArray.empty) ((sortedK (strs N)).map fun i=>(us.map MT.bare).getD i (leafT 0 false ⟨#[]⟩)):=by
  have hlN:(strs N).length=k:=by unfold strs;rw [List.length_map,hN]
  have e:srt Op.bytesLess (keyB (strs N)) 0 k=sortedK (strs N):=by unfold sortedK;rw [hlN];rfl
  rw [MT.bare_eq,e]
  have hS:∀ p∈sortedK (strs N),p<us.length:=fun p hp=>by rw [← e] at hp;have:=srt_mem.1 hp;omega
  have hl:(sortedK (strs N)).length=k:=by rw [← e,srt_len]
  show MT.mk (objC g1 g2 k).bare [] (pickB (strs N) (sortedK (strs N))) ((pickU us (sortedK (strs N))).map MT.bare)=_
  rw [pickU_bare us _ hS]
  unfold bobj objT
  rw [List.length_map,List.length_map,hl]
  rfl
theorem StJ.on_alloc {g:Nat} {l:List UInt8} {d n:Nat} {a w:World} {o:Obj} (h:StJ g l d n a w):StJ g l d n a (w.alloc o):=h.trans (StJ.of_below h.rd ((Below.refl _ _).alloc (Nat.le_refl _) _))
theorem object_anyj (w0:World) (g d:Nat) (hg0:w0.heap.size≤g) (hd:d≤900) (hU0:UT w0) (V:List UInt8→Nat→PRJ) (hE:∀ s n,Eats s n (V s n)) (hV:d+1≤64→ValC w0 g (d+1) V) (l:List UInt8) (n:Nat) (w:World) (hl:l.length≤1000000) (hn:n≤2000) (hx:nextL l=123) (hr:RdJ g l d n w) (hb:Below w0.heap.size w0 w) :
    Calls Tryz.prog 50 #[.pointer (some ⟨g,0,none⟩)] w (ValJ g d (objL V d n l) w):=by
  have hmf:∀ (fn:Fn) (first cap:Array Value) (w:World),(Instr.makeFunc fn first cap).run Tryz.prog w=.ok (.func fn first cap) w:=fun _ _ _ _=>rfl
  have hg:=hr.lt
  obtain ⟨wA,hwA⟩:∃ x,(w.alloc (.cells #[.pointer (some ⟨g,0,none⟩)] 72)).alloc (.cells #[.int .i64 0,.bool false,.bool false,.slice none 0 0,.int .i64 0,.string ⟨#[]⟩,.slice none 0 0,.slice none 0 0] 28)=x:=⟨_,rfl⟩
  obtain ⟨wB,hwB⟩:∃ x,(wA.alloc (.cells #[.slice none 0 0] 25)).alloc (.cells #[.slice none 0 0] 26)=x:=⟨_,rfl⟩
  have hbA:Below w.heap.size w wA:=by rw [← hwA];exact below_twoJ _ _ _
  have hbB:Below wA.heap.size wA wB:=by rw [← hwB];exact below_twoJ _ _ _
  have hsA:wA.heap.size=w.heap.size+1+1:=by rw [← hwA];simp
  have hsB:wB.heap.size=w.heap.size+1+1+1+1:=by rw [← hwB];simp [hsA]
  have q0:wA.heap[w.heap.size]? = some (.cells #[.pointer (some ⟨g,0,none⟩)] 72):=by rw [← hwA];exact (Below.heap_alloc _ _ _ (by simp)).trans (heap_alloc_new w _)
  have q1:wA.heap[w.heap.size+1]? = some (.cells #[.int .i64 0,.bool false,.bool false,.slice none 0 0,.int .i64 0,.string ⟨#[]⟩,.slice none 0 0,.slice none 0 0] 28):=by
    rw [← hwA];have:=heap_alloc_new (w.alloc (.cells #[.pointer (some ⟨g,0,none⟩)] 72)) (.cells #[.int .i64 0,.bool false,.bool false,.slice none 0 0,.int .i64 0,.string ⟨#[]⟩,.slice none 0 0,.slice none 0 0] 28);simpa using this
  have q2:wB.heap[w.heap.size+1+1]? = some (.cells #[.slice none 0 0] 25):=by
    rw [← hwB,← hsA];exact (Below.heap_alloc _ _ _ (by simp)).trans (heap_alloc_new wA _)
  have q3:wB.heap[w.heap.size+1+1+1]? = some (.cells #[.slice none 0 0] 26):=by
    rw [← hwB,← hsA];have:=heap_alloc_new (wA.alloc (.cells #[.slice none 0 0] 25)) (.cells #[.slice none 0 0] 26);simpa using this
  have hO:StaO wA g (w.heap.size+1+1+1) w.heap.size (w.heap.size+1+1) (w.heap.size+1+1+1+1):=⟨⟨by omega,by omega,by omega,by omega,by omega,by omega⟩,by omega,by omega,by omega,by omega⟩
  have HQ1:=Lib.hid q1
  have HO:=Lib.hid hO
  have hK0:ItK wA g (w.heap.size+1+1+1) w.heap.size (w.heap.size+1+1+1+1) (.slice none (strs []).length 0) [] none 0 wB:=⟨Oth.of_below hbB,(hbB.block _ (by omega)).trans q0,q3,World.ownsRow_nil _ _ _ _,fun W _ _=>nofun,by omega⟩
  have hE0:NmK (w.heap.size+1+1+1+1) (w.heap.size+1+1) (strs []) none 0 wB:=⟨q2,World.ownsRow_nil _ _ _ _⟩
  have hrB:RdJ g l d n wB:=(hr.on hbA).on hbB
  have HAB:=Lib.hid hbA
  have hbo:∀ W,Oth g wA W→Below w0.heap.size w0 W:=fun W ho=>hb.trans (((Oth.of_below hbA).trans ho).below hg0 hb.size)
  have KP:=Lib.hid (parts_anyj (σ:=List (List UInt8) × List MT) (fun L=>L.2.length) g (d+1) 78 #[.pointer (some ⟨w.heap.size,0,none⟩),.pointer (some ⟨w.heap.size+1+1,0,none⟩),.pointer (some ⟨w.heap.size+1+1+1,0,none⟩)] 123 125 (by decide) (by decide)
    (fun L W=>ObI wA g (w.heap.size+1+1+1) w.heap.size (w.heap.size+1+1) (w.heap.size+1+1+1+1) L W∧MemI L) (ThrJ wA g) (memberL V)
    (fun s W W' l' d' n' h1 h2=>by
      obtain ⟨⟨⟨us,ka,kc,va,vc,e,hK,hE⟩,_⟩,hI⟩:=h1
      exact ⟨⟨⟨us,ka,kc,va,vc,e,hK.on hO.st h2.oth,hE.on hO hK.hB h2.oth⟩,_,_,_,h2.rd⟩,hI⟩)
    (fun s W h1=>by
      obtain ⟨⟨⟨us,ka,kc,va,vc,e,hK,hE⟩,l',d',n',hr'⟩,hI⟩:=h1
      exact ⟨l',d',n',hK.oth,hr'⟩)
    (fun s W l' n' h1 hlen hl' hn' hd' hr'=>by
      obtain ⟨⟨⟨us,ka,kc,va,vc,e,hK,hE⟩,_⟩,hI⟩:=h1
      obtain ⟨N,vs⟩:=s
      simp only at e hlen hI hK hE
      subst e
      rw [List.length_map] at hlen
      have hNl:N.length=us.length:=by have:=hI.1;simpa using this
      refine (member_anyj wA g _ _ _ _ hO (d+1) V N us ka kc va vc l' n' W hK hE hlen (by omega) hl' hr' (fun W' ho=>hU0.below (hbo W' ho)) (fun W' l2 hl2 hr2 ho2=>hV hd' W' l2 n' hl2 hn' hr2 (hbo W' ho2))).mono fun r W2 h=>?_
      unfold PartJ at h ⊢
      cases hq:memberL V (N,us.map MT.bare) l' n' with
      | inr x=>rw [hq] at h;exact h
      | inl q=>rw [hq] at h;exact ⟨h.1,⟨⟨h.2.1,_,_,_,h.2.2⟩,memberL_inv _ _ _ _ hI hq⟩,h.2.2⟩)
    (fun s l' n' r hn' h=>memberL_len hE s l' n' r hn' h)
    ([],[]) rfl l n wB (fun args w=>by kernel_rfl) (by omega) (by omega) hn hl hx ⟨⟨⟨[],none,0,none,0,rfl,hK0,hE0⟩,_,_,_,hrB⟩,rfl,nofun⟩ hrB)
  have HLEN:=Lib.hid (fun (q:(List (List UInt8) × List MT) × List UInt8 × Nat) (h:loopL (memberL V) 125 (d+1) (l.length+1) 0 ([],[]) (skipL l).tail n=.inl q)=>loopL_len (σ:=List (List UInt8) × List MT) (fun L=>L.2.length) (memberL_one (V:=V)) _ _ _ _ _ _ h rfl (Nat.zero_le _))
  have HYES:=Lib.hid (fun (q:(List (List UInt8) × List MT) × List UInt8 × Nat) (h:loopL (memberL V) 125 (d+1) (l.length+1) 0 ([],[]) (skipL l).tail n=.inl q) (h2:q.1.1.Nodup)=>objL_yes h h2)
  have HTW:=Lib.hid (fun (q:(List (List UInt8) × List MT) × List UInt8 × Nat) (h:loopL (memberL V) 125 (d+1) (l.length+1) 0 ([],[]) (skipL l).tail n=.inl q) (h2:¬ q.1.1.Nodup)=>objL_twice h h2)
  have HNO:=Lib.hid (fun (x:Int) (h:loopL (memberL V) 125 (d+1) (l.length+1) 0 ([],[]) (skipL l).tail n=.inr x)=>objL_no h)
  have n0:¬ w.heap.size=w.heap.size+1:=by omega
  have c0:wB.cell? ⟨w.heap.size,0,none⟩=some (.pointer (some ⟨g,0,none⟩)):=hK0.cr
  have HW:=Lib.hid (hwB:(wA.alloc _).alloc _=wB)
  rw [← hwA] at HW
  have HSA:=Lib.hid hsA
  clear hwA hwB hbA hbB hsA hsB q0 q1 q2 q3 hO hK0 hE0 hrB hE hV hb hr hx hl hn hg0 hd hbo hU0
  generalize hR:loopL (memberL V) 125 (d+1) (l.length+1) 0 ([],[]) (skipL l).tail n=R at *
  generalize objL V d n l=RR at *
  clear hR
  go_enter Tryz.func50,Tryz.ntmps50
  go_wp2_with fail
  rw [HW.out]
  go_wp2_with fail
  refine KP.out.mono ?_
  intro r W hp
  unfold PartJ at hp
  cases R with
  | inr x =>
    obtain ⟨rfl,l',d',n',hj⟩:=hp
    have HX:=Lib.hid ((StJ.mk (Oth.of_below HAB.out |>.trans hj.oth) hj.rd:StJ g l' d' n' w W))
    clear hj KP
    go_wp2
    exact ⟨rfl,ValJ.no (HNO.out x rfl) ⟨rfl,_,_,_,HX.out⟩⟩
  | inl q =>
    obtain ⟨⟨N,vs⟩,l',n'⟩:=q
    obtain ⟨rfl,⟨⟨⟨us,ka,kc,va,vc,e,hK,hE⟩,_⟩,hI⟩,hr'⟩:=hp
    simp only at e hK hE hI
    subst e
    have hm:=HLEN.out _ rfl
    simp only [List.length_map] at hm
    have hNl:N.length=us.length:=by have:=hI.1;simpa using this
    have hsl:(strs N).length=us.length:=by unfold strs;rw [List.length_map,hNl]
    obtain ⟨_,_,e1,hvc,hvr,_,hva,_⟩:=own_viewN hK.ow
    cases e1
    obtain ⟨_,_,e1,hkc,hkr,_,hka,_⟩:=own_viewN hE.ow
    cases e1
    have KO:=Lib.hid (object_core ka (strs N).length kc us.length (strs N) va us.length vc (us.map MT.c) W hkc (by omega) hsl hkr (List.length_map _) hvc (by omega) hvr (.inl ⟨Nat.le_of_eq hsl,hsl.symm⟩))
    have hb1:=(hK.oth.block (w.heap.size+1) (by have:=HSA.out;omega) (by omega)).trans HQ1.out
    have HK:=Lib.hid hK;have HE:=Lib.hid hE;have HR:=Lib.hid hr';have HI:=Lib.hid hI
    have HB1:=Lib.hid hb1
    have hci:=hK.ci
    have hck:=hE.ck
    have hne1:¬ w.heap.size+1+1=w.heap.size+1:=by omega
    have hne2:¬ w.heap.size+1=w.heap.size+1+1:=by omega
    have HM:=Lib.hid hm;have HNL:=Lib.hid hNl;have HSL:=Lib.hid hsl
    clear hvc hvr hva hkc hkr hka hb1 hK hE hr' hI KP c0 hm hNl hsl
    generalize hnn:us.length=k at *
    have HNN:=Lib.hid hnn
    clear hnn
    generalize hnm:(strs N).length=kn at *
    have HNM:=Lib.hid hnm
    clear hnm
    go_wp2_with fail
    refine KO.out.mono ?_
    rintro r2 W2 ⟨lo,f,hT,hp1,hp2⟩
    cases f with
    | true =>
      obtain ⟨hr2,hb2⟩:=hp2 rfl
      obtain rfl:r2=.returned (.tuple #[.agg #[.int .i64 0,.bool false,.bool false,.slice none 0 0,.int .i64 0,.string ⟨#[]⟩,.slice none 0 0,.slice none 0 0],.int .i64 (lo:Int),.bool false]):=hr2
      have HTN:=Lib.hid (show ¬ N.Nodup from fun h=>by
        have:=(twc_nodup (n:=k) (by rw [HNM.out,HSL.out]) hT).2 ((strs_nodup N).2 h)
        cases this)
      have HX:=Lib.hid (show StJ g l' d n' w W2 from ⟨((Oth.of_below HAB.out).trans HK.out.oth).trans (Oth.of_below hb2),HR.out.on hb2⟩)
      clear hT hp1 hp2 hb2 KO
      go_wp2
      refine ⟨rfl,ValJ.no (HTW.out _ rfl HTN.out) ⟨rfl,_,_,_,HX.out.on_alloc⟩⟩
    | false =>
      obtain ⟨g1,g2,hr2,q1,q2,hk1,hk2,hb2⟩:=hp1 rfl
      obtain rfl:r2=.returned (.tuple #[.agg #[.int .i64 7,.bool false,.bool false,.slice none 0 0,.int .i64 0,.string ⟨#[]⟩,.slice (some ⟨g1,0,none⟩) k k,.slice (some ⟨g2,0,none⟩) k k],.int .i64 0,.bool true]):=hr2
      have HND:=Lib.hid (show N.Nodup from (strs_nodup N).1 ((twc_nodup (n:=k) (by rw [HNM.out,HSL.out]) hT).1 rfl))
      have HIND:=Lib.hid (obj_new HK.out (m:=k) HM.out (by rw [HNL.out]) HNN.out HI.out.2 q1 q2 hk1 hk2 hb2)
      have HST:=Lib.hid (show StJ g l' d n' w W2 from ⟨((Oth.of_below HAB.out).trans HK.out.oth).trans (Oth.of_below hb2),HR.out.on hb2⟩)
      have hb1:=(hb2.block (w.heap.size+1) (Array.getElem?_eq_some_iff.1 HB1.out).1).trans HB1.out
      have HBX:=Lib.hid hb1
      clear hT hp1 hp2 hb2 KO q1 q2 hk1 hk2
      have y0:W2.cell? ⟨w.heap.size+1,0,none⟩=some (.int .i64 0):=(box_cellsJ hb1 0 _ rfl).1
      have z0:=(box_cellsJ hb1 0 _ rfl).2
      have y1:W2.cell? ⟨w.heap.size+1,1,none⟩=some (.bool false):=(box_cellsJ hb1 1 _ rfl).1
      have z1:=(box_cellsJ hb1 1 _ rfl).2
      have y2:W2.cell? ⟨w.heap.size+1,2,none⟩=some (.bool false):=(box_cellsJ hb1 2 _ rfl).1
      have z2:=(box_cellsJ hb1 2 _ rfl).2
      have y3:W2.cell? ⟨w.heap.size+1,3,none⟩=some (.slice none 0 0):=(box_cellsJ hb1 3 _ rfl).1
      have z3:=(box_cellsJ hb1 3 _ rfl).2
      have y4:W2.cell? ⟨w.heap.size+1,4,none⟩=some (.int .i64 0):=(box_cellsJ hb1 4 _ rfl).1
      have z4:=(box_cellsJ hb1 4 _ rfl).2
      have y5:W2.cell? ⟨w.heap.size+1,5,none⟩=some (.string ⟨#[]⟩):=(box_cellsJ hb1 5 _ rfl).1
      have z5:=(box_cellsJ hb1 5 _ rfl).2
      have y6:W2.cell? ⟨w.heap.size+1,6,none⟩=some (.slice none 0 0):=(box_cellsJ hb1 6 _ rfl).1
      have z6:=(box_cellsJ hb1 6 _ rfl).2
      have y7:W2.cell? ⟨w.heap.size+1,7,none⟩=some (.slice none 0 0):=(box_cellsJ hb1 7 _ rfl).1
      have z7:=(box_cellsJ hb1 7 _ rfl).2
      have hlt:w.heap.size+1<W2.heap.size:=(Array.getElem?_eq_some_iff.1 hb1).1
      clear hb1
      have hbx:(((((((((W2.setCell ⟨w.heap.size+1,0,none⟩ (.int .i64 7)).setCell ⟨w.heap.size+1,1,none⟩ (.bool false)).setCell ⟨w.heap.size+1,2,none⟩ (.bool false)).setCell ⟨w.heap.size+1,3,none⟩ (.slice none 0 0)).setCell ⟨w.heap.size+1,4,none⟩ (.int .i64 0)).setCell ⟨w.heap.size+1,5,none⟩ (.string ⟨#[]⟩)).setCell ⟨w.heap.size+1,6,none⟩ (.slice (some ⟨g1,0,none⟩) k k)).setCell ⟨w.heap.size+1,7,none⟩ (.slice (some ⟨g2,0,none⟩) k k)).alloc (.cells #[.int .i64 7,.bool false,.bool false,.slice none 0 0,.int .i64 0,.string ⟨#[]⟩,.slice (some ⟨g1,0,none⟩) k k,.slice (some ⟨g2,0,none⟩) k k] 28)).heap[w.heap.size+1]? = some (.cells #[.int .i64 7,.bool false,.bool false,.slice none 0 0,.int .i64 0,.string ⟨#[]⟩,.slice (some ⟨g1,0,none⟩) k k,.slice (some ⟨g2,0,none⟩) k k] 28):=box8_alloc HBX.out _ _ _ _ _ _ _ _ _
      have e0:=(box_cellsJ hbx 0 _ rfl).1
      have e1:=(box_cellsJ hbx 1 _ rfl).1
      have e2:=(box_cellsJ hbx 2 _ rfl).1
      have e3:=(box_cellsJ hbx 3 _ rfl).1
      have e4:=(box_cellsJ hbx 4 _ rfl).1
      have e5:=(box_cellsJ hbx 5 _ rfl).1
      have e6:=(box_cellsJ hbx 6 _ rfl).1
      have e7:=(box_cellsJ hbx 7 _ rfl).1
      have hfin:=arr_fin HST.out (b:=w.heap.size+1) (B:=w.heap.size+1+1+1+1) (by omega) (by omega) (by omega) (by omega) HIND.out (.int .i64 7) (.bool false) (.bool false) (.slice none 0 0) (.int .i64 0) (.string ⟨#[]⟩) (.slice (some ⟨g1,0,none⟩) k k) (.slice (some ⟨g2,0,none⟩) k k)
      have HF1:=Lib.hid (hfin.1.below (show Below _ _ (((((((((W2.setCell ⟨w.heap.size+1,0,none⟩ (.int .i64 7)).setCell ⟨w.heap.size+1,1,none⟩ (.bool false)).setCell ⟨w.heap.size+1,2,none⟩ (.bool false)).setCell ⟨w.heap.size+1,3,none⟩ (.slice none 0 0)).setCell ⟨w.heap.size+1,4,none⟩ (.int .i64 0)).setCell ⟨w.heap.size+1,5,none⟩ (.string ⟨#[]⟩)).setCell ⟨w.heap.size+1,6,none⟩ (.slice (some ⟨g1,0,none⟩) k k)).setCell ⟨w.heap.size+1,7,none⟩ (.slice (some ⟨g2,0,none⟩) k k)).alloc (.cells #[.int .i64 7,.bool false,.bool false,.slice none 0 0,.int .i64 0,.string ⟨#[]⟩,.slice (some ⟨g1,0,none⟩) k k,.slice (some ⟨g2,0,none⟩) k k] 28)) from (Below.refl _ _).alloc (Nat.le_refl _) _))
      have HF2:=Lib.hid (show StJ g l' d n' w (((((((((W2.setCell ⟨w.heap.size+1,0,none⟩ (.int .i64 7)).setCell ⟨w.heap.size+1,1,none⟩ (.bool false)).setCell ⟨w.heap.size+1,2,none⟩ (.bool false)).setCell ⟨w.heap.size+1,3,none⟩ (.slice none 0 0)).setCell ⟨w.heap.size+1,4,none⟩ (.int .i64 0)).setCell ⟨w.heap.size+1,5,none⟩ (.string ⟨#[]⟩)).setCell ⟨w.heap.size+1,6,none⟩ (.slice (some ⟨g1,0,none⟩) k k)).setCell ⟨w.heap.size+1,7,none⟩ (.slice (some ⟨g2,0,none⟩) k k)).alloc (.cells #[.int .i64 7,.bool false,.bool false,.slice none 0 0,.int .i64 0,.string ⟨#[]⟩,.slice (some ⟨g1,0,none⟩) k k,.slice (some ⟨g2,0,none⟩) k k] 28)) from hfin.2.on_alloc)
      clear hbx hfin
      go_wp2_with fail
      refine bodyPost_ret (v:=.agg #[.int .i64 7,.bool false,.bool false,.slice none 0 0,.int .i64 0,.string ⟨#[]⟩,.slice (some ⟨g1,0,none⟩) k k,.slice (some ⟨g2,0,none⟩) k k]) (by simp [results,Tryz.results50,go_sem,e0,e1,e2,e3,e4,e5,e6,e7]) rfl ?_
      exact ValJ.yes _ (HYES.out _ rfl HND.out) rfl (obj_bare g1 g2 HM.out HNL.out HNN.out) HF1.out HF2.out
theorem value_all (w0:World) (g:Nat) (hg0:w0.heap.size≤g) (hU0:UT w0):∀ f d,d+f=67→0<d→d≤64→ValC w0 g d (valueL f d):=by
  intro f
  induction f with
  | zero=>intro d h1 _ h2;omega
  | succ f ih =>
    intro d h1 h0 h2 W l n hl hn hr hb
    have hbo:∀ W',Oth g W W'→Below w0.heap.size w0 W':=fun W' ho=>hb.trans (ho.below hg0 hb.size)
    have hV:d+1≤64→ValC w0 g (d+1) (valueL f (d+1)):=fun hd=>ih (d+1) (by omega) (by omega) hd
    unfold valueL
    refine value_anyj g d n _ _ l W hl hr (fun W' s hst=>hU0.below (hbo W' hst.oth)) (fun W' s hr2 hst _ hs=>number_anyj g d n s W' (by omega) hr2) ?_ ?_
    · intro W' s hr2 hst hx hs
      exact array_anyj w0 g d hg0 (by omega) _ (valueL_eats f (d+1)) hV s n W' (by omega) hn hx hr2 (hbo W' hst.oth)
    · intro W' s hr2 hst hx hs
      exact object_anyj w0 g d hg0 (by omega) hU0 _ (valueL_eats f (d+1)) hV s n W' (by omega) hn hx hr2 (hbo W' hst.oth)
theorem decode_anyj (l:List UInt8) (w:World) (hl:l.length≤1000000) (hU:UT w):Calls Tryz.prog 11 #[.string ⟨l.toArray⟩] w (DecPost (decodeL l) w):=by
  unfold decodeL
  split
  · rename_i h;exact decode_long l w hl h
  · rename_i h
    exact decode_short l w (by omega) (valueL 66 1 l 1) (fun W hr hb=>value_all w (w.heap.size+1+1) (by omega) hU 66 1 rfl (by omega) (by omega) W l 1 hl (by omega) hr hb)
end Go.Proofs.YtijaphbccnadbaaGreatDoor
namespace Go.Proofs.YtijaphbccnadbaaGreatDoor
open Go.Shelf Go.RowKit Go.Lib Go.Sort
def awIn:List UInt8:=[123,34,98,34,58,49,44,34,97,34,58,91,116,114,117,101,93,125]
def awOut:List UInt8:=[123,34,97,34,58,91,116,114,117,101,93,44,34,98,34,58,49,125]
def awJ:MT:=bobj [⟨#[97]⟩,⟨#[98]⟩] [barr [leafT 2 true ⟨#[]⟩],bnum (false,1,0)]
theorem valueL_obj {f d n:Nat} {l:List UInt8} (h:nextL l=123):valueL (f+1) d l n=objL (valueL f (d+1)) d n (skipL l):=by
  unfold valueL valueW
  rw [h]
  rfl
theorem valueL_arr {f d n:Nat} {l:List UInt8} (h:nextL l=91):valueL (f+1) d l n=arrL (valueL f (d+1)) d n (skipL l):=by
  unfold valueL valueW
  rw [h]
  rfl
theorem valueL_num {f d n:Nat} {l:List UInt8} (h:(nextL l).toNat=45∨48≤(nextL l).toNat∧(nextL l).toNat≤57):valueL (f+1) d l n=numP (skipL l) n:=by
  unfold valueL valueW
  rw [if_neg (by omega),if_neg (by omega),if_neg (by omega),if_pos h]
theorem sort_two:sortedK [⟨#[98]⟩,⟨#[97]⟩]=[1,0]:=by
  show srt Op.bytesLess (keyB [⟨#[98]⟩,⟨#[97]⟩]) 0 2=[1,0]
  refine (srt_unique sto_bytes _ _ _ _ (by decide) ?_).symm
  have hk:∀ (l:List ByteArray) (i:Nat),keyB l i=(l.getD i ByteArray.empty).data.toList:=fun l i=>by unfold keyB;rw [ByteArray.toList_eq]
  simp only [List.pairwise_cons,leI_iff,hk]
  decide
theorem aw_loop:loopL (memberL (valueL 65 2)) 125 2 (awIn.length+1) 0 ([],[]) (skipL awIn).tail 1=.inl (([[98],[97]],[bnum (false,1,0),barr [leafT 2 true ⟨#[]⟩]]),[],4):=by kernel_rfl
theorem aw_val:valueL 66 1 awIn 1=.inl (awJ,[],4):=by
  rw [valueL_obj (show nextL awIn=123 by kernel_rfl)]
  have h:=objL_yes (V:=valueL 65 2) (d:=1) (n:=1) (s:=skipL awIn) (q:=(([[98],[97]],[bnum (false,1,0),barr [leafT 2 true ⟨#[]⟩]]),[],4)) aw_loop (by decide)
  rw [show strs [[98],[97]]=[⟨#[98]⟩,⟨#[97]⟩] from rfl,sort_two] at h
  exact h
theorem aw_dec:decodeL awIn=.inl awJ:=by
  unfold decodeL
  rw [if_neg (by decide),aw_val]
  rfl
theorem aw_enc:encJ awJ=awOut:=by kernel_rfl
theorem aw_check:checkB awJ=true:=by kernel_rfl
theorem soundB_bare (t:MT):soundB t.bare=soundB t:=by
  rw [MT.bare_eq]
  obtain ⟨⟨k,b,neg,ma,mn,mc,e,s,ka,kn,kc,va,vn,vc⟩,m,ks,vs⟩:=t
  rfl
theorem encJ_bare (t:MT):encJ t.bare=encJ t:=by
  refine MT.ind (P:=fun t=>encJ t.bare=encJ t) ?_ t
  intro t ih
  rw [encJ_eq t.bare,encJ_eq t,MT.bare_eq]
  obtain ⟨c,m,ks,vs⟩:=t
  simp only [MT.c,MT.m,MT.k,MT.v,Cel.bare] at ih ⊢
  have e:(vs.map MT.bare).map encJ=vs.map encJ:=by
    rw [List.map_map]
    exact List.map_congr_left ih
  rw [e]
  rfl
theorem pre_bare (t:MT):∀ d,t.bare.pre d=(t.pre d).map fun x=>(x.1,x.2.bare):=by
  refine MT.ind (P:=fun t=>∀ d,t.bare.pre d=(t.pre d).map fun x=>(x.1,x.2.bare)) ?_ t
  intro t ih d
  rw [MT.bare_eq,MT.pre_eq,MT.pre_eq,List.map_cons,MT.bare_eq]
  congr 1
  have key:∀ l:List MT,(∀ u∈l,∀ d,u.bare.pre d=(u.pre d).map fun x=>(x.1,x.2.bare))→MT.preL (l.map MT.bare) (d+1)=(MT.preL l (d+1)).map fun x=>(x.1,x.2.bare):=by
    intro l
    induction l with
    | nil=>intro _;rw [List.map_nil,MT.preL_nil];rfl
    | cons u l ih2 =>
      intro h
      rw [List.map_cons,MT.preL_cons,MT.preL_cons,List.map_append,h u (by simp),ih2 (fun x hx=>h x (by simp [hx]))]
  exact key t.v ih
theorem nodes_bare (t:MT):t.bare.nodes=t.nodes:=by
  rw [← t.bare.pre_len 0,← t.pre_len 0,pre_bare,List.length_map]
theorem checkB_bare (t:MT):checkB t.bare=checkB t:=by
  unfold checkB
  rw [nodes_bare,pre_bare,List.all_map]
  congr 1
  apply List.all_congr rfl
  intro x
  simp only [Function.comp,soundB_bare]
theorem noB_bare (t:MT):NoB t.bare ↔ NoB t:=by
  have key:∀ t:MT,NoB t ↔ ∀ x∈t.pre 0,x.2.c.k ≠ 5:=by
    intro t
    constructor
    · intro h x hx;exact h x.2 ⟨x.1,hx⟩
    · rintro h s ⟨n,hn⟩;exact h _ hn
  rw [key,key,pre_bare]
  simp only [List.mem_map,forall_exists_index,and_imp]
  constructor
  · intro h x hx
    have:=h _ x hx rfl
    rw [MT.bare_eq] at this
    exact this
  · rintro h _ x hx rfl
    have:=h x hx
    rw [MT.bare_eq]
    exact this
theorem encodeL_of {t u:MT} (h:t.bare=u):encodeL t=encodeL u:=by
  have h1:checkB t=checkB u:=by rw [← checkB_bare t,h]
  have h2:encJ t=encJ u:=by rw [← encJ_bare t,h]
  have h3:NoB t ↔ NoB u:=by rw [← noB_bare t,h]
  unfold encodeL
  rw [h1,h2]
  by_cases hn:NoB t
  · simp only [hn,h3.1 hn]
  · have hu:¬ NoB u:=fun h=>hn (h3.2 h)
    simp only [hn,hu]
theorem encodeL_yes {t:MT} (h:checkB t=true) (h2:NoB t) (h3:(encJ t).length≤32768):encodeL t=.inl (encJ t):=by unfold encodeL;rw [if_neg (by rw [h];decide),if_pos h2,if_pos h3]
theorem noB_leaf {t:MT} (h:t.c.k ≠ 5) (h2:t.v=[]):NoB t:=NoB.iff.2 ⟨h,by rw [h2];nofun⟩
theorem aw_nob:NoB awJ:=by
  refine NoB.iff.2 ⟨by decide,fun u hu=>?_⟩
  have hu:u∈[barr [leafT 2 true ⟨#[]⟩],bnum (false,1,0)]:=hu
  rcases List.mem_cons.1 hu with rfl | hu
  · refine NoB.iff.2 ⟨by decide,fun u hu=>?_⟩
    have hu:u∈[leafT 2 true ⟨#[]⟩]:=hu
    rw [List.mem_singleton.1 hu]
    exact noB_leaf (by decide) rfl
  · rw [List.mem_singleton.1 hu]
    exact noB_leaf (by decide) rfl
theorem aw_encode {t:MT} (h:t.bare=awJ):encodeL t=.inl awOut:=by
  rw [encodeL_of h,encodeL_yes aw_check aw_nob (by rw [aw_enc];decide),aw_enc]
/-- The document's example. -/
theorem awakeJ_any (w:World) (hU:UT w) (hT:TB w):Calls Tryz.prog 10 #[] w (BoolBelow true w):=by
  have KD:=Lib.hid (decode_anyj awIn w (by decide) hU)
  rw [aw_dec] at KD
  have HU:=Lib.hid hU;have HT:=Lib.hid hT
  clear hU hT
  unfold awIn DecPost at KD
  go_enter Tryz.func10,Tryz.ntmps10
  go_wp2_with fail
  refine KD.out.mono ?_
  rintro r w1 ⟨t,rfl,hbare,hR,hb⟩
  have KE:=Lib.hid (fun W (h:Below w1.heap.size w1 W)=>encode_anyj t W (hR.on h) (HU.out.below (hb.trans (h.mono hb.size))) (HT.out.below (hb.trans (h.mono hb.size))))
  rw [aw_encode hbare] at KE
  unfold EncPost awOut at KE
  have HB:=Lib.hid hb
  clear hb hR hbare KD
  generalize t.c=c at *
  obtain ⟨k,b0,neg,ma,mn,mc,e,s,ka,kn,kc,va,vn,vc⟩:=c
  unfold Cel.val at *
  have hb2:Below w1.heap.size w1 (w1.alloc (.cells #[.int .i64 k,.bool b0,.bool neg,.slice ma mn mc,.int .i64 e,.string s,.slice ka kn kc,.slice va vn vc] 28)):=(Below.refl _ _).alloc (Nat.le_refl _) _
  have KE2:=Lib.hid (KE.out _ hb2)
  have HB2:=Lib.hid hb2
  clear hb2 KE
  go_wp2_with fail
  refine KE2.out.mono ?_
  rintro r w3 ⟨rfl,hb3⟩
  have HB3:=Lib.hid (HB.out.trans ((HB2.out.trans (hb3.mono HB2.out.size)).mono HB.out.size))
  clear hb3 KE2
  go_wp2
  go_ret
  exact BoolBelow.mk rfl HB3.out
theorem skipL_cons {x:UInt8} {r:List UInt8} (h:blanksL.contains x=false):skipL (x::r)=x::r:=by
  unfold skipL Lib.trimLeftS
  rw [List.dropWhile_cons,if_neg (by rw [h];decide)]
theorem nextL_cons' {x:UInt8} {r:List UInt8} (h:blanksL.contains x=false):nextL (x::r)=x:=nextL_cons (skipL_cons h)
def NoSign (l:List UInt8):Prop:=∀ x r,l=x::r→signsL.contains x=false
theorem noSign_nil:NoSign []:=fun _ _ h=>by cases h
theorem noSign_cons {x:UInt8} (r:List UInt8) (h:signsL.contains x=false):NoSign (x::r):=fun y s e=>by cases e;exact h
theorem trim_stop {l:List UInt8} (h:NoSign l):Lib.trimLeftS l signsL=l:=by
  unfold Lib.trimLeftS
  cases l with
  | nil=>rfl
  | cons x r=>rw [List.dropWhile_cons,if_neg (by rw [h x r rfl];decide)]
theorem trim_signs {p l:List UInt8} (hp:∀ x∈p,signsL.contains x=true) (h:NoSign l):Lib.trimLeftS (p++l) signsL=l:=by
  induction p with
  | nil=>exact trim_stop h
  | cons x p ih =>
    have h1:=hp x (by simp)
    unfold Lib.trimLeftS at ih ⊢
    rw [List.cons_append,List.dropWhile_cons,if_pos h1]
    exact ih (fun y hy=>hp y (by simp [hy]))
theorem numL_signs {p l:List UInt8} (hp:∀ x∈p,signsL.contains x=true) (h:NoSign l):numL (p++l)=match parseN (p.map UInt8.toNat) with | .inr x=>.inr x | .inl r=>.inl (r,l):=by
  unfold numL
  rw [trim_signs hp h]
  have e:(p++l).take ((p++l).length - l.length)=p:=by
    rw [List.length_append,Nat.add_sub_cancel];exact List.take_left' rfl
  rw [e]
  cases parseN (p.map UInt8.toNat) <;> rfl
def Coh (t:MT):Prop:=∀ s,t.sub s→s.m.length=s.c.mn∧Okl s.m∧s.k.length=s.c.kn∧s.v.length=s.c.vn
theorem Coh.of {w:World} {t:MT} (h:Rep w t):Coh t:=fun s hs=>⟨(h s hs).mn,(h s hs).mo,(h s hs).kn,(h s hs).vn⟩
theorem Coh.own {t:MT} (h:Coh t):t.m.length=t.c.mn∧Okl t.m∧t.k.length=t.c.kn∧t.v.length=t.c.vn:=h t t.sub_refl
theorem Coh.part {t u:MT} (h:Coh t) (hu:u∈t.v):Coh u:=fun s hs=>h s (MT.sub_v hu hs)
def sgnB (x:Nat):Bool:=decide (x=43∨x=45∨x=46∨x=101∨48≤x∧x≤57)
theorem sgnB_okd {xs:List Nat} (h:Okd xs):∀ x∈xs,sgnB x=true:=fun x hx=>by have:=h x hx;unfold sgnB;exact decide_eq_true (by omega)
theorem sgn_exp {d:List Nat} {x:Int} (h:Okd d):∀ y∈expTxt d x,sgnB y=true:=by
  intro y hy
  unfold expTxt at hy
  simp only [List.mem_append] at hy
  rcases hy with hy | hy | hy | hy
  · exact sgnB_okd h y (List.mem_of_mem_take hy)
  · split at hy
    · rcases List.mem_append.1 hy with hy | hy
      · rw [List.mem_singleton.1 hy];rfl
      · exact sgnB_okd h y (List.mem_of_mem_drop hy)
    · cases hy
  · rcases List.mem_cons.1 hy with rfl | hy
    · rfl
    · rw [List.mem_singleton.1 hy];split <;> rfl
  · exact sgnB_okd (dec_ok _) y hy
theorem sgn_size {d:List Nat} {e:Int} (h:Okd d):∀ y∈sizeTxt d e,sgnB y=true:=by
  intro y hy
  unfold sizeTxt at hy
  split at hy
  · exact sgn_exp h y hy
  · split at hy
    · simp only [List.mem_append,List.mem_cons,List.mem_replicate,List.not_mem_nil,or_false] at hy
      rcases hy with ((rfl | rfl) | ⟨_,rfl⟩) | hy
      iterate 3
        · rfl
      · exact sgnB_okd h y hy
    · split at hy
      · simp only [List.mem_append,List.mem_singleton] at hy
        rcases hy with (hy | rfl) | hy
        · exact sgnB_okd h y (List.mem_of_mem_take hy)
        · rfl
        · exact sgnB_okd h y (List.mem_of_mem_drop hy)
      · simp only [List.mem_append,List.mem_replicate] at hy
        rcases hy with hy | ⟨_,rfl⟩
        · exact sgnB_okd h y hy
        · rfl
theorem sgn_num (neg:Bool) (N:Nat) (e:Int):∀ y∈numTxt neg N e,sgnB y=true:=by
  intro y hy
  unfold numTxt at hy
  split at hy
  · rw [List.mem_singleton.1 hy];rfl
  · rcases List.mem_append.1 hy with hy | hy
    · split at hy
      · rw [List.mem_singleton.1 hy];rfl
      · cases hy
    · exact sgn_size (dec_ok _) y hy
theorem sgn_lt {x:Nat} (h:sgnB x=true):x<256:=by have:=of_decide_eq_true h;omega
theorem sgn_sign {x:Nat} (h:sgnB x=true):signsL.contains (UInt8.ofNat x)=true:=by
  have h:=of_decide_eq_true h
  have:x=43∨x=45∨x=46∨x=101∨x=48∨x=49∨x=50∨x=51∨x=52∨x=53∨x=54∨x=55∨x=56∨x=57:=by omega
  rcases this with rfl | rfl | rfl | rfl | rfl | rfl | rfl | rfl | rfl | rfl | rfl | rfl | rfl | rfl <;> decide
theorem numB_back (neg:Bool) (N:Nat) (e:Int):(numB neg N e).map UInt8.toNat=numTxt neg N e:=by
  unfold numB
  rw [List.map_map]
  have:∀ l:List Nat,(∀ y∈l,sgnB y=true)→l.map (UInt8.toNat ∘ UInt8.ofNat)=l:=by
    intro l
    induction l with
    | nil=>intro _;rfl
    | cons x l ih =>
      intro h
      rw [List.map_cons,ih (fun y hy=>h y (by simp [hy]))]
      congr 1
      show (UInt8.ofNat x).toNat=x
      have:=sgn_lt (h x (by simp))
      rw [UInt8.toNat_ofNat']
      exact Nat.mod_eq_of_lt this
  exact this _ (sgn_num neg N e)
theorem numB_signs (neg:Bool) (N:Nat) (e:Int):∀ y∈numB neg N e,signsL.contains y=true:=by
  intro y hy
  unfold numB at hy
  obtain ⟨x,hx,rfl⟩:=List.mem_map.1 hy
  exact sgn_sign (sgn_num neg N e x hx)
theorem parse_chk {neg:Bool} {m:List Nat} {e:Int} (ho:Okl m) (h:chkB neg m e=true):parseN (numTxt neg (val m) e)=.inl (neg,val m,e)∧limbs (val m)=m:=by
  by_cases h0:m=[]
  · subst h0
    obtain ⟨rfl,rfl⟩:=chkB_zero h
    exact ⟨by kernel_rfl,by kernel_rfl⟩
  · obtain ⟨h1,h2,h3,h4,h5⟩:=chkB_some h0 h
    have hl:limbs (val m)=m:=limbs_val ho (fun n hn=>by rw [hn] at h2;exact h2)
    exact ⟨parse_text h5 (by rw [hl];exact h1) (dec_len90 ho h1) h3 h4,hl⟩
theorem numL_enc {neg:Bool} {m:List Nat} {e:Int} {more:List UInt8} (ho:Okl m) (h:chkB neg m e=true) (hm:NoSign more):numL (numB neg (val m) e++more)=.inl ((neg,val m,e),more):=by
  rw [numL_signs (numB_signs _ _ _) hm,numB_back,(parse_chk ho h).1]
theorem textL_enc {k more:List UInt8} (hv:validL k=true) (hl:k.length≤2000):textL (quoteL k++more)=.inl (k,more):=by
  unfold quoteL
  rw [if_pos hv]
  unfold textL unqAt
  have e:(34::(bodyL k++[34]))++more=34::(bodyL k++34::more):=by simp
  rw [e]
  have h1:unqL (tailL (⟨(34::(bodyL k++34::more)).toArray⟩:ByteArray) ((0:Int).toNat+1))=some (k,(bodyL k).length+1):=by
    show unqL (List.drop 1 (34::(bodyL k++34::more)))=_
    rw [List.drop_succ_cons,List.drop_zero]
    exact unqL_quoted hv more
  rw [if_pos ⟨by decide,rfl⟩,h1]
  simp only [Option.map_some]
  rw [if_neg (by omega)]
  congr 2
  show List.drop (0+1+((bodyL k).length+1)) (34::(bodyL k++34::more))=more
  rw [show 0+1+((bodyL k).length+1)=((bodyL k).length+1)+1 by omega,List.drop_succ_cons,show bodyL k++34::more=(bodyL k++[34])++more by simp]
  exact List.drop_left' (by simp)
theorem valueL_text {f d n:Nat} {l:List UInt8} (h:nextL l=34):valueL (f+1) d l n=textP (skipL l) n:=by
  unfold valueL valueW
  rw [h]
  rfl
end Go.Proofs.YtijaphbccnadbaaGreatDoor
