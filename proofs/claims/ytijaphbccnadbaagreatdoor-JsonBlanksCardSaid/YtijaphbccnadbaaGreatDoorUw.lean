/- Texts of the claim. -/
import Derived.Test.YtijaphbccnadbaaGreatDoorUv
import Derived.Test.YtijaphbccnadbaaGreatDoorUg
import Derived.Test.YtijaphbccnadbaaGreatDoorUf
import Derived.Lib.AppendIntMem
set_option linter.unusedVariables false
set_option linter.unusedSimpArgs false
set_option maxHeartbeats 8000000
set_option maxRecDepth 100000
namespace Go.Proofs.YtijaphbccnadbaaGreatDoor
open Go.RowKit Go.Shelf Go.Lib
theorem catch_idleD (p q:Addr) (w:World) :
    CallsD Tryz.prog 24 #[.pointer (some p),.pointer (some q)] .returning w fun e u' w'=>e=.returned (.tuple #[])∧u'=.returning∧w'=w:=by
  refine callsD_of_wpS Tryz.func24 rfl fun c₀ cs hu=>?_
  apply wpS_seq
  apply wpS_region
  simp [wpOpsS,go_sem,recoverD,hu,Tryz.ntmps24,Exit.thenS]
  apply wpS_seq
  apply wpS_region
  simp [wpOpsS,go_sem,Exit.thenS]
  refine wpS_cond (t:=false) (by simp [Act.eval,Array.replicate]) ?_
  simp only [Bool.false_eq_true,if_false]
  refine wpS_of_wp (wp_skip ?_)
  cases c₀
  simp_all [bodyPostS,results,Tryz.results24]
def finL (R:PRJ):MT ⊕ Int:=match R with
  | .inr x=>.inr x
  | .inl r=>if skipL r.2.1=[] then .inl r.1 else .inr 2
theorem decode_short (l:List UInt8) (w:World) (hl:l.length≤32768) (R:PRJ)
    (hV:∀ W,RdJ (w.heap.size+1+1) l 1 1 W→Below w.heap.size w W→Calls Tryz.prog 25 #[.pointer (some ⟨(w.heap.size+1+1),0,none⟩)] W (ValJ (w.heap.size+1+1) 1 R W)) :
    Calls Tryz.prog 11 #[.string ⟨l.toArray⟩] w (DecPost (finL R) w):=by
  have hmf:∀ (fn:Fn) (first cap:Array Value) (w:World),(Instr.makeFunc fn first cap).run Tryz.prog w=.ok (.func fn first cap) w:=fun _ _ _ _=>rfl
  generalize hW:((w.alloc (.cells #[.int .i64 0,.bool false,.bool false,.slice none 0 0,.int .i64 0,.string ⟨#[]⟩,.slice none 0 0,.slice none 0 0] 28)).alloc (.cells #[.int .i64 0] 31)).alloc (.cells #[.string ⟨l.toArray⟩,.int .i64 1,.int .i64 1] 51)=W
  have hb0:Below w.heap.size w W:=by
    rw [← hW];exact (((Below.refl _ _).alloc (Nat.le_refl _) _).alloc (by simp) _).alloc (by simp;omega) _
  have hsW:W.heap.size=w.heap.size+3:=by rw [← hW];simp
  have q0:W.heap[w.heap.size]? = some (.cells #[.int .i64 0,.bool false,.bool false,.slice none 0 0,.int .i64 0,.string ⟨#[]⟩,.slice none 0 0,.slice none 0 0] 28):=by
    rw [← hW];exact ((Below.heap_alloc _ _ _ (by simp;omega)).trans (Below.heap_alloc _ _ _ (by simp))).trans (heap_alloc_new w _)
  have q1:W.heap[w.heap.size+1]? = some (.cells #[.int .i64 0] 31):=by
    rw [← hW]
    refine (Below.heap_alloc _ _ _ (by simp)).trans ?_
    have:=heap_alloc_new (w.alloc (.cells #[.int .i64 0,.bool false,.bool false,.slice none 0 0,.int .i64 0,.string ⟨#[]⟩,.slice none 0 0,.slice none 0 0] 28)) (.cells #[.int .i64 0] 31);simpa using this
  have q2:RdJ (w.heap.size+1+1) l 1 1 W:=by
    rw [← hW]
    have:=heap_alloc_new ((w.alloc (.cells #[.int .i64 0,.bool false,.bool false,.slice none 0 0,.int .i64 0,.string ⟨#[]⟩,.slice none 0 0,.slice none 0 0] 28)).alloc (.cells #[.int .i64 0] 31)) (.cells #[.string ⟨l.toArray⟩,.int .i64 1,.int .i64 1] 51)
    unfold RdJ
    simpa using this
  have KV:=Lib.hid (hV W q2 hb0)
  have hsz:=str_size l
  have hgt:decide ((32768:Int)<(l.length:Int))=false:=decide_eq_false (by omega)
  have HB:=Lib.hid hb0
  have Q0:=Lib.hid q0;have Q1:=Lib.hid q1
  have hW2:=Lib.hid hW
  clear hW hb0 q0 q1 q2 hV
  generalize (⟨l.toArray⟩:ByteArray)=sl at *
  go_enter_defers Tryz.func11,Tryz.ntmps11
  go_wp2_with fail
  rw [hW2.out]
  refine KV.out.mono ?_
  intro r w1 hp
  unfold ValJ at hp
  cases R with
  | inr y =>
    obtain ⟨rfl,la,da,na,h2⟩:=hp
    have p0:=(h2.oth.block w.heap.size (by omega) (by omega)).trans Q0.out
    have p1:=(h2.oth.block (w.heap.size+1) (by omega) (by omega)).trans Q1.out
    have HB1:Hid (Below w.heap.size w w1):=Lib.hid (HB.out.trans (h2.oth.below (by omega) (by omega)))
    have a0:World.cell? w1 ⟨w.heap.size,0,none⟩=some (.int .i64 0):=(box_cellsJ p0 0 _ rfl).1
    have af0:=(box_cellsJ p0 0 _ rfl).2
    have a1:World.cell? w1 ⟨w.heap.size,1,none⟩=some (.bool false):=(box_cellsJ p0 1 _ rfl).1
    have af1:=(box_cellsJ p0 1 _ rfl).2
    have a2:World.cell? w1 ⟨w.heap.size,2,none⟩=some (.bool false):=(box_cellsJ p0 2 _ rfl).1
    have af2:=(box_cellsJ p0 2 _ rfl).2
    have a3:World.cell? w1 ⟨w.heap.size,3,none⟩=some (.slice none 0 0):=(box_cellsJ p0 3 _ rfl).1
    have af3:=(box_cellsJ p0 3 _ rfl).2
    have a4:World.cell? w1 ⟨w.heap.size,4,none⟩=some (.int .i64 0):=(box_cellsJ p0 4 _ rfl).1
    have af4:=(box_cellsJ p0 4 _ rfl).2
    have a5:World.cell? w1 ⟨w.heap.size,5,none⟩=some (.string ⟨#[]⟩):=(box_cellsJ p0 5 _ rfl).1
    have af5:=(box_cellsJ p0 5 _ rfl).2
    have a6:World.cell? w1 ⟨w.heap.size,6,none⟩=some (.slice none 0 0):=(box_cellsJ p0 6 _ rfl).1
    have af6:=(box_cellsJ p0 6 _ rfl).2
    have a7:World.cell? w1 ⟨w.heap.size,7,none⟩=some (.slice none 0 0):=(box_cellsJ p0 7 _ rfl).1
    have af7:=(box_cellsJ p0 7 _ rfl).2
    have b0:w1.cell? ⟨w.heap.size+1,0,none⟩=some (.int .i64 0):=(box_cellsJ p1 0 _ rfl).1
    have bf0:=(box_cellsJ p1 0 _ rfl).2
    clear p0 p1 h2 KV
    go_wp2
    refine leaves_cons (f:=24) (args:=#[.pointer (some ⟨w.heap.size,0,none⟩),.pointer (some ⟨w.heap.size+1,0,none⟩)]) (by simp) (by simp [go_sem]) ?_
    refine (catch_thrownD w.heap.size (w.heap.size+1) _ _ _ _ _ _ _ _ _ y [] _ (by omega) a0 af0 a1 af1 a2 af2 a3 af3 a4 af4 a5 af5 a6 af6 a7 af7 b0 bf0).mono ?_
    rintro e u' w'' ⟨rfl,rfl,rfl⟩
    simp [Leaves,settle,results,Tryz.results11,go_sem,a0,a1,a2,a3,a4,a5,a6,a7,b0]
    exact DecPost.no rfl rfl ((((((((((HB1.out.setCell (by simp) _).setCell (by simp) _).setCell (by simp) _).setCell (by simp) _).setCell (by simp) _).setCell (by simp) _).setCell (by simp) _).setCell (by simp) _).setCell (by simp) _).drew)
  | inl p =>
    obtain ⟨t,l2,n2⟩:=p
    obtain ⟨t',rfl,hbare,hi,h2⟩:=hp
    have p0:=(h2.oth.block w.heap.size (by omega) (by omega)).trans Q0.out
    have p1:=(h2.oth.block (w.heap.size+1) (by omega) (by omega)).trans Q1.out
    have HS:Hid (StJ (w.heap.size+1+1) l2 1 n2 w w1):=Lib.hid ⟨(Oth.of_below HB.out).trans h2.oth,h2.rd⟩
    have HI:=Lib.hid hi
    have HM:=Lib.hid hbare
    obtain ⟨⟨k,b,neg,ma,mn,mc,x,s,ka,kn,kc,va,vn,vc⟩,M,K,V⟩:=t'
    dsimp only [MT.c,Cel.val]
    have a0:World.cell? w1 ⟨w.heap.size,0,none⟩=some (.int .i64 0):=(box_cellsJ p0 0 _ rfl).1
    have af0:=(box_cellsJ p0 0 _ rfl).2
    have a1:World.cell? w1 ⟨w.heap.size,1,none⟩=some (.bool false):=(box_cellsJ p0 1 _ rfl).1
    have af1:=(box_cellsJ p0 1 _ rfl).2
    have a2:World.cell? w1 ⟨w.heap.size,2,none⟩=some (.bool false):=(box_cellsJ p0 2 _ rfl).1
    have af2:=(box_cellsJ p0 2 _ rfl).2
    have a3:World.cell? w1 ⟨w.heap.size,3,none⟩=some (.slice none 0 0):=(box_cellsJ p0 3 _ rfl).1
    have af3:=(box_cellsJ p0 3 _ rfl).2
    have a4:World.cell? w1 ⟨w.heap.size,4,none⟩=some (.int .i64 0):=(box_cellsJ p0 4 _ rfl).1
    have af4:=(box_cellsJ p0 4 _ rfl).2
    have a5:World.cell? w1 ⟨w.heap.size,5,none⟩=some (.string ⟨#[]⟩):=(box_cellsJ p0 5 _ rfl).1
    have af5:=(box_cellsJ p0 5 _ rfl).2
    have a6:World.cell? w1 ⟨w.heap.size,6,none⟩=some (.slice none 0 0):=(box_cellsJ p0 6 _ rfl).1
    have af6:=(box_cellsJ p0 6 _ rfl).2
    have a7:World.cell? w1 ⟨w.heap.size,7,none⟩=some (.slice none 0 0):=(box_cellsJ p0 7 _ rfl).1
    have af7:=(box_cellsJ p0 7 _ rfl).2
    have HS8:Hid (StJ (w.heap.size+1+1) l2 1 n2 w ((((((((w1.setCell ⟨w.heap.size,0,none⟩ (.int .i64 k)).setCell ⟨w.heap.size,1,none⟩ (.bool b)).setCell ⟨w.heap.size,2,none⟩ (.bool neg)).setCell ⟨w.heap.size,3,none⟩ (.slice ma mn mc)).setCell ⟨w.heap.size,4,none⟩ (.int .i64 x)).setCell ⟨w.heap.size,5,none⟩ (.string s)).setCell ⟨w.heap.size,6,none⟩ (.slice ka kn kc)).setCell ⟨w.heap.size,7,none⟩ (.slice va vn vc))):=Lib.hid ((((((((HS.out.fresh (Nat.le_refl _) (by omega) _ _).fresh (Nat.le_refl _) (by omega) _ _).fresh (Nat.le_refl _) (by omega) _ _).fresh (Nat.le_refl _) (by omega) _ _).fresh (Nat.le_refl _) (by omega) _ _).fresh (Nat.le_refl _) (by omega) _ _).fresh (Nat.le_refl _) (by omega) _ _).fresh (Nat.le_refl _) (by omega) _ _)
    have HP0:Hid (((((((((w1.setCell ⟨w.heap.size,0,none⟩ (.int .i64 k)).setCell ⟨w.heap.size,1,none⟩ (.bool b)).setCell ⟨w.heap.size,2,none⟩ (.bool neg)).setCell ⟨w.heap.size,3,none⟩ (.slice ma mn mc)).setCell ⟨w.heap.size,4,none⟩ (.int .i64 x)).setCell ⟨w.heap.size,5,none⟩ (.string s)).setCell ⟨w.heap.size,6,none⟩ (.slice ka kn kc)).setCell ⟨w.heap.size,7,none⟩ (.slice va vn vc)).heap[w.heap.size]? = some (.cells #[.int .i64 k,.bool b,.bool neg,.slice ma mn mc,.int .i64 x,.string s,.slice ka kn kc,.slice va vn vc] 28)):=Lib.hid (by simp [World.setCell,Array.getElem?_modify,p0])
    have HP1:Hid (((((((((w1.setCell ⟨w.heap.size,0,none⟩ (.int .i64 k)).setCell ⟨w.heap.size,1,none⟩ (.bool b)).setCell ⟨w.heap.size,2,none⟩ (.bool neg)).setCell ⟨w.heap.size,3,none⟩ (.slice ma mn mc)).setCell ⟨w.heap.size,4,none⟩ (.int .i64 x)).setCell ⟨w.heap.size,5,none⟩ (.string s)).setCell ⟨w.heap.size,6,none⟩ (.slice ka kn kc)).setCell ⟨w.heap.size,7,none⟩ (.slice va vn vc)).heap[w.heap.size+1]? = some (.cells #[.int .i64 0] 31)):=Lib.hid (by
      have hne:w.heap.size+1 ≠ w.heap.size:=by omega
      rw [set_other hne,set_other hne,set_other hne,set_other hne,set_other hne,set_other hne,set_other hne,set_other hne];exact p1)
    have HI8:Hid (Ind (fun k=>k<W.heap.size) ((((((((w1.setCell ⟨w.heap.size,0,none⟩ (.int .i64 k)).setCell ⟨w.heap.size,1,none⟩ (.bool b)).setCell ⟨w.heap.size,2,none⟩ (.bool neg)).setCell ⟨w.heap.size,3,none⟩ (.slice ma mn mc)).setCell ⟨w.heap.size,4,none⟩ (.int .i64 x)).setCell ⟨w.heap.size,5,none⟩ (.string s)).setCell ⟨w.heap.size,6,none⟩ (.slice ka kn kc)).setCell ⟨w.heap.size,7,none⟩ (.slice va vn vc)) (fun W=>Rep W (.mk ⟨k,b,neg,ma,mn,mc,x,s,ka,kn,kc,va,vn,vc⟩ M K V))):=Lib.hid (hi.to (by simp [World.setCell]) (fun j hj hx=>by
      have hx':¬ j<W.heap.size:=hx
      have hne:j ≠ w.heap.size:=by omega
      rw [set_other hne,set_other hne,set_other hne,set_other hne,set_other hne,set_other hne,set_other hne,set_other hne]) (fun _ _ h=>h) (fun _ h=>h))
    clear p0 p1 h2 KV hi hbare HI HS
    go_wp2_with fail
    generalize ((((((((w1.setCell ⟨w.heap.size,0,none⟩ (.int .i64 k)).setCell ⟨w.heap.size,1,none⟩ (.bool b)).setCell ⟨w.heap.size,2,none⟩ (.bool neg)).setCell ⟨w.heap.size,3,none⟩ (.slice ma mn mc)).setCell ⟨w.heap.size,4,none⟩ (.int .i64 x)).setCell ⟨w.heap.size,5,none⟩ (.string s)).setCell ⟨w.heap.size,6,none⟩ (.slice ka kn kc)).setCell ⟨w.heap.size,7,none⟩ (.slice va vn vc))=w2 at *
    refine (skip_any (w.heap.size+1+1) l2 1 n2 w2 HS8.out.rd).mono ?_
    rintro r w3 ⟨rfl,h3⟩
    have p0:=(h3.oth.block w.heap.size (Array.getElem?_eq_some_iff.1 HP0.out).1 (by omega)).trans HP0.out
    have p1:=(h3.oth.block (w.heap.size+1) (Array.getElem?_eq_some_iff.1 HP1.out).1 (by omega)).trans HP1.out
    have HB3:Hid (Below w.heap.size w w3):=Lib.hid ((HS8.out.trans h3).oth.below (by omega) (Nat.le_refl _))
    have HI3:Hid (Ind (fun k=>k<W.heap.size) w3 (fun W=>Rep W (.mk ⟨k,b,neg,ma,mn,mc,x,s,ka,kn,kc,va,vn,vc⟩ M K V))):=Lib.hid (HI8.out.to h3.oth.size (fun j hj hx=>h3.oth.block j hj (by have hx':¬ j<W.heap.size:=hx;omega)) (fun _ _ h=>h) (fun _ h=>h))
    clear a0 a1 a2 a3 a4 a5 a6 a7 af0 af1 af2 af3 af4 af5 af6 af7 HP0 HP1 HI8 HS8
    have a0:World.cell? w3 ⟨w.heap.size,0,none⟩=some (.int .i64 k):=(box_cellsJ p0 0 _ rfl).1
    have af0:=(box_cellsJ p0 0 _ rfl).2
    have a1:World.cell? w3 ⟨w.heap.size,1,none⟩=some (.bool b):=(box_cellsJ p0 1 _ rfl).1
    have af1:=(box_cellsJ p0 1 _ rfl).2
    have a2:World.cell? w3 ⟨w.heap.size,2,none⟩=some (.bool neg):=(box_cellsJ p0 2 _ rfl).1
    have af2:=(box_cellsJ p0 2 _ rfl).2
    have a3:World.cell? w3 ⟨w.heap.size,3,none⟩=some (.slice ma mn mc):=(box_cellsJ p0 3 _ rfl).1
    have af3:=(box_cellsJ p0 3 _ rfl).2
    have a4:World.cell? w3 ⟨w.heap.size,4,none⟩=some (.int .i64 x):=(box_cellsJ p0 4 _ rfl).1
    have af4:=(box_cellsJ p0 4 _ rfl).2
    have a5:World.cell? w3 ⟨w.heap.size,5,none⟩=some (.string s):=(box_cellsJ p0 5 _ rfl).1
    have af5:=(box_cellsJ p0 5 _ rfl).2
    have a6:World.cell? w3 ⟨w.heap.size,6,none⟩=some (.slice ka kn kc):=(box_cellsJ p0 6 _ rfl).1
    have af6:=(box_cellsJ p0 6 _ rfl).2
    have a7:World.cell? w3 ⟨w.heap.size,7,none⟩=some (.slice va vn vc):=(box_cellsJ p0 7 _ rfl).1
    have af7:=(box_cellsJ p0 7 _ rfl).2
    have b0:w3.cell? ⟨w.heap.size+1,0,none⟩=some (.int .i64 0):=(box_cellsJ p1 0 _ rfl).1
    have bf0:=(box_cellsJ p1 0 _ rfl).2
    have c0:=h3.rd.c0
    have f0:=h3.rd.fz 0
    clear h3 p0 p1
    cases hs:skipL l2 with
    | nil =>
      have HS:=Lib.hid hs
      rw [hs] at c0
      clear hs
      have n1:¬ w.heap.size+1=w.heap.size:=by omega
      go_wp2
      refine leaves_cons (f:=24) (args:=#[.pointer (some ⟨w.heap.size,0,none⟩),.pointer (some ⟨w.heap.size+1,0,none⟩)]) (by simp) (by simp [go_sem]) ?_
      refine (catch_idleD _ _ _).mono ?_
      rintro e u' w'' ⟨rfl,rfl,rfl⟩
      simp [Leaves,settle,results,Tryz.results11,go_sem,a0,a1,a2,a3,a4,a5,a6,a7,b0]
      rw [show finL (.inl (t,l2,n2))=.inl t from by unfold finL;simp [HS.out]]
      refine ⟨.mk ⟨k,b,neg,ma,mn,mc,x,s,ka,kn,kc,va,vn,vc⟩ M K V,rfl,HM.out,HI3.out _ (by simp [World.setCell]) (fun j hj hx=>?_),(((((((((HB3.out.setCell (by simp) _).setCell (by simp) _).setCell (by simp) _).setCell (by simp) _).setCell (by simp) _).setCell (by simp) _).setCell (by simp) _).setCell (by simp) _).setCell (by simp) _)⟩
      have hx':¬ j<W.heap.size:=hx
      have hne:j ≠ w.heap.size:=by omega
      have hne2:j ≠ w.heap.size+1:=by omega
      rw [set_other hne2,set_other hne,set_other hne,set_other hne,set_other hne,set_other hne,set_other hne,set_other hne,set_other hne]
    | cons y ys =>
      have HS:=Lib.hid hs
      rw [hs] at c0
      clear hs
      go_wp2
      refine leaves_cons (f:=24) (args:=#[.pointer (some ⟨w.heap.size,0,none⟩),.pointer (some ⟨w.heap.size+1,0,none⟩)]) (by simp) (by simp [go_sem]) ?_
      refine (catch_thrownD w.heap.size (w.heap.size+1) _ _ _ _ _ _ _ _ _ 2 [] _ (by omega) a0 af0 a1 af1 a2 af2 a3 af3 a4 af4 a5 af5 a6 af6 a7 af7 b0 bf0).mono ?_
      rintro e u' w'' ⟨rfl,rfl,rfl⟩
      simp [Leaves,settle,results,Tryz.results11,go_sem,a0,a1,a2,a3,a4,a5,a6,a7,b0]
      exact DecPost.no (by unfold finL;simp [HS.out]) rfl ((((((((((HB3.out.setCell (by simp) _).setCell (by simp) _).setCell (by simp) _).setCell (by simp) _).setCell (by simp) _).setCell (by simp) _).setCell (by simp) _).setCell (by simp) _).setCell (by simp) _).drew)
end Go.Proofs.YtijaphbccnadbaaGreatDoor
namespace Go.Proofs.YtijaphbccnadbaaGreatDoor
open Go.RowKit Go.Sort
open Go.RowKit Go.Sort
def TB (w:World):Prop:=Lib.TabIs Tryz.prog w "internal/strconv.uint64pow10" .u64 Lib.pow10Tab
theorem TB.below {w w':World} (h:TB w) (hb:Below w.heap.size w w'):TB w':=Lib.tabBelow_of_tabIs h w' hb
def TxtBelow (l:List Nat) (w:World) (e:Ending) (w':World):Prop:=e=.returned (.string (txt l))∧Below w.heap.size w w'
theorem rets {a b:ByteArray} (h:a=b):Ending.returned (.string a)=.returned (.string b):=by rw [h]
theorem itoa_any (k:Nat) (hk:k≤9223372036854775807) (w:World) (h:TB w):Calls Tryz.prog 178 #[.int .i64 (k:Int)] w (TxtBelow (dec k) w) :=
  (Tryz.strconv_Itoa (k:Int) (by omega) (by omega) w h).mono fun e w' ⟨h1,n,os,h2⟩=>⟨by rw [h1,itoa_txt],by rw [h2];exact Lib.below_grow _ _ (Nat.le_refl _) _ _⟩
theorem repeat_any (k:Nat) (hk:k≤100000) (w:World):Calls Tryz.prog 143 #[.string (txt [48]),.int .i64 (k:Int)] w (TxtBelow (List.replicate k 48) w) :=
  (Tryz.strings_Repeat (txt [48]) k w (by omega) (by rw [txt_size];simp;omega)).mono fun e w' ⟨h1,h2⟩=>⟨by rw [h1,repeat_txt],h2⟩
theorem exponentText_any (d : List Nat) (x : Int) (w : World) (h0 : 0 < d.length) (hd : d.length ≤ 100000) (hx : -1000000 ≤ x ∧ x ≤ 1000000) (ht : TB w) :
    Calls Tryz.prog 142 #[.string (txt d), .int .i64 x] w (TxtBelow (expTxt d x) w) := by
  have hs : (txt d).size = d.length := txt_size d
  have hlen := (dec_len_le (n := 7) (N := x.natAbs) (by omega) (by have : tenN 7 = 10000000 := by decide
                                                                   omega))
  have KI := Lib.hid (fun (k : Nat) (hk : (k : Int) = x ∨ (k : Int) = -x) => itoa_any k (by omega) w ht)
  have HT1 := Lib.hid (txt_take d 1 (by omega))
  have HT2 := Lib.hid (txt_drop d 1)
  have hc1 : ((1 : Int) ≤ (d.length : Int)) := by omega
  have HSZ := Lib.hid hs
  have HT3 : Hid (∀ (a b c : List Nat), txt a ++ (txt b ++ txt c) = txt (a ++ (b ++ c))) := fun a b c => by rw [txt_append, txt_append]
  rw [hs] at HT2
  rcases Int.lt_or_le x 0 with hneg | hneg
  · obtain ⟨k, hk⟩ : ∃ k : Nat, (k : Int) = -x := ⟨(-x).toNat, by omega⟩
    have hK := Lib.hid (KI.out k (.inr hk))
    have hka : x.natAbs = k := by omega
    rw [hka] at hlen
    have HKA := Lib.hid hka; clear hka
    have hsk : (txt (dec k)).size = (dec k).length := txt_size _
    by_cases h1 : 1 < d.length
    · have HE : Hid (expTxt d x = d.take 1 ++ ([46] ++ d.drop 1) ++ [101, 45] ++ dec k) := by
        show _ = _
        unfold expTxt; rw [if_pos h1, if_pos hneg, HKA.out]; simp
      have HKK := Lib.hid hk; clear hk
      have h1' : (1 : Int) < (d.length : Int) := by omega
      go_enter Tryz.func142, Tryz.ntmps142
      go_wp2_with fail
      rw [← HKK.out]
      refine hK.out.mono ?_
      rintro r w' ⟨rfl, hb⟩
      have HB := Lib.hid hb; clear hb
      have hse : ((txt d).extract 0 1).size ≤ d.length := by simp [ByteArray.size_extract]; omega
      have hse2 : ((txt d).extract 1 d.length).size ≤ d.length := by simp [ByteArray.size_extract]; omega
      go_wp2
      go_ret
      refine ⟨rets ?_, HB.out⟩
      rw [HT1.out, HT2.out, HE.out, ← txt_append, ← txt_append, ← txt_append, ← txt_append]
      rfl
    · have HE : Hid (expTxt d x = d.take 1 ++ [101, 45] ++ dec k) := by
        show _ = _
        unfold expTxt; rw [if_neg h1, if_pos hneg, HKA.out]; simp
      have HKK := Lib.hid hk; clear hk
      have h1' : ¬ (1 : Int) < (d.length : Int) := by omega
      go_enter Tryz.func142, Tryz.ntmps142
      go_wp2_with fail
      rw [← HKK.out]
      refine hK.out.mono ?_
      rintro r w' ⟨rfl, hb⟩
      have HB := Lib.hid hb; clear hb
      have hse : ((txt d).extract 0 1).size ≤ d.length := by simp [ByteArray.size_extract]; omega
      go_wp2
      go_ret
      refine ⟨rets ?_, HB.out⟩
      rw [HT1.out, HE.out, ← txt_append, ← txt_append]
      rfl
  · obtain ⟨k, hk⟩ : ∃ k : Nat, (k : Int) = x := ⟨x.toNat, by omega⟩
    have hK := Lib.hid (KI.out k (.inl hk))
    have hka : x.natAbs = k := by omega
    rw [hka] at hlen
    have HKA := Lib.hid hka; clear hka
    have hneg' : ¬ x < 0 := by omega
    have hsk : (txt (dec k)).size = (dec k).length := txt_size _
    by_cases h1 : 1 < d.length
    · have HE : Hid (expTxt d x = d.take 1 ++ ([46] ++ d.drop 1) ++ [101, 43] ++ dec k) := by
        show _ = _
        unfold expTxt; rw [if_pos h1, if_neg hneg', HKA.out]; simp
      subst hk
      have h1' : (1 : Int) < (d.length : Int) := by omega
      go_enter Tryz.func142, Tryz.ntmps142
      go_wp2_with fail
      refine hK.out.mono ?_
      rintro r w' ⟨rfl, hb⟩
      have HB := Lib.hid hb; clear hb
      have hse : ((txt d).extract 0 1).size ≤ d.length := by simp [ByteArray.size_extract]; omega
      have hse2 : ((txt d).extract 1 d.length).size ≤ d.length := by simp [ByteArray.size_extract]; omega
      go_wp2
      go_ret
      refine ⟨rets ?_, HB.out⟩
      rw [HT1.out, HT2.out, HE.out, ← txt_append, ← txt_append, ← txt_append, ← txt_append]
      rfl
    · have HE : Hid (expTxt d x = d.take 1 ++ [101, 43] ++ dec k) := by
        show _ = _
        unfold expTxt; rw [if_neg h1, if_neg hneg', HKA.out]; simp
      subst hk
      have h1' : ¬ (1 : Int) < (d.length : Int) := by omega
      go_enter Tryz.func142, Tryz.ntmps142
      go_wp2_with fail
      refine hK.out.mono ?_
      rintro r w' ⟨rfl, hb⟩
      have HB := Lib.hid hb; clear hb
      have hse : ((txt d).extract 0 1).size ≤ d.length := by simp [ByteArray.size_extract]; omega
      go_wp2
      go_ret
      refine ⟨rets ?_, HB.out⟩
      rw [HT1.out, HE.out, ← txt_append, ← txt_append]
      rfl
theorem sizeText_any (d:List Nat) (e:Int) (w:World) (h0:0<d.length) (hd:d.length≤2000) (he:-1200≤e∧e≤1200) (ht:TB w) :
    Calls Tryz.prog 98 #[.string (txt d),.int .i64 e] w (TxtBelow (sizeTxt d e) w):=by
  have hs:(txt d).size=d.length:=txt_size d
  by_cases hA:(d.length:Int)+e < -5∨21<(d.length:Int)+e
  · have K:=Lib.hid (exponentText_any d ((d.length:Int)+e - 1) w h0 (by omega) (by omega) ht)
    have HE:Hid (sizeTxt d e=expTxt d ((d.length:Int)+e - 1)):=by
      show _=_
      unfold sizeTxt;rw [if_pos hA]
    by_cases h1:(d.length:Int)+e < -5
    · clear hA
      go_enter Tryz.func98,Tryz.ntmps98
      go_wp2_with fail
      refine K.out.mono ?_
      rintro r w' ⟨rfl,hb⟩
      have HB:=Lib.hid hb;clear hb
      go_wp2
      go_ret
      exact ⟨by rw [HE.out];rfl,HB.out⟩
    · have h2:21<(d.length:Int)+e:=by omega
      clear hA
      go_enter Tryz.func98,Tryz.ntmps98
      go_wp2_with fail
      refine K.out.mono ?_
      rintro r w' ⟨rfl,hb⟩
      have HB:=Lib.hid hb;clear hb
      go_wp2
      go_ret
      exact ⟨by rw [HE.out];rfl,HB.out⟩
  · have h1:¬ (d.length:Int)+e < -5:=by omega
    have h2:¬ 21<(d.length:Int)+e:=by omega
    by_cases hB:(d.length:Int)+e≤0
    · obtain ⟨k,hk⟩:∃ k:Nat,(k:Int) = -((d.length:Int)+e):=⟨(-((d.length:Int)+e)).toNat,by omega⟩
      have hkt:(-((d.length:Int)+e)).toNat=k:=by omega
      have hkb:k≤5:=by omega
      have K:=Lib.hid (repeat_any k (by omega) w)
      have HE:Hid (sizeTxt d e=[48,46]++List.replicate k 48++d):=by
        show _=_
        unfold sizeTxt;rw [if_neg hA,if_pos hB,hkt]
      have HK:=Lib.hid hk;clear hk hkt hA
      have hsr:(txt (List.replicate k 48)).size=k:=by rw [txt_size,List.length_replicate]
      go_enter Tryz.func98,Tryz.ntmps98
      go_wp2_with fail
      rw [← HK.out]
      refine K.out.mono ?_
      rintro r w' ⟨rfl,hb⟩
      have HB:=Lib.hid hb;clear hb
      go_wp2
      go_ret
      refine ⟨rets ?_,HB.out⟩
      rw [HE.out,← txt_append,← txt_append]
      rfl
    · by_cases hC:e<0
      · obtain ⟨k,hk⟩:∃ k:Nat,(k:Int)=(d.length:Int)+e:=⟨((d.length:Int)+e).toNat,by omega⟩
        have hkt:((d.length:Int)+e).toNat=k:=by omega
        have HE:Hid (sizeTxt d e=d.take k++[46]++d.drop k):=by
          show _=_
          unfold sizeTxt;rw [if_neg hA,if_neg hB,if_pos hC,hkt]
        have HT1:=Lib.hid (txt_take d k (by omega))
        have HT2:=Lib.hid (txt_drop d k)
        rw [hs] at HT2
        have hk1:(0:Int)≤(d.length:Int)+e:=by omega
        have hk2:(d.length:Int)+e≤(d.length:Int):=by omega
        have HK:=Lib.hid hk
        have hse:((txt d).extract 0 k).size≤d.length:=by simp [ByteArray.size_extract];omega
        have hse2:((txt d).extract k d.length).size≤d.length:=by simp [ByteArray.size_extract];omega
        have HKT:=Lib.hid hkt
        clear hk hA hkt
        go_enter Tryz.func98,Tryz.ntmps98
        go_wp2_with fail
        go_quiet (fail)
        go_wp2
        go_ret
        refine ⟨rets ?_,below_drewN' (Below.refl _ _) _⟩
        rw [HE.out,← txt_append,← txt_append,← HT1.out,← HT2.out]
        rw [HKT.out]
        rfl
      · obtain ⟨k,hk⟩:∃ k:Nat,(k:Int)=e:=⟨e.toNat,by omega⟩
        have hkt:e.toNat=k:=by omega
        have K:=Lib.hid (repeat_any k (by omega) w)
        have HE:Hid (sizeTxt d e=d++List.replicate k 48):=by
          show _=_
          unfold sizeTxt;rw [if_neg hA,if_neg hB,if_neg hC,hkt]
        clear hkt hA
        subst hk
        have hsr:(txt (List.replicate k 48)).size=k:=by rw [txt_size,List.length_replicate]
        go_enter Tryz.func98,Tryz.ntmps98
        go_wp2_with fail
        refine K.out.mono ?_
        rintro r w' ⟨rfl,hb⟩
        have HB:=Lib.hid hb;clear hb
        go_wp2
        go_ret
        refine ⟨rets ?_,HB.out⟩
        rw [HE.out,← txt_append]
/-- Text,at a number that is taken as it is or as 0. -/
theorem numText_core (A0:Array Value) (na:Bool) (ad:Option Addr) (n cap:Nat) (xs:List Nat) (e:Int) (w:World)
    (ha:NumOk w na ad n cap xs e) (ht:TB w) (pa:Bool) (ta:Value) (xa:Int) (eA:A0=#[.bool pa,ta,.int .i64 xa])
    (KA:∀ W,Below w.heap.size w W→Calls Tryz.prog 97 #[.agg A0] W (NumBelow na (.slice ad n cap) e W)) :
    Calls Tryz.prog 61 #[.agg A0] w (TxtBelow (numTxt na (val xs) e) w):=by
  subst eA
  have hbl:Below w.heap.size w (w.alloc (.cells #[.bool pa,ta,.int .i64 xa] 24)):=(Below.refl _ _).alloc (Nat.le_refl _) _
  have HB:=Lib.hid hbl
  have KA:=Lib.hid (KA _ hbl)
  clear hbl
  have KD:=Lib.hid (fun W (h:Below w.heap.size w W)=>digits_any ad n cap xs W ha.len ha.cap (by have:=ha.n90;omega) ha.ok (ha.rd.below h))
  have hdl:=dec_len90 ha.ok (by have:=ha.n90;have:=ha.len;omega)
  have hdp:=dec_pos (val xs)
  have KS:=Lib.hid (fun W (h:Below w.heap.size w W)=>sizeText_any (dec (val xs)) e W hdp (by omega) ha.lo (ht.below h))
  have hnv:(n=0∧val xs=0)∨(n ≠ 0∧val xs ≠ 0):=by
    by_cases h:n=0
    · left
      have:xs=[]:=List.eq_nil_of_length_eq_zero (by rw [ha.len];exact h)
      subst this;exact ⟨h,rfl⟩
    · right
      refine ⟨h,fun h0=>?_⟩
      have hx:xs ≠ []:=fun h1=>h (by rw [← ha.len,h1];rfl)
      have:=(chkB_some hx ha.chk).2.2.2.2
      rw [h0] at this;exact this rfl
  have hsl:(txt (dec (val xs))).size=(dec (val xs)).length:=txt_size _
  have hlo:=ha.lo
  have hsz:(sizeTxt (dec (val xs)) e).length≤5000:=sizeTxt_len (by omega) hlo
  clear ha ht
  generalize val xs=N at *
  go_enter Tryz.func61,Tryz.ntmps61
  go_wp2_with fail
  refine KA.out.mono ?_
  rintro r w1 ⟨rfl,hb1⟩
  obtain ⟨hc1,hf1⟩:=bcell hb1
  have hz1:w.heap.size<w1.heap.size:=by have h:=hb1.size;simp at h;omega
  have HB1:=Lib.hid hb1;clear hb1
  have hbw:=((below_on HB.out HB1.out).setCell (p:=⟨w.heap.size,0,none⟩) (Nat.le_refl _) (.bool na)).setCell (p:=⟨w.heap.size,1,none⟩) (Nat.le_refl _) (.slice ad n cap)
  have hbw2:=Lib.hid (hbw.setCell (p:=⟨w.heap.size,2,none⟩) (Nat.le_refl _) (.int .i64 e));clear hbw
  rcases hnv with ⟨rfl,rfl⟩ | ⟨hn0,hN0⟩
  · have HE:Hid (numTxt na 0 e=[48]):=rfl
    go_wp2_with fail
    go_ret
    exact ⟨by rw [HE.out];rfl,hbw2.out⟩
  · have hnb:((n:Int) == 0)=false:=by rw [beq_eq_false_iff_ne];omega
    have e0:w1.cell? ⟨w.heap.size,0,none⟩=some (.bool pa):=by rw [hc1 _ _ (by simp)];simp
    have e1:w1.cell? ⟨w.heap.size,1,none⟩=some ta:=by rw [hc1 _ _ (by simp)];simp
    have e2:w1.cell? ⟨w.heap.size,2,none⟩=some (.int .i64 xa):=by rw [hc1 _ _ (by simp)];simp
    cases na
    · have HE:Hid (numTxt false N e=sizeTxt (dec N) e):=by
        show _=_
        unfold numTxt;rw [if_neg hN0];rfl
      have c1:(((w1.setCell ⟨w.heap.size,0,none⟩ (.bool false)).setCell ⟨w.heap.size,1,none⟩ (.slice ad n cap)).setCell ⟨w.heap.size,2,none⟩ (.int .i64 e)).cell? ⟨w.heap.size,1,none⟩=some (.slice ad n cap):=by simp [go_sem,e0,e1,e2]
      have c2:(((w1.setCell ⟨w.heap.size,0,none⟩ (.bool false)).setCell ⟨w.heap.size,1,none⟩ (.slice ad n cap)).setCell ⟨w.heap.size,2,none⟩ (.int .i64 e)).cell? ⟨w.heap.size,2,none⟩=some (.int .i64 e):=by simp [go_sem,e0,e1,e2]
      have C1:=Lib.hid c1
      have C2:=Lib.hid c2
      clear c1 c2
      go_wp2_with fail
      generalize (((w1.setCell ⟨w.heap.size,0,none⟩ (.bool false)).setCell ⟨w.heap.size,1,none⟩ (.slice ad n cap)).setCell ⟨w.heap.size,2,none⟩ (.int .i64 e))=W at *
      have cD:∀ d os,Calls Tryz.prog 99 #[.slice ad n cap] (grow (redrawn W d) os) fun e w''=>e=.returned (.string (txt (dec N)))∧∃ p:Regrown,w''=grow (redrawn W p.d) p.os :=
        fun d os=>Calls.regrown_of (KD.out _ (below_on hbw2.out (below_regrown W d os)))
      have cS:∀ d os,Calls Tryz.prog 98 #[.string (txt (dec N)),.int .i64 e] (grow (redrawn W d) os) fun r w''=>r=.returned (.string (txt (sizeTxt (dec N) e)))∧∃ p:Regrown,w''=grow (redrawn W p.d) p.os :=
        fun d os=>Calls.regrown_of (KS.out _ (below_on hbw2.out (below_regrown W d os)))
      have k1:=cell_regrown C1.out
      have k2:=cell_regrown C2.out
      have n1:¬ 9223372036854775807<1+(txt (sizeTxt (dec N) e)).size:=by rw [txt_size];omega
      refine wp_region_quiet_below (by kernel_rfl) (by kernel_rfl) ?_
      repeat (quiet_step (first | with_reducible exact cD _ _ | with_reducible exact cS _ _))
      refine wpQuiet_nil ?_
      intro _ hw'
      obtain ⟨⟨dq,osq⟩,hw''⟩:=hw'
      subst hw''
      go_wp2
      go_ret
      refine ⟨rets ?_,below_on hbw2.out (below_regrown W dq osq)⟩
      rw [HE.out]
    · have HE:Hid (numTxt true N e=[45]++sizeTxt (dec N) e):=by
        show _=_
        unfold numTxt;rw [if_neg hN0];rfl
      have c1:(((w1.setCell ⟨w.heap.size,0,none⟩ (.bool true)).setCell ⟨w.heap.size,1,none⟩ (.slice ad n cap)).setCell ⟨w.heap.size,2,none⟩ (.int .i64 e)).cell? ⟨w.heap.size,1,none⟩=some (.slice ad n cap):=by simp [go_sem,e0,e1,e2]
      have c2:(((w1.setCell ⟨w.heap.size,0,none⟩ (.bool true)).setCell ⟨w.heap.size,1,none⟩ (.slice ad n cap)).setCell ⟨w.heap.size,2,none⟩ (.int .i64 e)).cell? ⟨w.heap.size,2,none⟩=some (.int .i64 e):=by simp [go_sem,e0,e1,e2]
      have C1:=Lib.hid c1
      have C2:=Lib.hid c2
      clear c1 c2
      go_wp2_with fail
      generalize (((w1.setCell ⟨w.heap.size,0,none⟩ (.bool true)).setCell ⟨w.heap.size,1,none⟩ (.slice ad n cap)).setCell ⟨w.heap.size,2,none⟩ (.int .i64 e))=W at *
      have cD:∀ d os,Calls Tryz.prog 99 #[.slice ad n cap] (grow (redrawn W d) os) fun e w''=>e=.returned (.string (txt (dec N)))∧∃ p:Regrown,w''=grow (redrawn W p.d) p.os :=
        fun d os=>Calls.regrown_of (KD.out _ (below_on hbw2.out (below_regrown W d os)))
      have cS:∀ d os,Calls Tryz.prog 98 #[.string (txt (dec N)),.int .i64 e] (grow (redrawn W d) os) fun r w''=>r=.returned (.string (txt (sizeTxt (dec N) e)))∧∃ p:Regrown,w''=grow (redrawn W p.d) p.os :=
        fun d os=>Calls.regrown_of (KS.out _ (below_on hbw2.out (below_regrown W d os)))
      have k1:=cell_regrown C1.out
      have k2:=cell_regrown C2.out
      have n1:¬ 9223372036854775807<1+(txt (sizeTxt (dec N) e)).size:=by rw [txt_size];omega
      refine wp_region_quiet_below (by kernel_rfl) (by kernel_rfl) ?_
      repeat (quiet_step (first | with_reducible exact cD _ _ | with_reducible exact cS _ _))
      refine wpQuiet_nil ?_
      intro _ hw'
      obtain ⟨⟨dq,osq⟩,hw''⟩:=hw'
      subst hw''
      go_wp2
      go_ret
      refine ⟨rets ?_,below_on hbw2.out (below_regrown W dq osq)⟩
      rw [HE.out]
      rw [← txt_append]
      rfl
end Go.Proofs.YtijaphbccnadbaaGreatDoor
