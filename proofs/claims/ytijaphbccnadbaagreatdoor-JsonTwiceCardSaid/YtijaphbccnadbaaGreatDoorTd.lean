/- Texts of the claim. -/
import Derived.Test.YtijaphbccnadbaaGreatDoorTc
import Derived.Laws.OwnMore
set_option linter.unusedVariables false
set_option linter.unusedSimpArgs false
set_option maxHeartbeats 4000000
set_option maxRecDepth 100000
namespace Go.Proofs.YtijaphbccnadbaaGreatDoor
open Go.RowKit
open Go.RowKit
open Go.RowKit
theorem trimByte_any (ad:Option Addr) (n cap:Nat) (xs:List Nat) (w:World) (hn:xs.length=n) (hcap:n≤cap) (hm:n≤1000000000000) (hr:Rdb w ad xs) :
    Calls Tryz.prog 182 #[.slice ad n cap,.int .u8 48] w fun e w'=>e=.returned (.slice ad (trimLen xs n) cap)∧w=w':=by
  go_enter Tryz.func182,Tryz.ntmps182
  go_wp2
  go_loop [0] (fun v=>∃ k:Nat,k≤n∧v=.slice ad k cap∧trimLen xs k=trimLen xs n) (fun v=>match v with | .slice _ k _=>k | _=>0)
  case atStart=>exact ⟨n,Nat.le_refl _,rfl,rfl⟩
  case round =>
    obtain ⟨k,hk,rfl,he⟩:=hrel
    have HE:=Lib.hid he;clear he
    rcases k with _ | k
    · have h0:trimLen xs n=0:=by rw [← HE.out];rfl
      have H0:=Lib.hid h0;clear h0
      go_wp2
      go_ret
      rw [H0.out];exact ⟨rfl,rfl⟩
    · obtain ⟨b,o,hadd,_,hc⟩:=hr k (by omega)
      subst hadd
      generalize hx:xs.getD k 0=x at *
      have HX:=Lib.hid hx;clear hx
      by_cases hz:x=48
      · have hT:trimLen xs k=trimLen xs n:=by rw [← HE.out];simp only [trimLen];rw [if_pos (by rw [HX.out];exact hz)]
        have HT:=Lib.hid hT;clear hT
        subst hz
        go_wp2
        go_round
        case rel=>exact ⟨k,by omega,rfl,HT.out⟩
        case measure=>simp
      · have h0:trimLen xs n=k+1:=by rw [← HE.out];simp only [trimLen];rw [if_neg (by rw [HX.out];exact hz)]
        have H0:=Lib.hid h0;clear h0
        have hxb:(((x:Int)) == 48)=false:=by rw [beq_eq_false_iff_ne];omega
        go_wp2
        go_ret
        rw [H0.out];exact ⟨rfl,rfl⟩
theorem trimRight_any (ad:Option Addr) (n cap:Nat) (xs:List Nat) (w:World) (hn:xs.length=n) (hn0:0<n) (hcap:n≤cap) (hm:n≤1000000000000) (hr:Rdb w ad xs) :
    Calls Tryz.prog 146 #[.slice ad n cap,.string ⟨#[48]⟩] w fun e w'=>e=.returned (.slice ad (trimLen xs n) cap)∧w=w':=by
  have hnb:((n:Int) == 0)=false:=by rw [beq_eq_false_iff_ne];omega
  go_enter Tryz.func146,Tryz.ntmps146
  go_wp2_with (go_at_call 182;refine (trimByte_any ad n cap xs w hn hcap hm hr).mono ?_;rintro e w' ⟨rfl,rfl⟩)
  go_ret
  exact ⟨rfl,rfl⟩
def Half (xs ys:List Nat) (k:Nat):Prop:=ys.length=xs.length∧∀ t,t<xs.length→ys.getD t 0=if t<k∨xs.length - k≤t then xs.getD (xs.length - 1 - t) 0 else xs.getD t 0
theorem Half.zero (xs:List Nat):Half xs xs 0:=⟨rfl,fun t ht=>by rw [if_neg (by omega)]⟩
theorem getD_set (l:List Nat) (i t v:Nat) (h:i<l.length):(l.set i v).getD t 0=if i=t then v else l.getD t 0:=by
  by_cases hit:i=t
  · subst hit;simp [List.getD,h]
  · simp [List.getD,hit]
theorem Half.step {xs ys:List Nat} {k:Nat} (h:Half xs ys k) (hk:k<xs.length - 1 - k) :
    Half xs ((ys.set k (ys.getD (xs.length - 1 - k) 0)).set (xs.length - 1 - k) (ys.getD k 0)) (k+1):=by
  obtain ⟨hl,h2⟩:=h
  have hk1:ys.getD k 0=xs.getD k 0:=by rw [h2 k (by omega),if_neg (by omega)]
  have hk2:ys.getD (xs.length - 1 - k) 0=xs.getD (xs.length - 1 - k) 0:=by rw [h2 _ (by omega),if_neg (by omega)]
  refine ⟨by simp [hl],fun t ht=>?_⟩
  rw [getD_set _ _ _ _ (by rw [List.length_set];omega),getD_set _ _ _ _ (by omega),hk1,hk2]
  by_cases h3:xs.length - 1 - k=t
  · subst h3
    rw [if_pos rfl,if_pos (by omega),show xs.length - 1 - (xs.length - 1 - k)=k by omega]
  · rw [if_neg h3]
    by_cases h4:k=t
    · subst h4;rw [if_pos rfl,if_pos (by omega)]
    · rw [if_neg h4,h2 t ht]
      by_cases h5:t<k∨xs.length - k≤t
      · rw [if_pos h5,if_pos (by omega)]
      · rw [if_neg h5,if_neg (by omega)]
theorem Half.done {xs ys:List Nat} {k:Nat} (h:Half xs ys k) (hk:xs.length≤2*k+1):ys=xs.reverse:=by
  obtain ⟨hl,h2⟩:=h
  apply List.ext_getElem (by simp [hl])
  intro i h1 h3
  have h4:=h2 i (by omega)
  have h5:ys[i]=ys.getD i 0:=by simp [List.getD,h1]
  rw [h5,h4,List.getElem_reverse]
  by_cases h6:i<k∨xs.length - k≤i
  · rw [if_pos h6];simp [List.getD,show xs.length - 1 - i<xs.length by omega]
  · rw [if_neg h6]
    have h7:xs.length - 1 - i=i:=by omega
    simp only [h7]
    simp [List.getD,show i<xs.length by omega]
def RevRel (g n:Nat) (xs:List Nat) (r:List Value) (w:World) (i j:Value) (wr:World):Prop :=
  ∃ k q ys,i=.int .i64 ((k:Nat):Int)∧j=.int .i64 ((n:Int) - 1 - (k:Int))∧2*k≤n∧Okb ys∧Half xs ys k∧wr=(putb g ys r w).drewN q
theorem reverse_any (g n cap:Nat) (xs:List Nat) (r:List Value) (w:World) (hn:xs.length=n) (hm:n≤1000000000000) (ho:Okb xs) (hb:Bkb w g xs r) :
    Calls Tryz.prog 147 #[.slice (some ⟨g,0,none⟩) n cap] w fun e w'=>e=.returned (.tuple #[])∧∃ q,w'=(putb g xs.reverse r w).drewN q:=by
  have HN:=Lib.hid hn;clear hn
  go_enter Tryz.func147,Tryz.ntmps147
  go_wp2
  go_loopw [2,3] (fun i j wr=>RevRel g n xs r w i j wr) (fun i _ _=>n - (intOf i).toNat)
  case atStart=>exact ⟨0,0,xs,rfl,by go_num,by omega,ho,Half.zero xs,by rw [putb_same hb];rfl⟩
  case round =>
    obtain ⟨k,q,ys,rfl,rfl,hk,hoy,hh,rfl⟩:=hrel
    have hbk:Bkb (putb g ys r w) g ys r:=putb_blk _ _ hb.lt
    have hyl:ys.length=n:=by rw [hh.1,HN.out]
    have HY:=Lib.hid hyl;clear hyl
    by_cases hlt:k<n - 1 - k
    · have hj:(n:Int) - 1 - (k:Int)=((n - 1 - k:Nat):Int):=by omega
      rw [hj]
      have hst:=hh.step (by rw [HN.out];exact hlt)
      rw [HN.out] at hst
      have hc1:=hbk.cell k (by rw [HY.out];omega)
      have hc2:=hbk.cell (n - 1 - k) (by rw [HY.out];omega)
      have hf1:=hbk.free k
      have hf2:=hbk.free (n - 1 - k)
      have hxb:=hoy.getD k
      have hyb:=hoy.getD (n - 1 - k)
      generalize hJ:n - 1 - k=j at *
      have HJ:=Lib.hid hJ;clear hJ hj
      generalize ys.getD k 0=x at *
      generalize ys.getD j 0=y at *
      have hkn:(k:Int)<(n:Int):=by have:=HJ.out;omega
      have hjn:(j:Int)<(n:Int):=by have:=HJ.out;omega
      have hkj:(k:Int)<(j:Int):=by omega
      have e1:((putb g ys r w).setCell ⟨g,k,none⟩ (.int .u8 (y:Int))).setCell ⟨g,j,none⟩ (.int .u8 (x:Int))=putb g ((ys.set k y).set j x) r w:=by
        rw [setb_blk hbk k y (by rw [HY.out];omega),putb_put,setb_blk (putb_blk _ _ hb.lt) j x (by rw [List.length_set,HY.out];omega),putb_put]
      have E1:=Lib.hid e1;clear e1
      have HST:=Lib.hid hst;clear hst
      go_wp2
      go_region
      go_wp2
      go_roundw
      case rel =>
        refine ⟨k+1,q+1,(ys.set k y).set j x,by go_num,by have:=HJ.out;go_num,by have:=HJ.out;omega,(hoy.set _ _ hyb).set _ _ hxb,HST.out,?_⟩
        rw [← E1.out];rfl
      case measure=>simp [intOf];omega
    · have hd:=hh.done (by rw [HN.out];omega)
      have HD:=Lib.hid hd;clear hd
      go_wp2
      go_end0
      exact ⟨rfl,q,by rw [HD.out]⟩
theorem Own.kept {B:Nat} {w w':World} {v:Value} {xs:List Nat} (h:Own B w v xs) (hk:∀ k,v.ownBlock=some k→w'.heap[k]? = w.heap[k]?):Own B w' v xs:=by
  obtain ⟨ho,h | ⟨g,cap,r,e,hg,hb,hc⟩⟩:=h
  · exact ⟨ho,.inl h⟩
  · exact ⟨ho,.inr ⟨g,cap,r,e,hg,by unfold Blk;rw [hk g (by rw [e];rfl)];exact hb,hc⟩⟩
theorem Ownb.kept {B:Nat} {w w':World} {v:Value} {xs:List Nat} (h:Ownb B w v xs) (hk:∀ k,v.ownBlock=some k→w'.heap[k]? = w.heap[k]?):Ownb B w' v xs:=by
  obtain ⟨ho,h | ⟨g,cap,r,e,hg,hb,hc⟩⟩:=h
  · exact ⟨ho,.inl h⟩
  · exact ⟨ho,.inr ⟨g,cap,r,e,hg,by unfold Bkb;rw [hk g (by rw [e];rfl)];exact hb,hc⟩⟩
theorem Own.blockLt {B:Nat} {w:World} {v:Value} {xs:List Nat} (h:Own B w v xs):∀ k,v.ownBlock=some k→k<w.heap.size:=by
  obtain ⟨_,⟨rfl,rfl⟩ | ⟨g,cap,r,rfl,hg,hb,_⟩⟩:=h
  · intro k e;cases e
  · intro k e;cases e;exact hb.lt
theorem Ownb.blockLt {B:Nat} {w:World} {v:Value} {xs:List Nat} (h:Ownb B w v xs):∀ k,v.ownBlock=some k→k<w.heap.size:=by
  obtain ⟨_,⟨rfl,rfl⟩ | ⟨g,cap,r,rfl,hg,hb,_⟩⟩:=h
  · intro k e;cases e
  · intro k e;cases e;exact hb.lt
theorem own_apart {B B':Nat} {w:World} {v v':Value} {xs ys:List Nat} (h:Own B w v xs) (h':Ownb B' w v' ys) (k:Nat) (e:v.ownBlock=some k):some k ≠ v'.ownBlock:=by
  intro e'
  obtain ⟨_,⟨rfl,_⟩ | ⟨g,cap,r,rfl,_,hb,_⟩⟩:=h
  · cases e
  obtain ⟨_,⟨rfl,_⟩ | ⟨g',cap',r',rfl,_,hb',_⟩⟩:=h'
  · cases e'
  cases e;cases e'
  unfold Blk at hb;unfold Bkb at hb'
  rw [hb] at hb'
  simp at hb'
def DGIn (G n Q N:Nat) (lv:Value) (w:World) (ov rm i:Value) (wr:World):Prop :=
  ∃ (j r:Nat) (o:List Nat),j≤9∧i=.int .i64 j∧rm=.int .u32 r∧r<tenN (9 - j)∧Ownb G wr ov o∧Okd o∧N=(Q*tenN (9 - j)+r)*tenN o.length+dval o∧o.length≤32*n+j∧Own G wr lv (limbs Q)∧Below G w wr
theorem dg_num {Q N r P V T:Nat} (h:N=(Q*(T*10)+r)*P+V):N=(Q*T+r / 10)*(P*10)+(V+P*(r % 10)):=by
  have:=Nat.div_add_mod r 10
  rw [h]
  conv=>lhs;rw [← this]
  grind
def DGRel (G n N:Nat) (w:World) (L:Nat) (lv ov:Value) (wr:World):Prop :=
  ∃ o:List Nat,Own G wr lv (limbs L)∧Ownb G wr ov o∧Okd o∧N=L*tenN o.length+dval o∧Below G w wr∧o.length≤32*n+9
theorem digits_any (ad:Option Addr) (n cap:Nat) (xs:List Nat) (w:World) (hn:xs.length=n) (hcap:n≤cap) (hm:n≤10000000) (ho:Okl xs) (hr:Rd w ad xs) :
    Calls Tryz.prog 99 #[.slice ad n cap] w fun e w'=>e=.returned (.string (txt (dec (val xs))))∧Below w.heap.size w w':=by
  have KN:=Lib.hid (norm_any ad n cap xs w hn hcap (by omega) ho hr)
  have hlt:=val_lt ho
  rw [hn] at hlt
  have hlen:=limbs_len_le ho
  rw [hn] at hlen
  generalize val xs=N at *
  clear ho hr hn
  have HLT:=Lib.hid hlt;clear hlt
  by_cases h0:N=0
  · subst h0
    go_enter Tryz.func99,Tryz.ntmps99
    go_wp2_with fail
    refine KN.out.mono ?_
    rintro e w' ⟨v,rfl,hv,hbl⟩
    obtain ⟨ad1,cap1,rfl,_,_,_⟩:=hv.view
    rw [limbs_zero] at hv ⊢
    go_wp2
    go_ret
    exact ⟨rfl,hbl⟩
  · have hne:(limbs N).length ≠ 0:=fun h=>h0 ((limbs_nil_iff N).1 (List.eq_nil_of_length_eq_zero h))
    have hnb:(((limbs N).length:Int) == 0)=false:=by rw [beq_eq_false_iff_ne];omega
    have HNB:=Lib.hid hnb
    clear hnb
    have hdec:dec N=(decl N).reverse:=by unfold dec;rw [if_neg h0]
    have HDEC:=Lib.hid hdec;clear hdec
    generalize hG:w.heap.size=G at *
    go_enter Tryz.func99,Tryz.ntmps99
    go_wp2_with fail
    refine KN.out.mono ?_
    rintro e w' ⟨v,rfl,hv,hbl⟩
    rw [hG] at hv hbl
    obtain ⟨ad1,cap1,hve,_,_,_⟩:=hv.view
    subst hve
    have hnb:=HNB.out
    go_wp2
    clear hnb
    go_loopg [3,4] N (fun L lv ov wr=>DGRel G n N w L lv ov wr)
    case atStart=>exact ⟨[],hv,Ownb.nil _ _,Okd.nil,by simp [tenN,dval],hbl,by simp⟩
    case round =>
      clear hv hbl
      obtain ⟨o,hown,hownb,hod,hN,hbl,hol⟩:=hrel
      obtain ⟨ad2,cap2,hve,hle,hrd,hadd⟩:=hown.view
      subst hve
      have HN:=Lib.hid hN;clear hN
      have hsG:G≤wr.heap.size:=Nat.le_trans (by rw [← hG];exact Nat.le_refl _) hbl.size
      by_cases hL0:gk=0
      · subst hL0
        have hN2:=HN.out
        rw [Nat.zero_mul,Nat.zero_add] at hN2
        obtain ⟨hob,⟨rfl,rfl⟩ | ⟨g,cap3,r3,rfl,hg3,hbk,hc3,hm3⟩⟩:=hownb
        · exact absurd hN2 h0
        · have hop:0<o.length:=by
            rcases Nat.eq_zero_or_pos o.length with h1 | h1
            · rw [List.eq_nil_of_length_eq_zero h1] at hN2;exact absurd hN2 h0
            · exact h1
          have htr:=trim_decl hod
          rw [← hN2] at htr
          have htl:=trimLen_le o o.length
          have KT:=Lib.hid (trimRight_any (some ⟨g,0,none⟩) o.length cap3 o wr rfl hop (by omega) (by omega) hbk.rd_all)
          have hbd:=hbk.own hg3 hob (trimLen o o.length) cap3 htl hc3 hm3
          rw [htr] at hbd
          have hdl:(decl N).length=trimLen o o.length:=by rw [← htr,List.length_take,Nat.min_eq_left htl]
          rw [← hdl] at KT hbd htl
          obtain ⟨_,⟨h1,_⟩ | ⟨g',cap',r',he',hg',hbk',hcc,hmm⟩⟩:=hbd
          · cases h1
          · cases he'
            have KR:=Lib.hid (reverse_any g (decl N).length cap3 (decl N) r' wr rfl (by omega) (decl_ok N).b hbk')
            have hbr:Bkb (putb g (decl N).reverse r' wr) g (decl N).reverse r':=putb_blk _ _ hbk'.lt
            have hbl3:Below G w (putb g (decl N).reverse r' wr):=putb_below hbl hg3 _ _
            have KC:∀ q,(convert 60 9 (.slice (some ⟨g,0,none⟩) (decl N).length cap3)).run Tryz.prog ((putb g (decl N).reverse r' wr).drewN q)=.ok (.string (txt (dec N))) ((putb g (decl N).reverse r' wr).drewN q):=by
              intro q
              have h2:=run_convert_bytes_arg (P:=Tryz.prog) ((putb g (decl N).reverse r' wr).drewN q) 60 5 Tryz.underlying60 Tryz.underlying5 g 0 (decl N).length cap3 ((decl N).reverse.map (fun (x:Nat)=>(x:Int))) (by simp) ?_ 9 Tryz.underlying9
              · rw [h2]
                have e:strOfNums ((decl N).reverse.map (fun (x:Nat)=>(x:Int)))=txt (dec N):=by
                  rw [HDEC.out];unfold strOfNums txt;simp
                rw [e]
              · intro i hi
                have h3:=(hbr.drewN q).cell i (by simpa using hi)
                rw [Nat.zero_add,h3]
                have hi2:i<(decl N).reverse.length:=by simpa using hi
                simp only [List.getD,List.getElem?_map,List.getElem?_eq_getElem hi2,Option.map_some,Option.getD_some]
            clear hcc hmm hN2 htr htl hdl hbk hbk' hbr hop hob hc3 hm3 hol hod HN
            go_wp2_with fail
            refine KT.out.mono ?_
            rintro e w' ⟨rfl,rfl⟩
            go_wp2_with fail
            refine KR.out.mono ?_
            rintro e w' ⟨rfl,q,rfl⟩
            have kc:=KC q
            go_wp2
            go_ret
            exact ⟨rfl,below_drewN' hbl3 q⟩
      · have hLa:gk≤N:=by rw [HN.out];exact Nat.le_trans (Nat.le_mul_of_pos_right _ (tenN_pos _)) (Nat.le_add_right _ _)
        have hcb:o.length<32*n:=ten_bound (N:=N) (by rw [HN.out];exact Nat.le_trans (Nat.le_mul_of_pos_left _ (by omega)) (Nat.le_add_right _ _)) HLT.out
        have hll:(limbs gk).length≤n:=Nat.le_trans (limbs_len_mono hLa) hlen
        have hlp:0<(limbs gk).length:=List.length_pos_iff.2 (fun h=>hL0 ((limbs_nil_iff gk).1 h))
        have K3:=shrink_chunk G _ (limbs gk) wr hown hsG (by omega)
        rw [val_limbs] at K3
        have K3H:=Lib.hid K3;clear K3
        go_wp2_with fail
        refine K3H.out.mono ?_
        rintro e w2 ⟨v2,rfl,hv2,hb2,hoth⟩
        have hownb2:Ownb G w2 u4 o:=hownb.kept (fun k hk=>hoth k (fun e=>own_apart hown hownb k e.symm hk.symm))
        have hbl2:Below G w w2:=hbl.trans hb2
        have hrl:gk % 1000000000<1000000000:=Nat.mod_lt _ (by decide)
        have hdm:=Nat.div_add_mod gk 1000000000
        have hql:gk / 1000000000<gk:=by omega
        generalize hrm:gk % 1000000000=rm at *
        generalize hQ:gk / 1000000000=Q at *
        have HDM:=Lib.hid hdm
        clear hdm hrm hQ hoth hown hownb hbl hb2
        go_wp2
        go_loopw [4,5,19] (fun ov r i wr=>DGIn G n Q N v2 w ov r i wr) (fun _ _ i _=>9 - (intOf i).toNat)
        case atStart=>exact ⟨0,rm,o,by omega,rfl,rfl,by rw [tenN_9];exact hrl,hownb2,hod,by rw [HN.out,tenN_9,← HDM.out,Nat.mul_comm 1000000000],by omega,hv2,hbl2⟩
        case round =>
          clear hv2 hownb2 hbl2 hod HN hcb hol
          obtain ⟨j,r,o2,hj,rfl,rfl,hr,hownb,hod,hN,hol,hleft,hbl⟩:=hrel
          have HN:=Lib.hid hN;clear hN
          by_cases hj9:j<9
          · have hrb:r<1000000000:=by
              have h1:tenN (9 - j)≤tenN 9:=tenN_le (by omega)
              rw [tenN_9] at h1;omega
            have hs:tenN (9 - j)=tenN (9 - (j+1))*10:=by rw [← tenN_succ];congr 1;omega
            have hN2:=HN.out
            rw [hs] at hN2 hr
            have hN3:=dg_num hN2
            rw [← tenN_succ] at hN3
            have HN3:=Lib.hid hN3
            have HR3:=Lib.hid (show r / 10<tenN (9 - (j+1)) by omega)
            clear hN2 hN3 hs hr
            have hsz:G≤wr.heap.size:=Nat.le_trans (by rw [← hG];exact Nat.le_refl _) hbl.size
            go_wp2_with (at_builtin;refine wpl_appendb rfl (.tmp 21) (.tmp 26) rfl G u4 o2 rfl (hownb.below ((Below.refl _ _).alloc (Nat.le_refl _) _)) ⟨wr.heap.size,0,none⟩ 1 (48+r % 10) rfl ?hlt ?hcell ?hlen ?hbase ?_)
            case hlt=>omega
            case hcell=>simp
            case hlen=>omega
            case hbase=>simp;omega
            intro v' w4 hown4 hbl4 hgr
            have hleft4:Own G w4 v2 (limbs Q):=(hleft.below ((Below.refl _ _).alloc (Nat.le_refl _) _)).kept (fun k hk=>hgr.block k (by have:=hleft.blockLt k hk;simp;omega) (own_apart hleft hownb k hk))
            have hbl5:Below G w w4:=(hbl.alloc hsz _).trans hbl4
            clear hgr hleft hbl hbl4 hownb
            go_wp2
            go_roundw
            case rel=>exact ⟨j+1,r / 10,o2++[48+r % 10],by omega,by go_num,by go_num,HR3.out,hown4,hod.snoc (by omega) (by omega),by rw [dval_snoc,List.length_append,List.length_singleton,Nat.add_sub_cancel_left];exact HN3.out,by rw [List.length_append,List.length_singleton];omega,hleft4,hbl5⟩
            case measure=>simp [intOf];omega
          · obtain rfl:j=9:=by omega
            have hN2:=HN.out
            have hr0:r=0:=by
              have:tenN (9 - 9)=1:=rfl
              omega
            subst hr0
            rw [show tenN (9 - 9)=1 from rfl,Nat.mul_one,Nat.add_zero] at hN2
            have HN2:=Lib.hid hN2;clear hN2
            go_wp2
            go_roundg Q
            case measure=>exact hql
            case rel=>exact ⟨o2,hleft,hownb,hod,HN2.out,hbl,by omega⟩
def nums (s:ByteArray):List Nat:=s.data.toList.map UInt8.toNat
theorem nums_len (s:ByteArray):(nums s).length=s.size:=by
  unfold nums;rw [List.length_map];rfl
theorem nums_at (s:ByteArray) (k:Nat) (h:k<s.size):(nums s).getD k 0=s[k].toNat:=by
  have h1:k<s.data.toList.length:=h
  unfold nums
  simp only [List.getD,List.getElem?_map,List.getElem?_eq_getElem h1,Option.map_some,Option.getD_some]
  rfl
def hval (l:List Nat):Nat:=dval l.reverse
theorem hval_nil:hval []=0:=rfl
theorem hval_snoc (l:List Nat) (x:Nat):hval (l++[x])=10*hval l+(x - 48):=by
  unfold hval;rw [List.reverse_append];simp only [List.reverse_cons,List.reverse_nil,List.nil_append,List.cons_append,dval];omega
theorem hval_one (x:Nat):hval [x]=x - 48:=by have:=hval_snoc [] x;simpa [hval_nil] using this
theorem hval_append (l m:List Nat):hval (l++m)=hval l*tenN m.length+hval m:=by
  induction m generalizing l with
  | nil=>simp [tenN,hval_nil]
  | cons x m ih =>
    have e1:l++x::m=(l++[x])++m:=by simp
    have e2:x::m=[x]++m:=rfl
    rw [e1,ih,e2,ih [x],hval_snoc,hval_one,List.length_append,List.length_singleton,Nat.add_comm 1,tenN_succ]
    grind
theorem hval_lt {l:List Nat} (h:Okd l):hval l<tenN l.length:=by
  have:=dval_lt l.reverse h.rev
  rwa [List.length_reverse] at this
theorem take_snoc' (l:List Nat) (k:Nat) (h:k<l.length):l.take (k+1)=l.take k++[l.getD k 0]:=by
  rw [List.take_succ_eq_append_getElem h];simp [List.getD,h]
def ShortPost (l:List Nat) (w:World) (e:Ending) (w':World):Prop :=
  ((Okd l∧e=.returned (.tuple #[.int .u32 ((hval l:Nat):Int),.bool true]))∨(¬ Okd l∧e=.returned (.tuple #[.int .u32 0,.bool false])))∧w=w'
theorem short_any (s:ByteArray) (w:World) (hs:s.size≤9) :
    Calls Tryz.prog 188 #[.string s] w (ShortPost (nums s) w):=by
  go_enter Tryz.func188,Tryz.ntmps188
  go_wp2
  go_loop [2,7] (fun v i=>∃ (k x:Nat),k≤s.size∧i=.int .i64 k∧v=.int .u32 x∧x=hval ((nums s).take k)∧Okd ((nums s).take k)) (fun _ i=>s.size - (intOf i).toNat)
  case atStart=>exact ⟨0,0,by omega,rfl,rfl,rfl,by rw [List.take_zero];exact Okd.nil⟩
  case round =>
    obtain ⟨k,x,hk,rfl,rfl,hx,hod⟩:=hrel
    have HX:=Lib.hid hx;clear hx
    by_cases hlt:k<s.size
    · have hxb:x<100000000:=by
        have h1:=hval_lt hod
        rw [← HX.out,List.length_take,nums_len,Nat.min_eq_left hk] at h1
        have h2:=tenN_le (show k≤8 by omega)
        have h3:tenN 8=100000000:=by decide
        omega
      have hat:=nums_at s k hlt
      have htk:=take_snoc' (nums s) k (by rw [nums_len];exact hlt)
      rw [hat] at htk
      have HT:=Lib.hid htk
      have hmem:s[k].toNat∈nums s:=by
        have h1:s[k].toNat∈(nums s).take (k+1):=by rw [htk];simp
        exact List.mem_of_mem_take h1
      have HM:=Lib.hid hmem
      clear hat htk hmem
      by_cases h1:s[k].toNat<48
      · have hbad:¬ Okd (nums s):=fun h=>by have:=h _ HM.out;omega
        go_wp2
        go_ret2
        exact ⟨.inr ⟨hbad,rfl⟩,rfl⟩
      · by_cases h2:57<s[k].toNat
        · have hbad:¬ Okd (nums s):=fun h=>by have:=h _ HM.out;omega
          go_wp2
          go_ret2
          exact ⟨.inr ⟨hbad,rfl⟩,rfl⟩
        · have hv:Hid (10*x+(s[k].toNat - 48)=hval ((nums s).take (k+1))):=by
            unfold Hid;rw [HT.out,hval_snoc,HX.out]
          have hok:Okd ((nums s).take (k+1)):=by rw [HT.out];exact hod.snoc (by omega) (by omega)
          go_wp2
          go_round
          case rel=>exact ⟨k+1,10*x+(s[k].toNat - 48),by omega,by go_num,by go_num,hv.out,hok⟩
          case measure=>simp [intOf];omega
    · obtain rfl:k=s.size:=by omega
      have e:(nums s).take s.size=nums s:=List.take_of_length_le (by rw [nums_len];exact Nat.le_refl _)
      rw [e] at hod
      have hx:=HX.out
      rw [e] at hx
      have HX2:=Lib.hid hx;clear hx e
      go_wp2
      go_ret2
      exact ⟨.inl ⟨hod,by rw [← HX2.out];rfl⟩,rfl⟩
theorem nums_take (t:ByteArray) (n:Nat):nums (t.extract 0 n)=(nums t).take n:=by
  unfold nums;simp [ByteArray.data_extract,List.map_take]
theorem nums_drop (t:ByteArray) (n:Nat):nums (t.extract n t.size)=(nums t).drop n:=by
  have e:(nums t).drop n=((nums t).drop n).take (t.size - n):=by
    rw [List.take_of_length_le];rw [List.length_drop,nums_len];exact Nat.le_refl _
  rw [e]
  unfold nums;simp [ByteArray.data_extract,List.map_take,List.map_drop]
def ParsePost (l : List Nat) (w : World) (e : Ending) (w' : World) : Prop :=
  ((0 < l.length ∧ l.length ≤ 2000 ∧ Okd l ∧ ∃ v, e = .returned (.tuple #[v, .bool true]) ∧ Own w.heap.size w' v (limbs (hval l))) ∨
   (¬ (0 < l.length ∧ l.length ≤ 2000 ∧ Okd l) ∧ e = .returned (.tuple #[.slice none 0 0, .bool false]))) ∧ Below w.heap.size w w'
def PRel (G:Nat) (s:ByteArray) (w:World) (k:Nat) (sv lvv:Value) (wr:World):Prop :=
  ∃ (t:ByteArray) (done:List Nat),k=t.size∧sv=.string t∧nums s=done++nums t∧Okd done∧Own G wr lvv (limbs (hval done))∧Below G w wr
theorem parse_any (s:ByteArray) (w:World) :
    Calls Tryz.prog 158 #[.string s] w (ParsePost (nums s) w):=by
  by_cases h0:s.size=0
  · have hs:s=ByteArray.empty:=by
      apply ByteArray.ext;apply Array.eq_empty_of_size_eq_zero;exact h0
    have hbad:¬ (0<(nums s).length∧(nums s).length≤2000∧Okd (nums s)):=by rw [nums_len];omega
    have HB:=Lib.hid hbad;clear hbad
    go_enter Tryz.func158,Tryz.ntmps158
    go_wp2
    go_ret2
    exact ⟨.inr ⟨HB.out,rfl⟩,Below.refl _ _⟩
  · have hne:¬ s.toList=[]:=fun h=>h0 (by
      have h1:s.data.toList=[]:=by simpa [ByteArray.toList_eq] using h
      show s.data.size=0
      rw [← Array.length_toList,h1];rfl)
    have hemp:s.toList.isEmpty=false:=by
      cases hl:s.toList with
      | nil=>exact absurd hl hne
      | cons a l=>rfl
    by_cases h2:2000<s.size
    · have hbad:¬ (0<(nums s).length∧(nums s).length≤2000∧Okd (nums s)):=by rw [nums_len];omega
      have HB:=Lib.hid hbad;clear hbad
      go_enter Tryz.func158,Tryz.ntmps158
      go_wp2
      go_ret2
      exact ⟨.inr ⟨HB.out,rfl⟩,Below.refl _ _⟩
    · generalize hG:w.heap.size=G at *
      go_enter Tryz.func158,Tryz.ntmps158
      go_wp2
      go_loopg [0,4] s.size (fun k sv lvv wr=>PRel G s w k sv lvv wr)
      case atStart=>exact ⟨s,[],rfl,rfl,rfl,Okd.nil,Own.nil _ _,Below.refl _ _⟩
      case round =>
        obtain ⟨t,done,rfl,rfl,hs,hod,hown,hbl⟩:=hrel
        have hlen:done.length+t.size=s.size:=by
          have:=congrArg List.length hs
          rw [List.length_append,nums_len,nums_len] at this;omega
        have HS:=Lib.hid hs;clear hs
        have HLN:=Lib.hid hlen;clear hlen
        have hsG:G≤wr.heap.size:=Nat.le_trans (by rw [← hG];exact Nat.le_refl _) hbl.size
        by_cases ht:t.size=0
        · have hnt:nums t=[]:=List.eq_nil_of_length_eq_zero (by rw [nums_len];exact ht)
          have hall:nums s=done:=by rw [HS.out,hnt,List.append_nil]
          have hgood:0<(nums s).length∧(nums s).length≤2000∧Okd (nums s):=⟨by rw [nums_len];omega,by rw [nums_len];omega,by rw [hall];exact hod⟩
          have HGD:=Lib.hid hgood
          have HALL:=Lib.hid hall
          clear hgood hall hnt
          go_wp2
          go_ret2
          exact ⟨.inl ⟨HGD.out.1,HGD.out.2.1,HGD.out.2.2,u4,rfl,by rw [hG,HALL.out];exact hown⟩,by rw [hG];exact hbl⟩
        · have hmin:min (t.size:Int) 9=((min t.size 9:Nat):Int):=by omega
          have hm1:min t.size 9≤t.size:=Nat.min_le_left _ _
          have hm9:min t.size 9≤9:=Nat.min_le_right _ _
          have hm0:0<min t.size 9:=by omega
          generalize min t.size 9=m at *
          have hes:(t.extract 0 m).size=m:=by rw [← nums_len,nums_take,List.length_take,nums_len];omega
          have hsp:nums t=nums (t.extract 0 m)++nums (t.extract m t.size):=by rw [nums_take,nums_drop,List.take_append_drop]
          have hrs:(t.extract m t.size).size=t.size - m:=by rw [← nums_len,nums_drop,List.length_drop,nums_len]
          have K1:=Lib.hid (short_any (t.extract 0 m) wr (by omega))
          have HES:=Lib.hid hes
          have HSP:=Lib.hid hsp
          have HRS:=Lib.hid hrs
          clear hes hsp hrs
          go_wp2_with fail
          refine K1.out.mono ?_
          rintro e w' ⟨⟨hok,rfl⟩ | ⟨hbad,rfl⟩,rfl⟩
          · have hvl:=hval_lt hok
            rw [nums_len,HES.out] at hvl
            have hvb:hval (nums (t.extract 0 m))<B32:=by
              have:=tenN_le hm9;rw [tenN_9] at this;rw [B32_eq];omega
            have hll:(limbs (hval done)).length≤2001:=by
              have h1:=hval_lt hod
              have h3:tenN done.length≤B32 ^ done.length:=Nat.pow_le_pow_left (by decide) _
              have h4:=limbs_length_le (Nat.lt_of_lt_of_le h1 h3)
              have:=HLN.out;omega
            have hap:=hval_append done (nums (t.extract 0 m))
            rw [nums_len,HES.out] at hap
            generalize hV:hval (nums (t.extract 0 m))=V at *
            have hod2:Okd (done++nums (t.extract 0 m)):=fun x hx=>by
              rcases List.mem_append.1 hx with h | h
              · exact hod x h
              · exact hok x h
            have K3:=timesPlus_any G u4 (limbs (hval done)) (tenN m) V wr hown hsG (by omega) (by have:=tenN_le hm9;rw [tenN_9] at this;rw [B32_eq];omega) hvb
            rw [val_limbs,← hap] at K3
            have K3H:=Lib.hid K3
            clear K3 hap hV hvl hvb
            go_wp2_with fail
            refine (tens_any m _ hm9).mono ?_
            rintro e w' ⟨rfl,rfl⟩
            go_wp2_with fail
            refine K3H.out.mono ?_
            rintro e w4 ⟨v4,rfl,hv4,hb4⟩
            go_wp2
            go_roundg (t.extract m t.size).size
            case measure=>rw [HRS.out];omega
            case rel=>exact ⟨t.extract m t.size,done++nums (t.extract 0 m),rfl,rfl,by rw [HS.out,HSP.out,List.append_assoc],hod2,hv4,hbl.trans hb4⟩
          · have hbad2:¬ (0<(nums s).length∧(nums s).length≤2000∧Okd (nums s)):=fun h=>hbad (fun x hx=>h.2.2 x (by rw [HS.out,HSP.out];simp [hx]))
            have HB:=Lib.hid hbad2
            clear hbad2 hbad
            go_wp2
            go_ret2
            exact ⟨.inr ⟨HB.out,rfl⟩,by rw [hG];exact hbl⟩
end Go.Proofs.YtijaphbccnadbaaGreatDoor
namespace Go.Proofs.YtijaphbccnadbaaGreatDoor
open Go.RowKit
open Go.RowKit
theorem ten_unique {m m' k k':Nat} (h:m*tenN k=m'*tenN k') (hm:m % 10 ≠ 0) (hm':m' % 10 ≠ 0):m=m'∧k=k':=by
  have key:∀ {a b x y:Nat},a*tenN x=b*tenN y→a % 10 ≠ 0→x<y→False:=by
    intro a b x y h1 h2 h3
    obtain ⟨d,rfl⟩:∃ d,y=x+(d+1):=⟨y - x - 1,by omega⟩
    rw [tenN_add,tenN_succ] at h1
    have h4:a=b*tenN d*10:=by
      have h5:a*tenN x=(b*tenN d*10)*tenN x:=by rw [h1];grind
      exact Nat.eq_of_mul_eq_mul_right (tenN_pos x) h5
    rw [h4] at h2
    exact h2 (Nat.mul_mod_left _ _)
  rcases Nat.lt_trichotomy k k' with h1 | h1 | h1
  · exact (key h hm h1).elim
  · subst h1;exact ⟨Nat.eq_of_mul_eq_mul_right (tenN_pos k) h,rfl⟩
  · exact (key h.symm hm' h1).elim
theorem alloc_blk (w:World) (xs:List Nat):Blk (w.alloc (.cells (xs.map lv).toArray 130)) w.heap.size xs []:=by
  unfold Blk;rw [List.append_nil];exact heap_alloc_new w _
theorem retb {a b:Bool} (h:a=b):Ending.returned (.bool a)=.returned (.bool b):=by rw [h]
theorem below_on {w w1 w2:World} (h:Below w.heap.size w w1) (h2:Below w1.heap.size w1 w2):Below w.heap.size w w2:=h.trans (h2.mono h.size)
structure Ent where
  v:Value
  len:Nat
  nat:Nat
  xs:List Nat
def ListOk (w:World) (v:Value) (L N:Nat) (xs:List Nat):Prop:=∃ ad cap,v=.slice ad xs.length cap∧xs.length≤cap∧xs.length≤L∧Okl xs∧Rd w ad xs∧val xs=N
def Ent.Ok (w:World) (x:Ent):Prop:=ListOk w x.v x.len x.nat x.xs
structure Ctx (w0 w:World) (l:List Ent):Prop where
  below:Below w0.heap.size w0 w
  all:∀ x∈l,x.Ok w
theorem Ctx.step {w0 w w':World} {l:List Ent} (h:Ctx w0 w l) (hb:Below w.heap.size w w'):Ctx w0 w' l :=
  ⟨below_on h.below hb,fun x hx=>by
    obtain ⟨ad,cap,h1,h2,h3,h4,h5,h6⟩:=h.all x hx
    exact ⟨ad,cap,h1,h2,h3,h4,h5.below hb,h6⟩⟩
theorem Ctx.drewN {w0 w:World} {l:List Ent} (h:Ctx w0 w l) (q:Nat):Ctx w0 (w.drewN q) l:=h.step (below_drewN' (Below.refl _ _) q)
theorem Ctx.push {w0 w:World} {l:List Ent} (h:Ctx w0 w l) {x:Ent} (hx:x.Ok w):Ctx w0 w (x::l) :=
  ⟨h.below,fun y hy=>by rcases List.mem_cons.1 hy with rfl | h1 <;> first | exact hx | exact h.all y h1⟩
theorem Ctx.get {w0 w:World} {l:List Ent} (h:Ctx w0 w l) (i:Nat) {v:Value} {L N:Nat} {xs:List Nat} (hi:l[i]? = some ⟨v,L,N,xs⟩):ListOk w v L N xs:=h.all _ (List.mem_of_getElem? hi)
theorem Ctx.begin (w:World):Ctx w w []:=⟨Below.refl _ _,fun x hx=>by cases hx⟩
theorem ent_own {B:Nat} {w:World} {v:Value} {N L:Nat} (h:Own B w v (limbs N)) (hL:(limbs N).length≤L):Ent.Ok w ⟨v,L,N,limbs N⟩:=by
  obtain ⟨ad,cap,rfl,h1,h2,_⟩:=h.view
  exact ⟨ad,cap,rfl,h1,hL,limbs_ok _,h2,val_limbs _⟩
theorem ent_lit (w:World) {x:Nat} (hx:x<B32):Ent.Ok (w.alloc (.cells #[.int .u32 (x:Int)] 130)) ⟨.slice (some ⟨w.heap.size,0,none⟩) 1 1,1,x,[x]⟩ :=
  ⟨_,1,rfl,Nat.le_refl _,Nat.le_refl _,Okl.cons hx Okl.nil,(alloc_blk w [x]).rd_all,by simp [val]⟩
theorem Ctx.lit {w0 w:World} {l:List Ent} (h:Ctx w0 w l) {x:Nat} (hx:x<B32) :
    Ctx w0 (w.alloc (.cells #[.int .u32 (x:Int)] 130)) (⟨.slice (some ⟨w.heap.size,0,none⟩) 1 1,1,x,[x]⟩::l) :=
  (h.step ((Below.refl _ _).alloc (Nat.le_refl _) _)).push (ent_lit w hx)
theorem len_leq {xs:List Nat} (hx:Okl xs) {N L:Nat} (h:N≤val xs) (h1:xs.length≤L):(limbs N).length≤L :=
  Nat.le_trans (limbs_len_mono h) (Nat.le_trans (limbs_len_le hx) h1)
section
variable {w0 w : World} {l : List Ent} {v1 v2 : Value} {L1 L2 N1 N2 : Nat} {xs ys : List Nat}
theorem trim_c (h:Ctx w0 w l) (i:Nat) (hi:l[i]? = some ⟨v1,L1,N1,xs⟩) (h1:L1≤10000000) :
    Calls Tryz.prog 191 #[v1] w fun e w'=>∃ v m k,e=.returned (.tuple #[v,.int .i64 ((k:Nat):Int)])∧N1=m*tenN k∧(N1=0→k=0)∧(N1 ≠ 0→m % 10 ≠ 0)∧k≤400000000∧Ctx w0 w' (⟨v,L1,m,limbs m⟩::l):=by
  obtain ⟨ad,cap,rfl,a2,a3,a4,a5,rfl⟩:=h.get i hi
  refine (trim_any ad _ cap xs w rfl a2 (by omega) a4 a5).mono ?_
  rintro e w' ⟨v,m,k,rfl,ho,hb,q1,q2,q3,q4⟩
  refine ⟨v,m,k,rfl,q1,q2,q3,q4,(h.step hb).push (ent_own ho (len_leq a4 ?_ a3))⟩
  rw [q1]
  exact Nat.le_mul_of_pos_right _ (Nat.pow_pos (by decide))
end
end Go.Proofs.YtijaphbccnadbaaGreatDoor
namespace Go.Proofs.YtijaphbccnadbaaGreatDoor
open Go.RowKit
open Go.RowKit
open Go.RowKit
theorem run_append_none {P:Program} {w:World} (base:Nat) (t ty e:TypeId) (i:TypeInfo) (size:Nat) (ht:P.underlying t=some (.slice e)) (hi:P.info? e=some i)
    (v:Value) (n c:Nat) (xs:List Value) (hown:w.ownsRow base e size v n xs) :
    (Builtin.append_ #[t,t] ty #[v,.slice none 0 c]).run P w=.ok v w:=by
  rcases hown.2 with ⟨rfl,rfl⟩ | ⟨g,cap,cur,rfl,_,_,hnc,_⟩
  · simp [Builtin.append_,run_underlying ht,sizeOf,typeInfo,hi,Builtin.lenOf,Builtin.firstCells]
  · simp [Builtin.append_,run_underlying ht,sizeOf,typeInfo,hi,Builtin.lenOf,Builtin.firstCells,hnc,storeCells]
theorem wpl_append_none {P:Program} {w:World} {ops:Array Oper} {rest:List Oper} {o:Oper} {a:Act} {Q:Exit→Act→World→Prop} (hgd:o.guard=none) (s x:Operand) (t:TypeId)
    (ho:o.op=.call { callee:=.builtin .append,args:=#[s,x],argTypes:=#[t,t] })
    (base:Nat) (e:TypeId) (i:TypeInfo) (size:Nat) (ht:P.underlying t=some (.slice e)) (hi:P.info? e=some i)
    (v:Value) (n c:Nat) (xs:List Value) (hs:a.eval s=v) (hown:w.ownsRow base e size v n xs) (hx:a.eval x=.slice none 0 c)
    (h:wpList P ops Q rest (a.put o.dst v) w):wpList P ops Q (o::rest) a w:=by
  refine wpList_plain hgd fun K hK=>?_
  have hrun:=run_append_none (P:=P) (w:=w) base t o.type e i size ht hi v n c xs hown
  unfold Oper.wp
  simp [execOp,ho,resolve,invoke,builtin,hs,hx,hrun,Result.andThen]
  exact hK _ _ h
theorem wpl_append_rd {w:World} {ops:Array Oper} {rest:List Oper} {o:Oper} {a:Act} {Q:Exit→Act→World→Prop} (hgd:o.guard=none) (s x:Operand)
    (ho:o.op=.call { callee:=.builtin .append,args:=#[s,x],argTypes:=#[22,22] }) (B:Nat) (v:Value) (xs:List Nat) (hs:a.eval s=v) (hown:Own B w v xs)
    (ad:Option Addr) (m c:Nat) (ys:List Nat) (hx:a.eval x=.slice ad m c) (hy:Okl ys) (hyl:ys.length=m) (hr:Rd w ad ys) (hl:xs.length+m≤1000000000) (hB:B≤w.heap.size)
    (h:∀ v' w',Own B w' v' (xs++ys)→Below B w w'→wpList Tryz.prog ops Q rest (a.put o.dst v') w'):wpList Tryz.prog ops Q (o::rest) a w:=by
  obtain ⟨i0,hi,hz0,hz1,hz2⟩:=info_parts info_u32
  cases ad with
  | none =>
    have hm:m=0:=by
      rcases Nat.eq_zero_or_pos m with h0 | h0
      · exact h0
      · obtain ⟨b,o',e,_⟩:=hr 0 (by omega)
        cases e
    subst hm
    obtain rfl:ys=[]:=List.eq_nil_of_length_eq_zero hyl
    refine wpl_append_none hgd s x 22 ho B 130 i0 1 Tryz.underlying22 hi v xs.length c (xs.map lv) hs hown.row hx ?_
    exact h v w (by rw [List.append_nil];exact hown) (Below.refl _ _)
  | some ad =>
    refine wpList_append_own w hgd s x 22 ho B 130 i0 (.int .u32 0) 1 4 Tryz.underlying22 hi hz0 hz1 hz2 rfl (by decide) v xs.length (xs.map lv) hs hown.row ad m c (ys.map lv) hx (by simp [hyl]) ?_ ?_ (by unfold maxLen;omega) (by omega) hB ?_
    · intro j u hj
      have hjl:j<ys.length:=by
        rcases Nat.lt_or_ge j ys.length with h1 | h1
        · exact h1
        · rw [List.getElem?_eq_none (by simpa using h1)] at hj;cases hj
      obtain ⟨b,o',e,hlt,hc⟩:=hr j hjl
      cases e
      have e2:(Addr.add ⟨b,o',none⟩ j)=⟨b,o'+j,none⟩:=by unfold Addr.add;split <;> simp_all
      rw [e2,hc]
      rw [List.getElem?_map,List.getElem?_eq_getElem hjl] at hj
      simp only [Option.map_some,Option.some.injEq] at hj
      rw [← hj];simp [lv,List.getD,hjl]
    · intro u hu
      obtain ⟨y,_,rfl⟩:=List.mem_map.1 hu
      rfl
    · intro v' w' hown' hgr _
      refine h v' w' ?_ ((Below.refl _ _).grown hgr hB hown.blockGe)
      have e:xs.map lv++ys.map lv=(xs++ys).map lv:=by simp
      rw [e] at hown'
      have hl2:xs.length+m=(xs++ys).length:=by simp [hyl]
      exact own_of_row hown' (hown.1.append hy)
theorem val_zeros (k:Nat):val (List.replicate k 0)=0:=by
  induction k with
  | zero=>rfl
  | succ k ih=>rw [List.replicate_succ];simp [val,ih]
theorem val_behind (xs:List Nat) (k:Nat):val (xs++List.replicate k 0)=val xs:=by rw [val_append,val_zeros];simp
section
variable {w0 w : World} {l : List Ent} {v1 v2 : Value} {L1 L2 N1 N2 : Nat} {xs ys : List Nat}
end
theorem nums_txt {l:List Nat} (h:Okd l):nums (txt l)=l:=by
  unfold nums txt
  simp only [List.map_map]
  apply List.ext_getElem
  · simp
  · intro i h1 h2
    have hx:=h l[i] (List.getElem_mem h2)
    simp only [List.getElem_map,Function.comp_apply,UInt8.toNat_ofNat']
    omega
theorem txt_append (l m:List Nat):txt l++txt m=txt (l++m):=by
  apply ByteArray.ext
  simp [txt,ByteArray.data_append]
theorem zeros_ok (k:Nat):Okd (List.replicate k 48):=by
  intro x hx;rw [List.mem_replicate] at hx;omega
theorem Okd.append {l m:List Nat} (h:Okd l) (k:Okd m):Okd (l++m):=by
  intro y hy;rcases List.mem_append.1 hy with hy | hy
  · exact h y hy
  · exact k y hy
theorem hval_zeros (k:Nat):hval (List.replicate k 48)=0:=by
  induction k with
  | zero=>rfl
  | succ k ih=>rw [List.replicate_succ',hval_snoc,ih]
theorem hval_dec (N:Nat):hval (dec N)=N:=dval_dec N
theorem ten_le (n:Nat):tenN n≤B32 ^ n:=Nat.pow_le_pow_left (by decide) n
theorem parse_c {w0 w:World} {l:List Ent} (h:Ctx w0 w l) {d:List Nat} (hd:Okd d) (h1:0<d.length) (M:Nat) (h2:d.length≤M) (hM:M≤2000) (N:Nat) (hN:hval d=N) :
    Calls Tryz.prog 158 #[.string (txt d)] w fun e w'=>∃ v,e=.returned (.tuple #[v,.bool true])∧Ctx w0 w' (⟨v,M,N,limbs N⟩::l):=by
  refine (parse_any (txt d) w).mono ?_
  rw [nums_txt hd]
  rintro e w' ⟨⟨_,_,_,v,rfl,ho⟩ | ⟨hno,_⟩,hb⟩
  · subst hN
    exact ⟨v,rfl,(h.step hb).push (ent_own ho (limbs_length_le (Nat.lt_of_lt_of_le (hval_lt hd) (Nat.le_trans (ten_le _) (Nat.pow_le_pow_right (by decide) h2)))))⟩
  · exact absurd ⟨h1,Nat.le_trans h2 hM,hd⟩ hno
theorem tenN_ne (n:Nat):tenN n ≠ 0:=Nat.pos_iff_ne_zero.1 (Nat.pow_pos (by decide))
end Go.Proofs.YtijaphbccnadbaaGreatDoor
