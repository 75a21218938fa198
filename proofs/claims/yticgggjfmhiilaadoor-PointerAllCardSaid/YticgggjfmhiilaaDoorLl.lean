/- Texts of the claim. -/
import Derived.Test.YticgggjfmhiilaaDoorLk
set_option linter.unusedVariables false
set_option linter.unusedSimpArgs false
set_option maxHeartbeats 4000000
set_option maxRecDepth 100000
namespace Go.Proofs.YticgggjfmhiilaaDoor
open Go.RowKit Go.Shelf Go.Lib
theorem bt_get8 (s:ByteArray) (k:Nat) (h:k<s.size):bt s.data.toList k=(s[k]'h).toNat:=by
  unfold bt;rw [← get!_list];rw [Utf8W.get!_of_lt s k h]
theorem and192a:∀ x:Fin 256,bits .and .u8 ((x.val:Nat):Int) 192=((x.val / 64*64:Nat):Int):=by decide
def contB (s:ByteArray) (k:Nat):Bool:=decide (k<s.size∧bt s.data.toList k / 64=2)
theorem cont_any (s:ByteArray) (k:Nat) (w:World) (hs:s.size≤maxLen) (hk:k≤maxLen) :
    Calls Tryd.prog 132 #[.string s,.int .i64 k] w fun e w'=>e=.returned (.bool (contB s k))∧w=w':=by
  unfold maxLen at hs hk
  by_cases h0:k<s.size
  · have h0z:(k:Int)<(s.size:Int):=by omega
    have hx:=and192a ⟨(s[k]'h0).toNat,(s[k]'h0).toNat_lt⟩
    simp only at hx
    have hc:contB s k=decide ((s[k]'h0).toNat / 64=2):=by
      unfold contB;rw [← bt_get8 s k h0];simp [h0]
    have HC:=Lib.hid hc
    clear hc
    generalize hX:(s[k]'h0)=x at *
    by_cases h2:x.toNat / 64=2
    · rw [h2] at hx
      have hC:=Lib.hid (show contB s k=true by rw [HC.out];exact decide_eq_true h2)
      clear HC h2
      go_enter Tryd.func132,Tryd.ntmps132
      go_wp2
      go_ret
      exact ⟨by rw [hC.out];rfl,rfl⟩
    · have hC:=Lib.hid (show contB s k=false by rw [HC.out];exact decide_eq_false h2)
      have hne:((x.toNat / 64*64:Nat):Int) ≠ 128:=by omega
      generalize x.toNat / 64*64=y at *
      have hneb:(((y:Nat):Int) == 128)=false:=by simpa using hne
      clear HC h2 hne
      go_enter Tryd.func132,Tryd.ntmps132
      go_wp2
      go_ret
      exact ⟨by rw [hC.out];rfl,rfl⟩
  · have h0z:¬ (k:Int)<(s.size:Int):=by omega
    have hC:=Lib.hid (show contB s k=false from decide_eq_false (by omega))
    go_enter Tryd.func132,Tryd.ntmps132
    go_wp2
    go_ret
    exact ⟨by rw [hC.out];rfl,rfl⟩
theorem and31:∀ x:Fin 256,bits .and .i32 ((x.val:Nat):Int) 31=((x.val:Nat):Int) % 32:=by decide
theorem and15:∀ x:Fin 256,bits .and .i32 ((x.val:Nat):Int) 15=((x.val:Nat):Int) % 16:=by decide
theorem and7i:∀ x:Fin 256,bits .and .i32 ((x.val:Nat):Int) 7=((x.val:Nat):Int) % 8:=by decide
def RunePost (r m:Int) (w:World) (e:Ending) (w':World):Prop:=e=.returned (.tuple #[.int .i32 r,.int .i64 m])∧∃ q,w'=w.drewN q
theorem refRune_one (s:ByteArray) (n:Nat) (w:World) (hs:s.size≤1000000) (hn:n<s.size) (x0:UInt8) (h0:s[n]'hn=x0) (hx:0≤x0.toNat∧x0.toNat<128) :
    Calls Tryd.prog 104 #[.string s,.int .i64 n] w (RunePost ((x0.toNat:Nat):Int) 1 w):=by
  have a1:¬ ((s.size:Int)≤(n:Int)):=by omega
  have a6:decide ((n:Int)<0)=false:=decide_eq_false (by omega)
  have l0:=x0.toNat_lt
  have e0:decide ((x0.toNat:Int)<128)=true:=decide_eq_true (by omega)
  have e1:decide ((194:Int)≤(x0.toNat:Int))=false:=decide_eq_false (by omega)
  have e2:decide ((x0.toNat:Int)<224)=true:=decide_eq_true (by omega)
  have e3:decide ((224:Int)≤(x0.toNat:Int))=false:=decide_eq_false (by omega)
  have e4:decide ((x0.toNat:Int)<240)=true:=decide_eq_true (by omega)
  have e5:decide ((240:Int)≤(x0.toNat:Int))=false:=decide_eq_false (by omega)
  have e6:decide ((x0.toNat:Int)<245)=true:=decide_eq_true (by omega)
  go_enter Tryd.func104,Tryd.ntmps104
  go_wp2
  go_ret2
  exact ⟨rfl,0,rfl⟩
theorem refRune_c (s:ByteArray) (n:Nat) (w:World) (hs:s.size≤1000000) (hn:n<s.size) (x0:UInt8) (h0:s[n]'hn=x0) (hx:128≤x0.toNat∧x0.toNat<194) :
    Calls Tryd.prog 104 #[.string s,.int .i64 n] w (RunePost (-1) 1 w):=by
  have a1:¬ ((s.size:Int)≤(n:Int)):=by omega
  have a6:decide ((n:Int)<0)=false:=decide_eq_false (by omega)
  have l0:=x0.toNat_lt
  have e0:decide ((x0.toNat:Int)<128)=false:=decide_eq_false (by omega)
  have e1:decide ((194:Int)≤(x0.toNat:Int))=false:=decide_eq_false (by omega)
  have e2:decide ((x0.toNat:Int)<224)=true:=decide_eq_true (by omega)
  have e3:decide ((224:Int)≤(x0.toNat:Int))=false:=decide_eq_false (by omega)
  have e4:decide ((x0.toNat:Int)<240)=true:=decide_eq_true (by omega)
  have e5:decide ((240:Int)≤(x0.toNat:Int))=false:=decide_eq_false (by omega)
  have e6:decide ((x0.toNat:Int)<245)=true:=decide_eq_true (by omega)
  go_enter Tryd.func104,Tryd.ntmps104
  go_wp2
  go_ret2
  exact ⟨rfl,0,rfl⟩
theorem refRune_z (s:ByteArray) (n:Nat) (w:World) (hs:s.size≤1000000) (hn:n<s.size) (x0:UInt8) (h0:s[n]'hn=x0) (hx:245≤x0.toNat∧x0.toNat<256) :
    Calls Tryd.prog 104 #[.string s,.int .i64 n] w (RunePost (-1) 1 w):=by
  have a1:¬ ((s.size:Int)≤(n:Int)):=by omega
  have a6:decide ((n:Int)<0)=false:=decide_eq_false (by omega)
  have l0:=x0.toNat_lt
  have e0:decide ((x0.toNat:Int)<128)=false:=decide_eq_false (by omega)
  have e1:decide ((194:Int)≤(x0.toNat:Int))=true:=decide_eq_true (by omega)
  have e2:decide ((x0.toNat:Int)<224)=false:=decide_eq_false (by omega)
  have e3:decide ((224:Int)≤(x0.toNat:Int))=true:=decide_eq_true (by omega)
  have e4:decide ((x0.toNat:Int)<240)=false:=decide_eq_false (by omega)
  have e5:decide ((240:Int)≤(x0.toNat:Int))=true:=decide_eq_true (by omega)
  have e6:decide ((x0.toNat:Int)<245)=false:=decide_eq_false (by omega)
  go_enter Tryd.func104,Tryd.ntmps104
  go_wp2
  go_ret2
  exact ⟨rfl,0,rfl⟩
theorem refRune_d0 (s:ByteArray) (n:Nat) (w:World) (hs:s.size≤1000000) (hn:n<s.size) (x0:UInt8) (h0:s[n]'hn=x0) (hx:194≤x0.toNat∧x0.toNat<224) (c1:contB s (n+1)=false) :
    Calls Tryd.prog 104 #[.string s,.int .i64 n] w (RunePost (-1) 1 w):=by
  have a1:¬ ((s.size:Int)≤(n:Int)):=by omega
  have a6:decide ((n:Int)<0)=false:=decide_eq_false (by omega)
  have l0:=x0.toNat_lt
  have K1:=Lib.hid (fun W=>cont_any s (n+1) W (by unfold maxLen;omega) (by unfold maxLen;omega))
  rw [c1] at K1
  clear c1
  have e0:decide ((x0.toNat:Int)<128)=false:=decide_eq_false (by omega)
  have e1:decide ((194:Int)≤(x0.toNat:Int))=true:=decide_eq_true (by omega)
  have e2:decide ((x0.toNat:Int)<224)=true:=decide_eq_true (by omega)
  have e3:decide ((224:Int)≤(x0.toNat:Int))=false:=decide_eq_false (by omega)
  have e4:decide ((x0.toNat:Int)<240)=true:=decide_eq_true (by omega)
  have e5:decide ((240:Int)≤(x0.toNat:Int))=false:=decide_eq_false (by omega)
  have e6:decide ((x0.toNat:Int)<245)=true:=decide_eq_true (by omega)
  go_enter Tryd.func104,Tryd.ntmps104
  go_wp2_with fail
  refine (K1.out _).mono ?_
  rintro r w' ⟨rfl,rfl⟩
  go_wp2
  go_ret2
  exact ⟨rfl,0,rfl⟩
theorem refRune_e0 (s:ByteArray) (n:Nat) (w:World) (hs:s.size≤1000000) (hn:n<s.size) (x0:UInt8) (h0:s[n]'hn=x0) (hx:224≤x0.toNat∧x0.toNat<240) (c1:contB s (n+1)=false) :
    Calls Tryd.prog 104 #[.string s,.int .i64 n] w (RunePost (-1) 1 w):=by
  have a1:¬ ((s.size:Int)≤(n:Int)):=by omega
  have a6:decide ((n:Int)<0)=false:=decide_eq_false (by omega)
  have l0:=x0.toNat_lt
  have K1:=Lib.hid (fun W=>cont_any s (n+1) W (by unfold maxLen;omega) (by unfold maxLen;omega))
  rw [c1] at K1
  clear c1
  have e0:decide ((x0.toNat:Int)<128)=false:=decide_eq_false (by omega)
  have e1:decide ((194:Int)≤(x0.toNat:Int))=true:=decide_eq_true (by omega)
  have e2:decide ((x0.toNat:Int)<224)=false:=decide_eq_false (by omega)
  have e3:decide ((224:Int)≤(x0.toNat:Int))=true:=decide_eq_true (by omega)
  have e4:decide ((x0.toNat:Int)<240)=true:=decide_eq_true (by omega)
  have e5:decide ((240:Int)≤(x0.toNat:Int))=false:=decide_eq_false (by omega)
  have e6:decide ((x0.toNat:Int)<245)=true:=decide_eq_true (by omega)
  go_enter Tryd.func104,Tryd.ntmps104
  go_wp2_with fail
  refine (K1.out _).mono ?_
  rintro r w' ⟨rfl,rfl⟩
  go_wp2
  go_ret2
  exact ⟨rfl,0,rfl⟩
theorem refRune_e1 (s:ByteArray) (n:Nat) (w:World) (hs:s.size≤1000000) (hn:n<s.size) (x0:UInt8) (h0:s[n]'hn=x0) (hx:224≤x0.toNat∧x0.toNat<240) (c1:contB s (n+1)=true) (c2:contB s (n+2)=false) :
    Calls Tryd.prog 104 #[.string s,.int .i64 n] w (RunePost (-1) 1 w):=by
  have a1:¬ ((s.size:Int)≤(n:Int)):=by omega
  have a6:decide ((n:Int)<0)=false:=decide_eq_false (by omega)
  have l0:=x0.toNat_lt
  have K1:=Lib.hid (fun W=>cont_any s (n+1) W (by unfold maxLen;omega) (by unfold maxLen;omega))
  rw [c1] at K1
  have K2:=Lib.hid (fun W=>cont_any s (n+2) W (by unfold maxLen;omega) (by unfold maxLen;omega))
  rw [c2] at K2
  clear c1 c2
  have e0:decide ((x0.toNat:Int)<128)=false:=decide_eq_false (by omega)
  have e1:decide ((194:Int)≤(x0.toNat:Int))=true:=decide_eq_true (by omega)
  have e2:decide ((x0.toNat:Int)<224)=false:=decide_eq_false (by omega)
  have e3:decide ((224:Int)≤(x0.toNat:Int))=true:=decide_eq_true (by omega)
  have e4:decide ((x0.toNat:Int)<240)=true:=decide_eq_true (by omega)
  have e5:decide ((240:Int)≤(x0.toNat:Int))=false:=decide_eq_false (by omega)
  have e6:decide ((x0.toNat:Int)<245)=true:=decide_eq_true (by omega)
  go_enter Tryd.func104,Tryd.ntmps104
  go_wp2_with fail
  refine (K1.out _).mono ?_
  rintro r w' ⟨rfl,rfl⟩
  go_wp2_with fail
  refine (K2.out _).mono ?_
  rintro r w' ⟨rfl,rfl⟩
  go_wp2
  go_ret2
  exact ⟨rfl,0,rfl⟩
theorem refRune_f0 (s:ByteArray) (n:Nat) (w:World) (hs:s.size≤1000000) (hn:n<s.size) (x0:UInt8) (h0:s[n]'hn=x0) (hx:240≤x0.toNat∧x0.toNat<245) (c1:contB s (n+1)=false) :
    Calls Tryd.prog 104 #[.string s,.int .i64 n] w (RunePost (-1) 1 w):=by
  have a1:¬ ((s.size:Int)≤(n:Int)):=by omega
  have a6:decide ((n:Int)<0)=false:=decide_eq_false (by omega)
  have l0:=x0.toNat_lt
  have K1:=Lib.hid (fun W=>cont_any s (n+1) W (by unfold maxLen;omega) (by unfold maxLen;omega))
  rw [c1] at K1
  clear c1
  have e0:decide ((x0.toNat:Int)<128)=false:=decide_eq_false (by omega)
  have e1:decide ((194:Int)≤(x0.toNat:Int))=true:=decide_eq_true (by omega)
  have e2:decide ((x0.toNat:Int)<224)=false:=decide_eq_false (by omega)
  have e3:decide ((224:Int)≤(x0.toNat:Int))=true:=decide_eq_true (by omega)
  have e4:decide ((x0.toNat:Int)<240)=false:=decide_eq_false (by omega)
  have e5:decide ((240:Int)≤(x0.toNat:Int))=true:=decide_eq_true (by omega)
  have e6:decide ((x0.toNat:Int)<245)=true:=decide_eq_true (by omega)
  go_enter Tryd.func104,Tryd.ntmps104
  go_wp2_with fail
  refine (K1.out _).mono ?_
  rintro r w' ⟨rfl,rfl⟩
  go_wp2
  go_ret2
  exact ⟨rfl,0,rfl⟩
theorem refRune_f1 (s:ByteArray) (n:Nat) (w:World) (hs:s.size≤1000000) (hn:n<s.size) (x0:UInt8) (h0:s[n]'hn=x0) (hx:240≤x0.toNat∧x0.toNat<245) (c1:contB s (n+1)=true) (c2:contB s (n+2)=false) :
    Calls Tryd.prog 104 #[.string s,.int .i64 n] w (RunePost (-1) 1 w):=by
  have a1:¬ ((s.size:Int)≤(n:Int)):=by omega
  have a6:decide ((n:Int)<0)=false:=decide_eq_false (by omega)
  have l0:=x0.toNat_lt
  have K1:=Lib.hid (fun W=>cont_any s (n+1) W (by unfold maxLen;omega) (by unfold maxLen;omega))
  rw [c1] at K1
  have K2:=Lib.hid (fun W=>cont_any s (n+2) W (by unfold maxLen;omega) (by unfold maxLen;omega))
  rw [c2] at K2
  clear c1 c2
  have e0:decide ((x0.toNat:Int)<128)=false:=decide_eq_false (by omega)
  have e1:decide ((194:Int)≤(x0.toNat:Int))=true:=decide_eq_true (by omega)
  have e2:decide ((x0.toNat:Int)<224)=false:=decide_eq_false (by omega)
  have e3:decide ((224:Int)≤(x0.toNat:Int))=true:=decide_eq_true (by omega)
  have e4:decide ((x0.toNat:Int)<240)=false:=decide_eq_false (by omega)
  have e5:decide ((240:Int)≤(x0.toNat:Int))=true:=decide_eq_true (by omega)
  have e6:decide ((x0.toNat:Int)<245)=true:=decide_eq_true (by omega)
  go_enter Tryd.func104,Tryd.ntmps104
  go_wp2_with fail
  refine (K1.out _).mono ?_
  rintro r w' ⟨rfl,rfl⟩
  go_wp2_with fail
  refine (K2.out _).mono ?_
  rintro r w' ⟨rfl,rfl⟩
  go_wp2
  go_ret2
  exact ⟨rfl,0,rfl⟩
theorem refRune_f2 (s:ByteArray) (n:Nat) (w:World) (hs:s.size≤1000000) (hn:n<s.size) (x0:UInt8) (h0:s[n]'hn=x0) (hx:240≤x0.toNat∧x0.toNat<245) (c1:contB s (n+1)=true) (c2:contB s (n+2)=true) (c3:contB s (n+3)=false) :
    Calls Tryd.prog 104 #[.string s,.int .i64 n] w (RunePost (-1) 1 w):=by
  have a1:¬ ((s.size:Int)≤(n:Int)):=by omega
  have a6:decide ((n:Int)<0)=false:=decide_eq_false (by omega)
  have l0:=x0.toNat_lt
  have K1:=Lib.hid (fun W=>cont_any s (n+1) W (by unfold maxLen;omega) (by unfold maxLen;omega))
  rw [c1] at K1
  have K2:=Lib.hid (fun W=>cont_any s (n+2) W (by unfold maxLen;omega) (by unfold maxLen;omega))
  rw [c2] at K2
  have K3:=Lib.hid (fun W=>cont_any s (n+3) W (by unfold maxLen;omega) (by unfold maxLen;omega))
  rw [c3] at K3
  clear c1 c2 c3
  have e0:decide ((x0.toNat:Int)<128)=false:=decide_eq_false (by omega)
  have e1:decide ((194:Int)≤(x0.toNat:Int))=true:=decide_eq_true (by omega)
  have e2:decide ((x0.toNat:Int)<224)=false:=decide_eq_false (by omega)
  have e3:decide ((224:Int)≤(x0.toNat:Int))=true:=decide_eq_true (by omega)
  have e4:decide ((x0.toNat:Int)<240)=false:=decide_eq_false (by omega)
  have e5:decide ((240:Int)≤(x0.toNat:Int))=true:=decide_eq_true (by omega)
  have e6:decide ((x0.toNat:Int)<245)=true:=decide_eq_true (by omega)
  go_enter Tryd.func104,Tryd.ntmps104
  go_wp2_with fail
  refine (K1.out _).mono ?_
  rintro r w' ⟨rfl,rfl⟩
  go_wp2_with fail
  refine (K2.out _).mono ?_
  rintro r w' ⟨rfl,rfl⟩
  go_wp2_with fail
  refine (K3.out _).mono ?_
  rintro r w' ⟨rfl,rfl⟩
  go_wp2
  go_ret2
  exact ⟨rfl,0,rfl⟩
theorem refRune_d1 (s:ByteArray) (n:Nat) (w:World) (hs:s.size≤1000000) (hn:n<s.size) (x0 x1:UInt8) (h0:s[n]'hn=x0) (hx:194≤x0.toNat∧x0.toNat<224) (c1:contB s (n+1)=true) (hn1:n+1<s.size) (h1:s[n+1]'hn1=x1) :
    Calls Tryd.prog 104 #[.string s,.int .i64 n] w (RunePost ((x0.toNat % 32*64+x1.toNat % 64:Nat):Int) 2 w):=by
  have a1:¬ ((s.size:Int)≤(n:Int)):=by omega
  have a6:decide ((n:Int)<0)=false:=decide_eq_false (by omega)
  have l0:=x0.toNat_lt
  have K1:=Lib.hid (fun W=>cont_any s (n+1) W (by unfold maxLen;omega) (by unfold maxLen;omega))
  rw [c1] at K1
  clear c1
  have e0:decide ((x0.toNat:Int)<128)=false:=decide_eq_false (by omega)
  have e1:decide ((194:Int)≤(x0.toNat:Int))=true:=decide_eq_true (by omega)
  have e2:decide ((x0.toNat:Int)<224)=true:=decide_eq_true (by omega)
  have e3:decide ((224:Int)≤(x0.toNat:Int))=false:=decide_eq_false (by omega)
  have e4:decide ((x0.toNat:Int)<240)=true:=decide_eq_true (by omega)
  have e5:decide ((240:Int)≤(x0.toNat:Int))=false:=decide_eq_false (by omega)
  have e6:decide ((x0.toNat:Int)<245)=true:=decide_eq_true (by omega)
  have l1:=x1.toNat_lt
  have z1:(n:Int)+1<(s.size:Int):=by omega
  have t1:((n:Int)+1).toNat=n+1:=by omega
  have m0:=and31 ⟨x0.toNat,l0⟩
  simp only at m0
  go_enter Tryd.func104,Tryd.ntmps104
  go_wp2_with fail
  refine (K1.out _).mono ?_
  rintro r w' ⟨rfl,rfl⟩
  go_wp2
  go_ret2
  exact ⟨rfl,0,rfl⟩
theorem ret_two {a b c d:Int} (h1:a=c) (h2:b=d):Ending.returned (.tuple #[.int .i32 a,.int .i64 b])=.returned (.tuple #[.int .i32 c,.int .i64 d]):=by rw [h1,h2]
def r3 (c:Nat):Int:=if 2048≤c∧(c<55296∨57343<c) then c else -1
def m3 (c:Nat):Int:=if 2048≤c∧(c<55296∨57343<c) then 3 else 1
def r4 (c:Nat):Int:=if 65536≤c∧c≤1114111 then c else -1
def m4 (c:Nat):Int:=if 65536≤c∧c≤1114111 then 4 else 1
theorem r3_yes {c:Nat} {z:Int} (hz:z=c) (h:2048≤c∧(c<55296∨57343<c)):z=r3 c:=by unfold r3;rw [if_pos h,hz]
theorem r3_no {c:Nat} (h:¬ (2048≤c∧(c<55296∨57343<c))):-1=r3 c:=by unfold r3;rw [if_neg h]
theorem m3_yes {c:Nat} (h:2048≤c∧(c<55296∨57343<c)):3=m3 c:=by unfold m3;rw [if_pos h]
theorem m3_no {c:Nat} (h:¬ (2048≤c∧(c<55296∨57343<c))):1=m3 c:=by unfold m3;rw [if_neg h]
theorem r4_yes {c:Nat} {z:Int} (hz:z=c) (h:65536≤c∧c≤1114111):z=r4 c:=by unfold r4;rw [if_pos h,hz]
theorem r4_no {c:Nat} (h:¬ (65536≤c∧c≤1114111)):-1=r4 c:=by unfold r4;rw [if_neg h]
theorem m4_yes {c:Nat} (h:65536≤c∧c≤1114111):4=m4 c:=by unfold m4;rw [if_pos h]
theorem m4_no {c:Nat} (h:¬ (65536≤c∧c≤1114111)):1=m4 c:=by unfold m4;rw [if_neg h]
theorem refRune_e2 (s:ByteArray) (n:Nat) (w:World) (hs:s.size≤1000000) (hn:n<s.size) (x0 x1 x2:UInt8) (h0:s[n]'hn=x0) (hx:224≤x0.toNat∧x0.toNat<240) (c1:contB s (n+1)=true) (c2:contB s (n+2)=true) (hn1:n+1<s.size) (h1:s[n+1]'hn1=x1) (hn2:n+2<s.size) (h2:s[n+2]'hn2=x2) :
    Calls Tryd.prog 104 #[.string s,.int .i64 n] w (RunePost (r3 (x0.toNat % 16*4096+x1.toNat % 64*64+x2.toNat % 64)) (m3 (x0.toNat % 16*4096+x1.toNat % 64*64+x2.toNat % 64)) w):=by
  have a1:¬ ((s.size:Int)≤(n:Int)):=by omega
  have a6:decide ((n:Int)<0)=false:=decide_eq_false (by omega)
  have l0:=x0.toNat_lt
  have l1:=x1.toNat_lt
  have z1:(n:Int)+1<(s.size:Int):=by omega
  have t1:((n:Int)+1).toNat=n+1:=by omega
  have w1:IntKind.i64.wrap ((n:Int)+1)=(n:Int)+1:=IntWalk.i64_in _ (by omega)
  have p1:0≤(n:Int)+1:=by omega
  have K1:=Lib.hid (fun W=>cont_any s (n+1) W (by unfold maxLen;omega) (by unfold maxLen;omega))
  rw [c1] at K1
  have l2:=x2.toNat_lt
  have z2:(n:Int)+2<(s.size:Int):=by omega
  have t2:((n:Int)+2).toNat=n+2:=by omega
  have w2:IntKind.i64.wrap ((n:Int)+2)=(n:Int)+2:=IntWalk.i64_in _ (by omega)
  have p2:0≤(n:Int)+2:=by omega
  have K2:=Lib.hid (fun W=>cont_any s (n+2) W (by unfold maxLen;omega) (by unfold maxLen;omega))
  rw [c2] at K2
  have e0:decide ((x0.toNat:Int)<128)=false:=decide_eq_false (by omega)
  have e1:decide ((194:Int)≤(x0.toNat:Int))=true:=decide_eq_true (by omega)
  have e2:decide ((x0.toNat:Int)<224)=false:=decide_eq_false (by omega)
  have e3:decide ((224:Int)≤(x0.toNat:Int))=true:=decide_eq_true (by omega)
  have e4:decide ((x0.toNat:Int)<240)=true:=decide_eq_true (by omega)
  have e5:decide ((240:Int)≤(x0.toNat:Int))=false:=decide_eq_false (by omega)
  have e6:decide ((x0.toNat:Int)<245)=true:=decide_eq_true (by omega)
  have m0:=and15 ⟨x0.toNat,l0⟩
  simp only at m0
  clear c1 c2
  go_enter Tryd.func104,Tryd.ntmps104
  go_wp2_with fail
  refine (K1.out _).mono ?_
  rintro r w' ⟨rfl,rfl⟩
  go_wp2_with fail
  refine (K2.out _).mono ?_
  rintro r w' ⟨rfl,rfl⟩
  go_wp2_with fail
  go_quiet (fail)
  go_wp2_with fail
  all_goals
    go_ret2
    first
      | exact ⟨ret_two (r3_yes (by omega) (by omega)) (m3_yes (by omega)),_,rfl⟩
      | exact ⟨ret_two (r3_no (by omega)) (m3_no (by omega)),_,rfl⟩
theorem refRune_f3 (s:ByteArray) (n:Nat) (w:World) (hs:s.size≤1000000) (hn:n<s.size) (x0 x1 x2 x3:UInt8) (h0:s[n]'hn=x0) (hx:240≤x0.toNat∧x0.toNat<245) (c1:contB s (n+1)=true) (c2:contB s (n+2)=true) (c3:contB s (n+3)=true) (hn1:n+1<s.size) (h1:s[n+1]'hn1=x1) (hn2:n+2<s.size) (h2:s[n+2]'hn2=x2) (hn3:n+3<s.size) (h3:s[n+3]'hn3=x3) :
    Calls Tryd.prog 104 #[.string s,.int .i64 n] w (RunePost (r4 (x0.toNat % 8*262144+x1.toNat % 64*4096+x2.toNat % 64*64+x3.toNat % 64)) (m4 (x0.toNat % 8*262144+x1.toNat % 64*4096+x2.toNat % 64*64+x3.toNat % 64)) w):=by
  have a1:¬ ((s.size:Int)≤(n:Int)):=by omega
  have a6:decide ((n:Int)<0)=false:=decide_eq_false (by omega)
  have l0:=x0.toNat_lt
  have l1:=x1.toNat_lt
  have z1:(n:Int)+1<(s.size:Int):=by omega
  have t1:((n:Int)+1).toNat=n+1:=by omega
  have w1:IntKind.i64.wrap ((n:Int)+1)=(n:Int)+1:=IntWalk.i64_in _ (by omega)
  have p1:0≤(n:Int)+1:=by omega
  have K1:=Lib.hid (fun W=>cont_any s (n+1) W (by unfold maxLen;omega) (by unfold maxLen;omega))
  rw [c1] at K1
  have l2:=x2.toNat_lt
  have z2:(n:Int)+2<(s.size:Int):=by omega
  have t2:((n:Int)+2).toNat=n+2:=by omega
  have w2:IntKind.i64.wrap ((n:Int)+2)=(n:Int)+2:=IntWalk.i64_in _ (by omega)
  have p2:0≤(n:Int)+2:=by omega
  have K2:=Lib.hid (fun W=>cont_any s (n+2) W (by unfold maxLen;omega) (by unfold maxLen;omega))
  rw [c2] at K2
  have l3:=x3.toNat_lt
  have z3:(n:Int)+3<(s.size:Int):=by omega
  have t3:((n:Int)+3).toNat=n+3:=by omega
  have w3:IntKind.i64.wrap ((n:Int)+3)=(n:Int)+3:=IntWalk.i64_in _ (by omega)
  have p3:0≤(n:Int)+3:=by omega
  have K3:=Lib.hid (fun W=>cont_any s (n+3) W (by unfold maxLen;omega) (by unfold maxLen;omega))
  rw [c3] at K3
  have e0:decide ((x0.toNat:Int)<128)=false:=decide_eq_false (by omega)
  have e1:decide ((194:Int)≤(x0.toNat:Int))=true:=decide_eq_true (by omega)
  have e2:decide ((x0.toNat:Int)<224)=false:=decide_eq_false (by omega)
  have e3:decide ((224:Int)≤(x0.toNat:Int))=true:=decide_eq_true (by omega)
  have e4:decide ((x0.toNat:Int)<240)=false:=decide_eq_false (by omega)
  have e5:decide ((240:Int)≤(x0.toNat:Int))=true:=decide_eq_true (by omega)
  have e6:decide ((x0.toNat:Int)<245)=true:=decide_eq_true (by omega)
  have m0:=and7i ⟨x0.toNat,l0⟩
  simp only at m0
  clear c1 c2 c3
  go_enter Tryd.func104,Tryd.ntmps104
  go_wp2_with fail
  refine (K1.out _).mono ?_
  rintro r w' ⟨rfl,rfl⟩
  go_wp2_with fail
  refine (K2.out _).mono ?_
  rintro r w' ⟨rfl,rfl⟩
  go_wp2_with fail
  refine (K3.out _).mono ?_
  rintro r w' ⟨rfl,rfl⟩
  go_wp2_with fail
  go_quiet (fail)
  go_wp2_with fail
  all_goals
    go_ret2
    first
      | exact ⟨ret_two (r4_yes (by omega) (by omega)) (m4_yes (by omega)),_,rfl⟩
      | exact ⟨ret_two (r4_no (by omega)) (m4_no (by omega)),_,rfl⟩
def runeN (m b0 b1 b2 b3:Nat):Int × Nat:=if decodeN m b0 b1 b2 b3=(65533,1) then (-1,1) else (((decodeN m b0 b1 b2 b3).1:Int),(decodeN m b0 b1 b2 b3).2)
theorem runeL_N (l:List UInt8):runeL l=runeN l.length (bt l 0) (bt l 1) (bt l 2) (bt l 3):=rfl
theorem rN_bad {m b0 b1 b2 b3:Nat} (h:decodeN m b0 b1 b2 b3=(65533,1)):runeN m b0 b1 b2 b3=(-1,1):=by unfold runeN;rw [if_pos h]
theorem rN_ok {m b0 b1 b2 b3 c k:Nat} (h:decodeN m b0 b1 b2 b3=(c,k)) (hk:k ≠ 1∨c<128):runeN m b0 b1 b2 b3=((c:Int),k):=by
  unfold runeN;rw [h,if_neg]
  intro e
  have e1:=congrArg Prod.fst e
  have e2:=congrArg Prod.snd e
  simp at e1 e2;omega
theorem rN_one {m b0 b1 b2 b3:Nat} (h:b0<128):runeN m b0 b1 b2 b3=((b0:Int),1):=by
  refine rN_ok ?_ (.inr h);unfold decodeN;rw [if_pos h]
theorem rN_none {m b0 b1 b2 b3:Nat} (h:(128≤b0∧b0<194)∨245≤b0) (hb:b0<256):runeN m b0 b1 b2 b3=(-1,1):=by
  refine rN_bad ?_
  unfold decodeN
  repeat' split
  all_goals first | rfl | (exfalso;omega)
theorem rN_d0 {m b0 b1 b2 b3:Nat} (h:194≤b0∧b0<224) (c1:¬ (1<m∧b1 / 64=2)):runeN m b0 b1 b2 b3=(-1,1):=by
  refine rN_bad ?_
  unfold decodeN
  rw [if_neg (by omega),if_neg (by rintro ⟨_,h⟩;exact c1 h),if_neg (by omega),if_neg (by omega)]
theorem rN_d1 {m b0 b1 b2 b3:Nat} (h:194≤b0∧b0<224) (c1:1<m∧b1 / 64=2):runeN m b0 b1 b2 b3=(((b0 % 32*64+b1 % 64:Nat):Int),2):=by
  refine rN_ok ?_ (.inl (by omega))
  unfold decodeN
  rw [if_neg (by omega),if_pos ⟨by omega,c1⟩,if_pos (by omega)]
theorem rN_e0 {m b0 b1 b2 b3:Nat} (h:224≤b0∧b0<240) (c:¬ ((1<m∧b1 / 64=2)∧(2<m∧b2 / 64=2))):runeN m b0 b1 b2 b3=(-1,1):=by
  refine rN_bad ?_
  unfold decodeN
  rw [if_neg (by omega),if_neg (by omega),if_neg (by rintro ⟨_,h⟩;exact c h),if_neg (by omega)]
theorem rN_e2 {m b0 b1 b2 b3:Nat} (h:224≤b0∧b0<240) (c1:1<m∧b1 / 64=2) (c2:2<m∧b2 / 64=2) :
    (runeN m b0 b1 b2 b3).1=r3 (b0 % 16*4096+b1 % 64*64+b2 % 64)∧((runeN m b0 b1 b2 b3).2:Int)=m3 (b0 % 16*4096+b1 % 64*64+b2 % 64):=by
  by_cases hc:2048≤b0 % 16*4096+b1 % 64*64+b2 % 64∧(b0 % 16*4096+b1 % 64*64+b2 % 64<55296∨57343<b0 % 16*4096+b1 % 64*64+b2 % 64)
  · have e:decodeN m b0 b1 b2 b3=(b0 % 16*4096+b1 % 64*64+b2 % 64,3):=by
      unfold decodeN
      rw [if_neg (by omega),if_neg (by omega),if_pos ⟨by omega,c1,c2⟩,if_pos (by omega)]
    rw [rN_ok e (.inl (by omega))]
    exact ⟨r3_yes rfl hc,m3_yes hc⟩
  · have e:decodeN m b0 b1 b2 b3=(65533,1):=by
      unfold decodeN
      rw [if_neg (by omega),if_neg (by omega),if_pos ⟨by omega,c1,c2⟩,if_neg (by omega)]
    rw [rN_bad e]
    exact ⟨r3_no hc,m3_no hc⟩
theorem rN_f0 {m b0 b1 b2 b3:Nat} (h:240≤b0∧b0<245) (c:¬ ((1<m∧b1 / 64=2)∧(2<m∧b2 / 64=2)∧(3<m∧b3 / 64=2))):runeN m b0 b1 b2 b3=(-1,1):=by
  refine rN_bad ?_
  unfold decodeN
  rw [if_neg (by omega),if_neg (by omega),if_neg (by omega),if_neg (by rintro ⟨_,h⟩;exact c h)]
theorem rN_f3 {m b0 b1 b2 b3:Nat} (h:240≤b0∧b0<245) (c1:1<m∧b1 / 64=2) (c2:2<m∧b2 / 64=2) (c3:3<m∧b3 / 64=2) :
    (runeN m b0 b1 b2 b3).1=r4 (b0 % 8*262144+b1 % 64*4096+b2 % 64*64+b3 % 64)∧((runeN m b0 b1 b2 b3).2:Int)=m4 (b0 % 8*262144+b1 % 64*4096+b2 % 64*64+b3 % 64):=by
  by_cases hc:65536≤b0 % 8*262144+b1 % 64*4096+b2 % 64*64+b3 % 64∧b0 % 8*262144+b1 % 64*4096+b2 % 64*64+b3 % 64≤1114111
  · have e:decodeN m b0 b1 b2 b3=(b0 % 8*262144+b1 % 64*4096+b2 % 64*64+b3 % 64,4):=by
      unfold decodeN
      rw [if_neg (by omega),if_neg (by omega),if_neg (by omega),if_pos ⟨by omega,c1,c2,c3⟩,if_pos (by omega)]
    rw [rN_ok e (.inl (by omega))]
    exact ⟨r4_yes rfl hc,m4_yes hc⟩
  · have e:decodeN m b0 b1 b2 b3=(65533,1):=by
      unfold decodeN
      rw [if_neg (by omega),if_neg (by omega),if_neg (by omega),if_pos ⟨by omega,c1,c2,c3⟩,if_neg (by omega)]
    rw [rN_bad e]
    exact ⟨r4_no hc,m4_no hc⟩
theorem RunePost.below {r m:Int} {w:World} {e:Ending} {w':World} (h:RunePost r m w e w'):e=.returned (.tuple #[.int .i32 r,.int .i64 m])∧Below w.heap.size w w':=by
  obtain ⟨he,q,rfl⟩:=h
  exact ⟨he,(Below.refl _ _).trans ⟨rfl,rfl,rfl,Nat.le_refl _,fun _ _=>rfl⟩⟩
theorem cont_yes {s:ByteArray} {k:Nat} (h:k<s.size∧bt s.data.toList k / 64=2):contB s k=true:=decide_eq_true h
theorem cont_no {s:ByteArray} {k:Nat} (h:¬ (k<s.size∧bt s.data.toList k / 64=2)):contB s k=false:=decide_eq_false h
theorem refRune_in (s:ByteArray) (n:Nat) (w:World) (hs:s.size≤1000000) (hn:n<s.size) :
    Calls Tryd.prog 104 #[.string s,.int .i64 n] w (RunePost (runeL (tailL s n)).1 ((runeL (tailL s n)).2:Int) w):=by
  have e0:bt (tailL s n) 0=(s[n]'hn).toNat:=by unfold tailL;rw [bt_drop,Nat.add_zero];exact bt_get8 s n hn
  have ek:∀ k,bt (tailL s n) k=bt s.data.toList (n+k):=fun k=>by unfold tailL;rw [bt_drop]
  have hl:=tailL_length s n
  rw [runeL_N,e0,ek 1,ek 2,ek 3,hl]
  have hx:=(s[n]'hn).toNat_lt
  have hc:∀ k,(k<s.size - n∧bt s.data.toList (n+k) / 64=2) ↔ (n+k<s.size∧bt s.data.toList (n+k) / 64=2):=fun k=>by constructor <;> rintro ⟨h1,h2⟩ <;> exact ⟨by omega,h2⟩
  have b0:=(s[n]'hn).toNat
  by_cases r0:(s[n]'hn).toNat<128
  · rw [rN_one r0]
    exact refRune_one s n w hs hn _ rfl ⟨by omega,r0⟩
  · by_cases r1:(s[n]'hn).toNat<194
    · rw [rN_none (.inl ⟨by omega,r1⟩) hx]
      exact refRune_c s n w hs hn _ rfl ⟨by omega,r1⟩
    · by_cases r2:(s[n]'hn).toNat<224
      · by_cases c1:n+1<s.size∧bt s.data.toList (n+1) / 64=2
        · rw [rN_d1 ⟨by omega,r2⟩ ((hc 1).2 c1),bt_get8 s (n+1) c1.1]
          exact refRune_d1 s n w hs hn _ _ rfl ⟨by omega,r2⟩ (cont_yes c1) c1.1 rfl
        · rw [rN_d0 ⟨by omega,r2⟩ (fun h=>c1 ((hc 1).1 h))]
          exact refRune_d0 s n w hs hn _ rfl ⟨by omega,r2⟩ (cont_no c1)
      · by_cases r3:(s[n]'hn).toNat<240
        · by_cases c1:n+1<s.size∧bt s.data.toList (n+1) / 64=2
          · by_cases c2:n+2<s.size∧bt s.data.toList (n+2) / 64=2
            · obtain ⟨p1,p2⟩:=rN_e2 (b3:=bt s.data.toList (n+3)) (show 224≤(s[n]'hn).toNat∧(s[n]'hn).toNat<240 from ⟨by omega,r3⟩) ((hc 1).2 c1) ((hc 2).2 c2)
              rw [p1,p2,bt_get8 s (n+1) c1.1,bt_get8 s (n+2) c2.1]
              exact refRune_e2 s n w hs hn _ _ _ rfl ⟨by omega,r3⟩ (cont_yes c1) (cont_yes c2) c1.1 rfl c2.1 rfl
            · rw [rN_e0 ⟨by omega,r3⟩ (fun h=>c2 ((hc 2).1 h.2))]
              exact refRune_e1 s n w hs hn _ rfl ⟨by omega,r3⟩ (cont_yes c1) (cont_no c2)
          · rw [rN_e0 ⟨by omega,r3⟩ (fun h=>c1 ((hc 1).1 h.1))]
            exact refRune_e0 s n w hs hn _ rfl ⟨by omega,r3⟩ (cont_no c1)
        · by_cases r4:(s[n]'hn).toNat<245
          · by_cases c1:n+1<s.size∧bt s.data.toList (n+1) / 64=2
            · by_cases c2:n+2<s.size∧bt s.data.toList (n+2) / 64=2
              · by_cases c3:n+3<s.size∧bt s.data.toList (n+3) / 64=2
                · obtain ⟨p1,p2⟩:=rN_f3 (show 240≤(s[n]'hn).toNat∧(s[n]'hn).toNat<245 from ⟨by omega,r4⟩) ((hc 1).2 c1) ((hc 2).2 c2) ((hc 3).2 c3)
                  rw [p1,p2,bt_get8 s (n+1) c1.1,bt_get8 s (n+2) c2.1,bt_get8 s (n+3) c3.1]
                  exact refRune_f3 s n w hs hn _ _ _ _ rfl ⟨by omega,r4⟩ (cont_yes c1) (cont_yes c2) (cont_yes c3) c1.1 rfl c2.1 rfl c3.1 rfl
                · rw [rN_f0 ⟨by omega,r4⟩ (fun h=>c3 ((hc 3).1 h.2.2))]
                  exact refRune_f2 s n w hs hn _ rfl ⟨by omega,r4⟩ (cont_yes c1) (cont_yes c2) (cont_no c3)
              · rw [rN_f0 ⟨by omega,r4⟩ (fun h=>c2 ((hc 2).1 h.2.1))]
                exact refRune_f1 s n w hs hn _ rfl ⟨by omega,r4⟩ (cont_yes c1) (cont_no c2)
            · rw [rN_f0 ⟨by omega,r4⟩ (fun h=>c1 ((hc 1).1 h.1))]
              exact refRune_f0 s n w hs hn _ rfl ⟨by omega,r4⟩ (cont_no c1)
          · rw [rN_none (.inr (by omega)) hx]
            exact refRune_z s n w hs hn _ rfl ⟨by omega,by omega⟩

def QR (s:ByteArray) (B:Nat) (w:World) (k:Nat) (v a:Value) (wr:World):Prop :=
  ∃ pos acc,s.size - pos≤k∧a=.int .i64 ((pos:Nat):Int)∧acc++runesL (tailL s pos)=runesL s.data.toList∧acc.length≤pos∧pos≤s.size∧wr.ownsRow B 21 1 v acc.length (rv acc)∧Below B w wr
theorem QR.step {s:ByteArray} {B:Nat} {w wr w':World} {k pos:Nat} {acc:List Int} {v v':Value} {o:Obj} (hp:pos<s.size) (hk:s.size - pos≤k+1) (ha:acc++runesL (tailL s pos)=runesL s.data.toList) (hl:acc.length≤pos)
    (ho:wr.ownsRow B 21 1 v acc.length (rv acc)) (hb:Below B w wr) (hB:B≤wr.heap.size)
    (h1:w'.ownsRow B 21 1 v' (acc.length+1) (rv acc++[.int .i32 (runeL (tailL s pos)).1])) (h2:(wr.alloc o).grownBy w' v.ownBlock):QR s B w k v' (.int .i64 ((pos+(runeL (tailL s pos)).2:Nat):Int)) w':=by
  have hw:=runeL_width (tailL s pos) (tailL_ne hp)
  rw [tailL_length] at hw
  refine ⟨pos+(runeL (tailL s pos)).2,acc++[(runeL (tailL s pos)).1],by omega,rfl,?_,by simp;omega,by omega,?_,?_⟩
  · rw [← ha,runesL_cons (tailL_ne hp),tailL_drop];simp
  · simpa [rv] using h1
  · exact (hb.alloc hB o).grown h2 (by simp;omega) (fun g hg=>(ho.lt g hg).1)
theorem refRunes_any (s:ByteArray) (w:World) (hs:s.size≤1000000) :
    Calls Tryd.prog 74 #[.string s] w (RunesPost (runesL s.data.toList) w):=by
  have hst:QR s w.heap.size w s.size (.slice none 0 0) (.int .i64 0) w :=
    ⟨0,[],by omega,rfl,by rw [tailL_zero];rfl,Nat.le_refl _,Nat.zero_le _,World.ownsRow_nil _ _ _ _,Below.refl _ _⟩
  have HST:=Lib.hid hst;clear hst
  have HUN:=Lib.hid (fun W (h:Below w.heap.size w W)=>h.size)
  generalize hB:w.heap.size=B at *
  have HB:=Lib.hid hB;clear hB
  go_enter Tryd.func74,Tryd.ntmps74
  go_wp2
  go_loopg [3,4] s.size (fun k v a wr=>QR s B w k v a wr)
  case atStart=>exact HST.out
  case round =>
    obtain ⟨pos,acc,hk,rfl,ha,hl,hps,ho,hb⟩:=hrel
    have HA:=Lib.hid ha;have HO:=Lib.hid ho;have HBL:=Lib.hid hb
    clear ha ho hb
    by_cases hp:pos<s.size
    · obtain ⟨k,rfl⟩:∃ k,gk=k+1:=⟨gk - 1,by omega⟩
      have hw:=runeL_width (tailL s pos) (tailL_ne hp)
      rw [tailL_length] at hw
      have KR:=Lib.hid ((refRune_in s pos wr hs hp).mono fun _ _ h=>h.below)
      have hpz:(pos:Int)<(s.size:Int):=by omega
      have HS:=Lib.hid (fun W o v' W' p1 p2 p3=>QR.step (s:=s) (B:=B) (w:=w) (wr:=W) (k:=k) (v:=u3) (v':=v') (o:=o) (w':=W') hp hk HA.out hl p1 p2 (HUN.out W p2) p3)
      generalize hd:(runeL (tailL s pos)).1=x at *
      generalize hm:(runeL (tailL s pos)).2=m at *
      clear hd hm
      go_wp2_with fail
      refine KR.out.mono ?_
      rintro r w1 ⟨rfl,h1⟩
      have ho1:=Lib.hid (own_below HO.out h1)
      have hb1:=Lib.hid (HBL.out.trans (h1.mono (HUN.out _ HBL.out)))
      clear h1
      go_wp2_with (at_builtin;refine wpl_app _ rfl _ _ rfl B _ acc.length (rv acc) rfl (ho1.out.alloc _) w1.heap.size x rfl (by simp) (by omega) (by have:=HUN.out _ hb1.out;simp;omega) ?_)
      intro v' w4 ho4 hg4
      have hr1:=HS.out w1 _ v' w4 ho1.out hb1.out ho4 hg4
      rw [Int.natCast_add] at hr1
      have HR:=Lib.hid hr1;clear hr1
      clear ho4 hg4
      go_wp2
      go_roundg k
      case rel=>exact HR.out
      case measure=>omega
    · have hpz:¬ (pos:Int)<(s.size:Int):=by omega
      have hac:acc=runesL s.data.toList:=by rw [← HA.out,tailL_end (by omega),runesL_nil,List.append_nil]
      have HR:=Lib.hid (show RunesPost (runesL s.data.toList) w (.returned u3) wr from ⟨_,rfl,by rw [HB.out,← hac];exact HO.out,by rw [HB.out];exact HBL.out⟩)
      clear hac
      go_wp2
      go_ret
      exact HR.out
theorem valid_get {l:List UInt8}:validL l=true ↔ ∀ i,i<(runesL l).length→0≤(runesL l).getD i 0:=by
  unfold validL
  rw [List.all_eq_true]
  constructor
  · intro h i hi
    have:=h (runesL l)[i] (List.getElem_mem hi)
    simpa [List.getD,hi] using this
  · intro h r hr
    obtain ⟨i,hi,rfl⟩:=List.getElem_of_mem hr
    have:=h i hi
    simpa [List.getD,hi] using this
def PR (X:List Int) (w:World) (k:Nat) (v:Value) (wr:World):Prop:=∃ i,X.length - i≤k∧i≤X.length∧v=.int .i64 ((i:Nat):Int)∧(∀ j,j<i→0≤X.getD j 0)∧wr=w
theorem refValid_any (s:ByteArray) (w:World) (hs:s.size≤1000000) :
    Calls Tryd.prog 45 #[.string s] w fun e w'=>e=.returned (.bool (validL s.data.toList))∧Below w.heap.size w w':=by
  have KR:=Lib.hid (refRunes_any s w hs)
  have hlen:=runesL_le s.data.toList
  have hsz:s.data.toList.length=s.size:=by simp
  rw [hsz] at hlen
  have HV:=Lib.hid (valid_get (l:=s.data.toList))
  clear hsz
  go_enter Tryd.func45,Tryd.ntmps45
  go_wp2_with fail
  refine KR.out.mono ?_
  rintro r w1 ⟨v,rfl,ho,hb⟩
  obtain ⟨ad,cap,rfl,hc,hr⟩:=own_rk ho
  have HR:=Lib.hid hr;have HB:=Lib.hid hb;have HC:=Lib.hid hc
  clear ho hr hb hc
  generalize hX:runesL s.data.toList=X at *
  have HX:=Lib.hid hX;clear hX
  go_wp2
  go_loopg [4] X.length (fun k v wr=>PR X w1 k v wr)
  case atStart=>exact ⟨0,by omega,Nat.zero_le _,rfl,fun j hj=>by omega,rfl⟩
  case round =>
    obtain ⟨i,hk,hi,rfl,hpos,rfl⟩:=hrel
    have HP:=Lib.hid hpos;clear hpos
    by_cases hp:i<X.length
    · obtain ⟨k,rfl⟩:∃ k,gk=k+1:=⟨gk - 1,by omega⟩
      obtain ⟨b1,o1,hd1,_,c1⟩:=HR.out i hp
      subst hd1
      have hpz:(i:Int)<(X.length:Int):=by omega
      have HS:=Lib.hid (fun (h:0≤X.getD i 0) j (hj:j<i+1)=>(by
        by_cases e:j=i
        · subst e;exact h
        · exact HP.out j (by omega):0≤X.getD j 0))
      have HF:=Lib.hid (fun (h:¬ 0≤X.getD i 0)=>(by
        cases hv:validL s.data.toList
        · rfl
        · exact absurd (HV.out.1 hv i hp) h:validL s.data.toList=false))
      generalize X.getD i 0=y at *
      by_cases hy:y<0
      · have HF2:=Lib.hid (HF.out (by omega))
        have hyb:decide (y<0)=true:=decide_eq_true hy
        go_wp2
        go_ret
        exact ⟨by rw [HF2.out];rfl,HB.out⟩
      · have HS2:=Lib.hid (HS.out (by omega))
        have hyb:decide (y<0)=false:=decide_eq_false hy
        go_wp2
        go_roundg k
        case rel=>exact ⟨i+1,by omega,by omega,by go_num,HS2.out,rfl⟩
        case measure=>omega
    · have hpz:¬ (i:Int)<(X.length:Int):=by omega
      have HF2:=Lib.hid (HV.out.2 (fun j hj=>HP.out j (by omega)))
      go_wp2
      go_ret
      exact ⟨by rw [HF2.out];rfl,HB.out⟩
end Go.Proofs.YticgggjfmhiilaaDoor
namespace Go.Proofs.YticgggjfmhiilaaDoor
open Go.RowKit
theorem refNorm_any (ad:Option Addr) (n cap:Nat) (xs:List Nat) (w:World) (hn:xs.length=n) (hcap:n≤cap) (hm:n≤100000000) (ho:Okl xs) (hr:Rd w ad xs) :
    Calls Tryd.prog 147 #[.slice ad n cap] w (Gives (val xs) w):=by
  have hcl:=cutLen_le xs n
  have hcv:=cut_limbs ho
  rw [hn] at hcv
  have hr':=hr.take (cutLen xs n)
  have hlc:(xs.take (cutLen xs n)).length=cutLen xs n:=by rw [List.length_take];omega
  have hot:=ho.take (cutLen xs n)
  have HN:=Lib.hid hn;clear hn
  have HF:Hid (∀ v w1,Own w.heap.size w1 v ([]++xs.take (cutLen xs n))→Below w.heap.size w w1→Gives (val xs) w (.returned v) w1):=fun v w1 h1 h2=>⟨v,rfl,by rw [← hcv];simpa using h1,h2⟩
  clear hcv
  have HC:=Lib.hid (rfl:cutLen xs n=cutLen xs n)
  generalize hc0:cutLen xs n=c at *
  have HC0:=Lib.hid hc0;clear hc0 HC
  generalize hY:xs.take c=Y at *
  clear hY
  have HLC:=Lib.hid hlc;clear hlc
  go_enter Tryd.func147,Tryd.ntmps147
  go_wp2
  go_loop [3] (fun i=>∃ k:Nat,k≤n∧i=.int .i64 k∧cutLen xs k=c) (fun i=>(intOf i).toNat)
  case atStart=>exact ⟨n,Nat.le_refl _,rfl,HC0.out⟩
  case round =>
    obtain ⟨k,hk,rfl,he⟩:=hrel
    have HE:=Lib.hid he;clear he
    rcases k with _ | k
    · have h0:c=0:=by rw [← HE.out];rfl
      subst h0
      go_wp2_with (at_builtin;refine wpl_append_rd rfl _ _ rfl w.heap.size _ [] rfl (Own.nil _ _) _ _ _ Y rfl hot HLC.out hr' (by simp) (Nat.le_refl _) ?_;intro v' w' hv hb)
      go_ret
      exact HF.out _ _ hv hb
    · obtain ⟨b,o,hadd,_,hc⟩:=hr k (by rw [HN.out];omega)
      subst hadd
      generalize hx:xs.getD k 0=x at *
      have HX:=Lib.hid hx;clear hx
      by_cases hz:x=0
      · go_wp2
        go_round
        case rel=>exact ⟨k,by omega,rfl,by rw [← HE.out];simp only [cutLen];rw [if_pos (by rw [HX.out];exact hz)]⟩
        case measure=>simp [intOf]
      · have h0:c=k+1:=by rw [← HE.out];simp only [cutLen];rw [if_neg (by rw [HX.out];exact hz)]
        subst h0
        go_wp2_with (at_builtin;refine wpl_append_rd rfl _ _ rfl w.heap.size _ [] rfl (Own.nil _ _) _ _ _ Y rfl hot HLC.out hr' (by simp;omega) (Nat.le_refl _) ?_;intro v' w' hv hb)
        go_ret
        exact HF.out _ _ hv hb
def pad (xs:List Nat) (m:Nat):List Nat:=xs++List.replicate (m - xs.length) 0
def SMRel (g n:Nat) (xs:List Nat) (d:Nat) (w1:World) (c i:Value) (wr:World):Prop :=
  ∃ (k q:Nat) (zs:List Nat),k≤n∧i=.int .i64 ((k:Int) - 1)∧c=.int .u64 (q:Int)∧q<d∧zs.length=n∧Okl zs∧val (zs.drop k)*d+q=val (xs.drop k)∧wr=put g zs [] w1
def SmallPost (N d:Nat) (w:World) (e:Ending) (w':World):Prop :=
  ∃ v,e=.returned (.tuple #[v,.int .u32 ((N % d:Nat):Int)])∧Own w.heap.size w' v (limbs (N / d))∧Below w.heap.size w w'
theorem sm_step {g n d j q x:Nat} {xs zs:List Nat} {w1:World} (hl:zs.length=n) (hn:xs.length=n) (hj:j+1≤n) (hd:d<B32) (hd0:0<d) (hq:q<d) (hoz:Okl zs) (hx:xs.getD j 0=x) (hxb:x<B32)
    (he:val (zs.drop (j+1))*d+q=val (xs.drop (j+1))) (hb:Blk w1 g (List.replicate n 0) []) :
    SMRel g n xs d w1 (.int .u64 ((wd q x % d:Nat):Int)) (.int .i64 ((j:Int) - 1)) ((put g zs [] w1).setCell ⟨g,j,none⟩ (.int .u32 ((wd q x / d:Nat):Int))):=by
  have hql:wd q x / d<B32:=by
    rw [Nat.div_lt_iff_lt_mul hd0];unfold wd
    have:(q+1)*B32≤d*B32:=Nat.mul_le_mul_right _ hq
    rw [Nat.add_mul,Nat.one_mul] at this
    rw [Nat.mul_comm B32 d];omega
  have hml:wd q x % d<d:=Nat.mod_lt _ hd0
  rw [set_blk (put_blk _ _ hb.lt) _ _ (by omega),put_put]
  refine ⟨j,_,zs.set j (wd q x / d),by omega,rfl,rfl,hml,by rw [List.length_set];exact hl,hoz.set _ _ hql,?_,rfl⟩
  rw [val_drop_succ _ j (by rw [List.length_set];omega),val_drop_succ xs j (by omega),hx,List.drop_set_of_lt (by omega)]
  have e3:(zs.set j (wd q x / d)).getD j 0=wd q x / d:=by simp [List.getD,show j<zs.length by omega]
  rw [e3]
  exact sh_num he (Nat.div_add_mod _ _)
theorem refSmall_any (ad:Option Addr) (n cap:Nat) (xs:List Nat) (d:Nat) (w:World) (hn:xs.length=n) (hcap:n≤cap) (hm:n≤100000000) (ho:Okl xs) (hr:Rd w ad xs) (hd:d<B32) (hd0:0<d) :
    Calls Tryd.prog 135 #[.slice ad n cap,.int .u32 (d:Int)] w (SmallPost (val xs) d w):=by
  have HN:=Lib.hid hn;clear hn
  have hd':=hd
  rw [B32_eq] at hd'
  have hd0':¬ ((d:Int)=0):=by omega
  go_enter Tryd.func135,Tryd.ntmps135
  go_wp2_with (at_make;refine wpl_make _ rfl _ _ rfl _ _ _ _ n rfl rfl rfl rfl (by omega) ?_;intro w1 hB1 hb1)
  have hg1:=hr.apart (Nat.le_refl w.heap.size)
  have hr1:=hr.below hb1
  go_loopw [7,8] (fun c i wr=>SMRel w.heap.size n xs d w1 c i wr) (fun _ i _=>(intOf i+1).toNat)
  case atStart=>exact ⟨n,0,List.replicate n 0,Nat.le_refl _,by go_num,rfl,hd0,by simp,Okl.replicate n,by rw [List.drop_of_length_le (by simp),List.drop_of_length_le (by rw [HN.out];exact Nat.le_refl _)];simp [val],(put_same hB1).symm⟩
  case round =>
    obtain ⟨k,q,zs,hk,rfl,rfl,hq,hl,hoz,he,rfl⟩:=hrel
    have HL:=Lib.hid hl;clear hl
    have HE:=Lib.hid he;clear he
    have hbz:Blk (put w.heap.size zs [] w1) w.heap.size zs []:=put_blk _ _ hB1.lt
    rcases k with _ | j
    · have hv:=HE.out
      simp only [List.drop_zero] at hv
      have hdv:val xs / d=val zs:=by rw [← hv,Nat.mul_comm,Nat.mul_add_div hd0,Nat.div_eq_of_lt hq,Nat.add_zero]
      have hmd:val xs % d=q:=by rw [← hv,Nat.mul_comm,Nat.mul_add_mod,Nat.mod_eq_of_lt hq]
      have HD:=Lib.hid hdv;clear hdv
      have HM:=Lib.hid hmd;clear hmd hv
      have hbl:Below w.heap.size w (put w.heap.size zs [] w1):=put_below hb1 (Nat.le_refl _) _ _
      have KN:=Lib.hid (refNorm_any (some ⟨w.heap.size,0,none⟩) n n zs _ HL.out (Nat.le_refl _) hm hoz hbz.rd_all)
      have hq':q<4294967296:=by omega
      rw [show (((0:Nat):Int) - 1) = -1 from rfl]
      have HBL:=Lib.hid hbl;clear hbl
      generalize put w.heap.size zs [] w1=W at *
      go_wp2_with fail
      refine KN.out.mono ?_
      rintro e w' ⟨v,rfl,hv,hb'⟩
      go_wp2
      go_ret2
      exact ⟨v,by rw [HM.out];rfl,by rw [HD.out];exact hv.mono HBL.out.size,below_on HBL.out hb'⟩
    · rw [show (((j+1:Nat):Int) - 1)=(j:Int) by omega]
      obtain ⟨b,o,rfl,hblt,hc⟩:=(hr1.put (g:=w.heap.size) hg1 zs []) j (by rw [HN.out];omega)
      have hcz:=hbz.cell j (by rw [HL.out];omega)
      have hfz:=hbz.free j
      have hxb:=ho.getD j
      generalize hx:xs.getD j 0=x at *
      have R:=Lib.hid (sm_step (g:=w.heap.size) (w1:=w1) HL.out HN.out hk hd hd0 hq hoz hx hxb HE.out hB1)
      clear hx
      have hq':q<4294967296:=by omega
      have hwl:=wd_lt (Nat.lt_trans hq hd) hxb
      have hwd:(q:Int)*4294967296+(x:Int)=((wd q x:Nat):Int):=by unfold wd;rw [B32_eq];omega
      have hqb:wd q x / d<4294967296:=by
        have:wd q x / d<B32:=by
          rw [Nat.div_lt_iff_lt_mul hd0];unfold wd
          have:(q+1)*B32≤d*B32:=Nat.mul_le_mul_right _ hq
          rw [Nat.add_mul,Nat.one_mul] at this
          rw [Nat.mul_comm B32 d];omega
        rwa [B32_eq] at this
      rw [B32_eq] at hxb
      generalize wd q x=D at *
      have hml:D % d<4294967296:=by have:=Nat.mod_lt D hd0;omega
      go_wp2
      go_roundw
      case rel =>
        have e1:IntKind.u64.wrap ((D:Int) / (d:Int)) % 4294967296=((D / d:Nat):Int):=by
          rw [← Int.natCast_ediv]
          generalize D / d=Q at *
          rw [IntWalk.u64_in _ (by omega)];omega
        rw [e1];exact R.out
      case measure=>simp [intOf]
theorem chkB_ref {neg:Bool} {xs:List Nat} {e:Int} (h:xs.length ≠ 0) (h1:xs.length≤90) (h2:xs.getD (xs.length - 1) 0 ≠ 0) (h3:-1200≤e) (h4:e≤1200):chkB neg xs e=decide (val xs % 10 ≠ 0):=by
  rw [chkB_tens h h1 h2 h3 h4];simp
theorem refCheck_any (neg:Bool) (ad:Option Addr) (n cap:Nat) (xs:List Nat) (e:Int) (w:World) (hn:xs.length=n) (hcap:n≤cap) (hm:n≤100000000) (ho:Okl xs) (hr:Rd w ad xs) :
    Calls Tryd.prog 109 #[.agg #[.bool neg,.slice ad n cap,.int .i64 e]] w (BoolBelow (chkB neg xs e) w):=by
  have hbl:Below w.heap.size w (w.alloc (.cells #[.bool neg,.slice ad n cap,.int .i64 e] 25)):=(Below.refl _ _).alloc (Nat.le_refl _) _
  have HB:=Lib.hid hbl
  have KT:=Lib.hid (refSmall_any ad n cap xs 10 _ hn hcap hm ho (hr.below hbl) (by decide) (by decide))
  clear hbl
  by_cases h0:n=0
  · subst h0
    have hx:xs=[]:=List.eq_nil_of_length_eq_zero hn
    subst hx
    clear hr KT
    have HN:=Lib.hid hn;clear hn
    cases neg
    · have HC:=Lib.hid (chkB_nil (neg:=false) (e:=e))
      by_cases he:e=0
      · subst he
        go_enter Tryd.func109,Tryd.ntmps109
        go_wp2
        go_ret
        exact BoolBelow.mk (by rw [HC.out];rfl) HB.out
      · have he':(e == 0)=false:=by rw [beq_eq_false_iff_ne];exact he
        go_enter Tryd.func109,Tryd.ntmps109
        go_wp2
        go_ret
        exact BoolBelow.mk (by rw [HC.out];simp [he]) HB.out
    · have HC:=Lib.hid (chkB_nil (neg:=true) (e:=e))
      go_enter Tryd.func109,Tryd.ntmps109
      go_wp2
      go_ret
      exact BoolBelow.mk (by rw [HC.out];rfl) HB.out
  · have h0':xs.length ≠ 0:=by omega
    have hnb:((n:Int) == 0)=false:=by rw [beq_eq_false_iff_ne];omega
    by_cases h1:90<n
    · have HC:=Lib.hid (chkB_long (neg:=neg) (e:=e) (show 90<xs.length by omega))
      have h1':(90:Int)<(n:Int):=by omega
      have HN:=Lib.hid hn;clear hn h0'
      go_enter Tryd.func109,Tryd.ntmps109
      go_wp2
      go_ret
      exact BoolBelow.mk (by rw [HC.out]) HB.out
    · have h1':¬ (90:Int)<(n:Int):=by omega
      obtain ⟨b,o,rfl,hlt,hc⟩:=hr (n - 1) (by omega)
      have hoff:((n:Int) - 1).toNat=n - 1:=by omega
      have hc2:(w.alloc (.cells #[.bool neg,.slice (some ⟨b,o,none⟩) n cap,.int .i64 e] 25)).cell? ⟨b,o+(n - 1),none⟩=some (.int .u32 ((xs.getD (n - 1) 0:Nat):Int)):=by
        rw [HB.out.cell (p:=⟨b,o+(n - 1),none⟩) hlt];exact hc
      have hxb:xs.getD (n - 1) 0<4294967296:=ho.getD _
      by_cases h2:xs.getD (n - 1) 0=0
      · have HC:=Lib.hid (chkB_top (neg:=neg) (e:=e) h0' (by rw [hn];exact h2))
        rw [h2] at hc hc2
        have HN:=Lib.hid hn;clear hn h0' h2 hxb
        go_enter Tryd.func109,Tryd.ntmps109
        go_wp2
        go_ret
        exact BoolBelow.mk (by rw [HC.out]) HB.out
      · have h2':(((xs.getD (n - 1) 0:Nat):Int) == 0)=false:=by rw [beq_eq_false_iff_ne];omega
        by_cases h3:e < -1200∨1200<e
        · have HC:=Lib.hid (chkB_out (neg:=neg) (e:=e) h0' h3)
          have HN:=Lib.hid hn;clear hn h0' h2
          generalize xs.getD (n - 1) 0=x at *
          by_cases h4:e < -1200
          · clear h3
            go_enter Tryd.func109,Tryd.ntmps109
            go_wp2
            go_ret
            exact BoolBelow.mk (by rw [HC.out]) HB.out
          · have h5:1200<e:=by omega
            clear h3
            go_enter Tryd.func109,Tryd.ntmps109
            go_wp2
            go_ret
            exact BoolBelow.mk (by rw [HC.out]) HB.out
        · have h4:¬ e < -1200:=by omega
          have h5:¬ 1200<e:=by omega
          have HC:=Lib.hid (chkB_ref (neg:=neg) (e:=e) h0' (by omega) (by rw [hn];exact h2) (by omega) (by omega))
          have HN:=Lib.hid hn;clear hn h0' h2 h3
          generalize xs.getD (n - 1) 0=x at *
          have hml:val xs % 10<10:=Nat.mod_lt _ (by decide)
          generalize val xs=N at *
          go_enter Tryd.func109,Tryd.ntmps109
          go_wp2_with fail
          refine KT.out.mono ?_
          rintro r w' ⟨v,rfl,hv,hb⟩
          have HF:=Lib.hid (below_on HB.out hb)
          clear hb hv
          go_wp2
          go_ret
          refine BoolBelow.mk ?_ HF.out
          rw [HC.out]
          by_cases hq:N % 10=0
          · have hq2:(N:Int) % 10=0:=by omega
            simp [hq,hq2]
          · have hq2:¬ (N:Int) % 10=0:=by omega
            simp [hq,hq2]
end Go.Proofs.YticgggjfmhiilaaDoor
namespace Go.Proofs.YticgggjfmhiilaaDoor
section
variable {P : Program} {ops : Array Oper} {Q : Exit → Act → World → Prop} {S : World → Prop}
theorem rg_run1 (w:World) (ad:Addr) (ty:TypeId) (v:Value) (d:TypeDesc) (hc:w.cell? ad=some v) (hu:P.underlying ty=some d) (hd:d.isRow=false) :
    (Instr.loadAt ty (.pointer (some ad))).run P w=.ok v w:=by
  have hagg:(isAgg ty).run P w=.ok false w:=by
    unfold isAgg
    rw [Sem.run_bind,run_underlying hu w]
    cases d <;> simp_all
  simp [Instr.loadAt,Instr.sureAddr,Sem.run_bind,Sem.run_pure,Result.andThen_ok,loadVar,hagg,run_load,hc,Result.andThen]
theorem rg_load1 {fuel:Nat} {L:Array Bool} {a:Act} {w:World} (i:Nat) (o:Oper) (ty:TypeId) (x:Operand) (ad:Addr) (v:Value) (d:TypeDesc)
    (dd:Option Tmp) (hi:ops[i]? = some o) (hdd:o.dst=dd) (hs:Region.noSelect ops=true) (hf:Region.free .any ops L i=true) (hr:(Region.ready .any ops L).contains i=true)
    (hQ:∀ c a w,Q (.panic c) (a.put dd v) w→Q (.panic c) a w) (hw:Region.wanted o (yielded ops a.tmps)=true) (ho:o.op=.load ty x) (hx:a.eval x=.pointer (some ad))
    (hu:P.underlying ty=some d) (hd:d.isRow=false) (hS:∀ w,S w→w.cell? ad=some v) (h0:S w)
    (h:wpAnyH P .any ops Q S fuel (L.setIfInBounds i true) (a.put dd v) w):wpAnyH P .any ops Q S (fuel+1) L a w:=by
  subst hdd
  exact wpAnyH_take hi hs hf hr hQ (.inl ⟨hw,fun w hw'=>by
    unfold execOp
    simp only [ho,hx,Sem.run_bind,Sem.run_pure,Result.andThen_ok,rg_run1 w ad ty v d (hS w hw') hu hd]⟩) h0 h
theorem rg_pure {fuel:Nat} {L:Array Bool} {a:Act} {w:World} (i:Nat) (o:Oper) (v:Value)
    (dd:Option Tmp) (hi:ops[i]? = some o) (hdd:o.dst=dd) (hs:Region.noSelect ops=true) (hf:Region.free .any ops L i=true) (hr:(Region.ready .any ops L).contains i=true)
    (hQ:∀ c a w,Q (.panic c) (a.put dd v) w→Q (.panic c) a w) (hw:Region.wanted o (yielded ops a.tmps)=true) (hx:∀ w,(execOp a.eval o).run P w=.ok (.value v) w) (h0:S w)
    (h:wpAnyH P .any ops Q S fuel (L.setIfInBounds i true) (a.put dd v) w):wpAnyH P .any ops Q S (fuel+1) L a w:=by
  subst hdd
  exact wpAnyH_take hi hs hf hr hQ (.inl ⟨hw,fun w _=>hx w⟩) h0 h
theorem rg_skip {fuel:Nat} {L:Array Bool} {a:Act} {w:World} (i:Nat) (o:Oper)
    (dd:Option Tmp) (hi:ops[i]? = some o) (hdd:o.dst=dd) (hs:Region.noSelect ops=true) (hf:Region.free .any ops L i=true) (hr:(Region.ready .any ops L).contains i=true)
    (hQ:∀ c a w,Q (.panic c) (a.put dd undef) w→Q (.panic c) a w) (hw:Region.wanted o (yielded ops a.tmps)=false) (h0:S w)
    (h:wpAnyH P .any ops Q S fuel (L.setIfInBounds i true) (a.put dd undef) w):wpAnyH P .any ops Q S (fuel+1) L a w:=by
  subst hdd
  exact wpAnyH_take hi hs hf hr hQ (.inr ⟨hw,rfl⟩) h0 h
theorem rg_enter (w:World) (ev:Operand→Value) (o:Oper) (n:Nat) (fn:Func) (f:Operand) (args:Array Operand) (ts:Array TypeId) (vs:Array Value)
    (ho:o.op=.call { callee:=.value f,args:=args,argTypes:=ts }) (hff:ev f=.func (.func n) #[] #[]) (hfn:P.funcs[n]? = some fn) (hn:(fn.name == "runtime.NumGoroutine")=false) (hb:fn.body.isNone=false)
    (hv:args.map ev=vs):(execOp ev o).run P w=.ok (.enter n vs) w:=by
  simp [execOp,ho,resolve,Deferred.ofValue,invoke,callFunc,hfn,hv,hff,go_sem]
  rw [if_neg (by simpa using hn),if_neg (by intro h0;rw [h0] at hb;cases hb)]
theorem rg_call {fuel:Nat} {L:Array Bool} {a:Act} {w:World} (i:Nat) (o:Oper) (n:Nat) (fn:Func) (f:Operand) (args:Array Operand) (ts:Array TypeId) (vs:Array Value)
    (dd:Option Tmp) (hi:ops[i]? = some o) (hdd:o.dst=dd) (hr:Region.ready .any ops L=[i]) (hw:Region.wanted o (yielded ops a.tmps)=true)
    (ho:o.op=.call { callee:=.value f,args:=args,argTypes:=ts }) (hff:a.eval f=.func (.func n) #[] #[]) (hfn:P.funcs[n]? = some fn) (hn:(fn.name == "runtime.NumGoroutine")=false) (hb:fn.body.isNone=false)
    (hv:args.map a.eval=vs) {Post:Ending→World→Prop} (C:Calls P n vs w Post)
    (h:∀ r w',Post r w'→∃ v,r=.returned v∧S w'∧wpAnyH P .any ops Q S fuel (L.setIfInBounds i true) (a.put dd v) w'):wpAnyH P .any ops Q S (fuel+1) L a w:=by
  subst hdd
  refine wpAnyH_all hr (by simp) (fun j hj=>?_)
  rw [List.mem_singleton.1 hj]
  unfold wpOp
  simp only [hi]
  rw [if_pos hw]
  refine .inl ?_
  have hx:(execOp a.eval o).run P w=.ok (.enter n vs) w:=rg_enter w a.eval o n fn f args ts vs ho hff hfn hn hb hv
  unfold Oper.wp
  rw [hx,Oper.upon_enter]
  exact C.mono (fun r w' hp=>by obtain ⟨v,rfl,hk⟩:=h r w' hp;exact hk)
def RgQ (R:Act→World→Prop) (e:Exit) (a:Act) (w:World):Prop:=match e with | .normal=>R a w | _=>False
theorem rg_norm {C:Code} {a:Act} {w:World} (h:∀ J:Act→World→Prop,(∀ a' w',Q .normal a' w'→J a' w')→C.wp P (RgQ J) a w):C.wp P Q a w :=
  Code.wp_mono (fun e a' w' hr=>by cases e <;> first | exact hr | exact absurd hr id) (h (fun a w=>Q .normal a w) (fun _ _ h=>h))
end
end Go.Proofs.YticgggjfmhiilaaDoor
