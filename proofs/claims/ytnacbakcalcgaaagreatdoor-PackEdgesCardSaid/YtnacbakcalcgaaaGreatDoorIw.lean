/- Texts of the claim. -/
import Derived.Test.YtnacbakcalcgaaaGreatDoorIv
set_option linter.unusedVariables false
set_option linter.unusedSimpArgs false
set_option maxHeartbeats 4000000
set_option maxRecDepth 100000
namespace Go.Proofs.YtnacbakcalcgaaaGreatDoor
open Go.RowKit Go.Lib
theorem natB_snocM (l:List Nat) (x:Nat):natB (l++[x])=natB l*256+x:=by simp [natB]
theorem natB_ltM:∀ (n:Nat) (l:List Nat),l.length=n→(∀ x∈l,x<256)→natB l<256 ^ n:=by
  intro n
  induction n with
  | zero=>intro l h _;rw [List.eq_nil_of_length_eq_zero h];decide
  | succ n ih =>
    intro l h hb
    have hne:l ≠ []:=by intro e;subst e;cases h
    obtain ⟨k,x,rfl⟩:∃ k x,l=k++[x]:=⟨l.dropLast,l.getLast hne,(List.dropLast_concat_getLast hne).symm⟩
    have h1:=ih k (by simpa using h) (fun y hy=>hb y (by simp [hy]))
    have h2:=hb x (by simp)
    rw [natB_snocM,Nat.pow_succ]
    omega
theorem kindOf_0 (f:Nat) (w:World) (h0:0≤f) (h1:f<128) :
    Calls Tryz.prog 172 #[.int .u8 (f:Int)] w fun e w'=>e=.returned (.int .i64 4)∧w'=w:=by
  have e128:decide ((f:Int)<128)=true:=decide_eq_true (by omega)
  clear h0 h1
  go_enter Tryz.func172,Tryz.ntmps172
  go_wp2_with fail
  go_ret
  exact ⟨rfl,rfl⟩
theorem kindOf_128 (f:Nat) (w:World) (h0:128≤f) (h1:f<144) :
    Calls Tryz.prog 172 #[.int .u8 (f:Int)] w fun e w'=>e=.returned (.int .i64 10)∧w'=w:=by
  have e128:decide ((f:Int)<128)=false:=decide_eq_false (by omega)
  have e144:decide ((f:Int)<144)=true:=decide_eq_true (by omega)
  clear h0 h1
  go_enter Tryz.func172,Tryz.ntmps172
  go_wp2_with fail
  go_ret
  exact ⟨rfl,rfl⟩
theorem kindOf_144 (f:Nat) (w:World) (h0:144≤f) (h1:f<160) :
    Calls Tryz.prog 172 #[.int .u8 (f:Int)] w fun e w'=>e=.returned (.int .i64 9)∧w'=w:=by
  have e128:decide ((f:Int)<128)=false:=decide_eq_false (by omega)
  have e144:decide ((f:Int)<144)=false:=decide_eq_false (by omega)
  have e160:decide ((f:Int)<160)=true:=decide_eq_true (by omega)
  clear h0 h1
  go_enter Tryz.func172,Tryz.ntmps172
  go_wp2_with fail
  go_ret
  exact ⟨rfl,rfl⟩
theorem kindOf_160 (f:Nat) (w:World) (h0:160≤f) (h1:f<192) :
    Calls Tryz.prog 172 #[.int .u8 (f:Int)] w fun e w'=>e=.returned (.int .i64 7)∧w'=w:=by
  have e128:decide ((f:Int)<128)=false:=decide_eq_false (by omega)
  have e144:decide ((f:Int)<144)=false:=decide_eq_false (by omega)
  have e160:decide ((f:Int)<160)=false:=decide_eq_false (by omega)
  have e192:decide ((f:Int)<192)=true:=decide_eq_true (by omega)
  clear h0 h1
  go_enter Tryz.func172,Tryz.ntmps172
  go_wp2_with fail
  go_ret
  exact ⟨rfl,rfl⟩
theorem kindOf_224 (f:Nat) (w:World) (h0:224≤f) (h1:f<256) :
    Calls Tryz.prog 172 #[.int .u8 (f:Int)] w fun e w'=>e=.returned (.int .i64 5)∧w'=w:=by
  have e128:decide ((f:Int)<128)=false:=decide_eq_false (by omega)
  have e144:decide ((f:Int)<144)=false:=decide_eq_false (by omega)
  have e160:decide ((f:Int)<160)=false:=decide_eq_false (by omega)
  have e192:decide ((f:Int)<192)=false:=decide_eq_false (by omega)
  have g224:decide ((224:Int)≤(f:Int))=true:=decide_eq_true (by omega)
  clear h0 h1
  go_enter Tryz.func172,Tryz.ntmps172
  go_wp2_with fail
  go_ret
  exact ⟨rfl,rfl⟩
theorem kindOf_192 (w:World):Calls Tryz.prog 172 #[.int .u8 192] w fun e w'=>e=.returned (.int .i64 1)∧w'=w:=by
  go_enter Tryz.func172,Tryz.ntmps172
  go_wp2_with fail
  go_ret
  exact ⟨rfl,rfl⟩
theorem sizeOf_192 (w:World):Calls Tryz.prog 173 #[.int .u8 192] w fun e w'=>e=.returned (.int .i64 0)∧w'=w:=by
  go_enter Tryz.func173,Tryz.ntmps173
  go_wp2_with fail
  go_ret
  exact ⟨rfl,rfl⟩
theorem kindOf_193 (w:World):Calls Tryz.prog 172 #[.int .u8 193] w fun e w'=>e=.returned (.int .i64 0)∧w'=w:=by
  go_enter Tryz.func172,Tryz.ntmps172
  go_wp2_with fail
  go_ret
  exact ⟨rfl,rfl⟩
theorem sizeOf_193 (w:World):Calls Tryz.prog 173 #[.int .u8 193] w fun e w'=>e=.returned (.int .i64 0)∧w'=w:=by
  go_enter Tryz.func173,Tryz.ntmps173
  go_wp2_with fail
  go_ret
  exact ⟨rfl,rfl⟩
theorem kindOf_194 (w:World):Calls Tryz.prog 172 #[.int .u8 194] w fun e w'=>e=.returned (.int .i64 2)∧w'=w:=by
  go_enter Tryz.func172,Tryz.ntmps172
  go_wp2_with fail
  go_ret
  exact ⟨rfl,rfl⟩
theorem sizeOf_194 (w:World):Calls Tryz.prog 173 #[.int .u8 194] w fun e w'=>e=.returned (.int .i64 0)∧w'=w:=by
  go_enter Tryz.func173,Tryz.ntmps173
  go_wp2_with fail
  go_ret
  exact ⟨rfl,rfl⟩
theorem kindOf_195 (w:World):Calls Tryz.prog 172 #[.int .u8 195] w fun e w'=>e=.returned (.int .i64 3)∧w'=w:=by
  go_enter Tryz.func172,Tryz.ntmps172
  go_wp2_with fail
  go_ret
  exact ⟨rfl,rfl⟩
theorem sizeOf_195 (w:World):Calls Tryz.prog 173 #[.int .u8 195] w fun e w'=>e=.returned (.int .i64 0)∧w'=w:=by
  go_enter Tryz.func173,Tryz.ntmps173
  go_wp2_with fail
  go_ret
  exact ⟨rfl,rfl⟩
theorem kindOf_196 (w:World):Calls Tryz.prog 172 #[.int .u8 196] w fun e w'=>e=.returned (.int .i64 8)∧w'=w:=by
  go_enter Tryz.func172,Tryz.ntmps172
  go_wp2_with fail
  go_ret
  exact ⟨rfl,rfl⟩
theorem sizeOf_196 (w:World):Calls Tryz.prog 173 #[.int .u8 196] w fun e w'=>e=.returned (.int .i64 1)∧w'=w:=by
  go_enter Tryz.func173,Tryz.ntmps173
  go_wp2_with fail
  go_ret
  exact ⟨rfl,rfl⟩
theorem kindOf_197 (w:World):Calls Tryz.prog 172 #[.int .u8 197] w fun e w'=>e=.returned (.int .i64 8)∧w'=w:=by
  go_enter Tryz.func172,Tryz.ntmps172
  go_wp2_with fail
  go_ret
  exact ⟨rfl,rfl⟩
theorem sizeOf_197 (w:World):Calls Tryz.prog 173 #[.int .u8 197] w fun e w'=>e=.returned (.int .i64 2)∧w'=w:=by
  go_enter Tryz.func173,Tryz.ntmps173
  go_wp2_with fail
  go_ret
  exact ⟨rfl,rfl⟩
theorem kindOf_198 (w:World):Calls Tryz.prog 172 #[.int .u8 198] w fun e w'=>e=.returned (.int .i64 8)∧w'=w:=by
  go_enter Tryz.func172,Tryz.ntmps172
  go_wp2_with fail
  go_ret
  exact ⟨rfl,rfl⟩
theorem sizeOf_198 (w:World):Calls Tryz.prog 173 #[.int .u8 198] w fun e w'=>e=.returned (.int .i64 4)∧w'=w:=by
  go_enter Tryz.func173,Tryz.ntmps173
  go_wp2_with fail
  go_ret
  exact ⟨rfl,rfl⟩
theorem kindOf_199 (w:World):Calls Tryz.prog 172 #[.int .u8 199] w fun e w'=>e=.returned (.int .i64 11)∧w'=w:=by
  go_enter Tryz.func172,Tryz.ntmps172
  go_wp2_with fail
  go_ret
  exact ⟨rfl,rfl⟩
theorem sizeOf_199 (w:World):Calls Tryz.prog 173 #[.int .u8 199] w fun e w'=>e=.returned (.int .i64 1)∧w'=w:=by
  go_enter Tryz.func173,Tryz.ntmps173
  go_wp2_with fail
  go_ret
  exact ⟨rfl,rfl⟩
theorem kindOf_200 (w:World):Calls Tryz.prog 172 #[.int .u8 200] w fun e w'=>e=.returned (.int .i64 11)∧w'=w:=by
  go_enter Tryz.func172,Tryz.ntmps172
  go_wp2_with fail
  go_ret
  exact ⟨rfl,rfl⟩
theorem sizeOf_200 (w:World):Calls Tryz.prog 173 #[.int .u8 200] w fun e w'=>e=.returned (.int .i64 2)∧w'=w:=by
  go_enter Tryz.func173,Tryz.ntmps173
  go_wp2_with fail
  go_ret
  exact ⟨rfl,rfl⟩
theorem kindOf_201 (w:World):Calls Tryz.prog 172 #[.int .u8 201] w fun e w'=>e=.returned (.int .i64 11)∧w'=w:=by
  go_enter Tryz.func172,Tryz.ntmps172
  go_wp2_with fail
  go_ret
  exact ⟨rfl,rfl⟩
theorem sizeOf_201 (w:World):Calls Tryz.prog 173 #[.int .u8 201] w fun e w'=>e=.returned (.int .i64 4)∧w'=w:=by
  go_enter Tryz.func173,Tryz.ntmps173
  go_wp2_with fail
  go_ret
  exact ⟨rfl,rfl⟩
theorem kindOf_202 (w:World):Calls Tryz.prog 172 #[.int .u8 202] w fun e w'=>e=.returned (.int .i64 12)∧w'=w:=by
  go_enter Tryz.func172,Tryz.ntmps172
  go_wp2_with fail
  go_ret
  exact ⟨rfl,rfl⟩
theorem sizeOf_202 (w:World):Calls Tryz.prog 173 #[.int .u8 202] w fun e w'=>e=.returned (.int .i64 4)∧w'=w:=by
  go_enter Tryz.func173,Tryz.ntmps173
  go_wp2_with fail
  go_ret
  exact ⟨rfl,rfl⟩
theorem kindOf_203 (w:World):Calls Tryz.prog 172 #[.int .u8 203] w fun e w'=>e=.returned (.int .i64 6)∧w'=w:=by
  go_enter Tryz.func172,Tryz.ntmps172
  go_wp2_with fail
  go_ret
  exact ⟨rfl,rfl⟩
theorem sizeOf_203 (w:World):Calls Tryz.prog 173 #[.int .u8 203] w fun e w'=>e=.returned (.int .i64 8)∧w'=w:=by
  go_enter Tryz.func173,Tryz.ntmps173
  go_wp2_with fail
  go_ret
  exact ⟨rfl,rfl⟩
theorem kindOf_204 (w:World):Calls Tryz.prog 172 #[.int .u8 204] w fun e w'=>e=.returned (.int .i64 4)∧w'=w:=by
  go_enter Tryz.func172,Tryz.ntmps172
  go_wp2_with fail
  go_ret
  exact ⟨rfl,rfl⟩
theorem sizeOf_204 (w:World):Calls Tryz.prog 173 #[.int .u8 204] w fun e w'=>e=.returned (.int .i64 1)∧w'=w:=by
  go_enter Tryz.func173,Tryz.ntmps173
  go_wp2_with fail
  go_ret
  exact ⟨rfl,rfl⟩
theorem kindOf_205 (w:World):Calls Tryz.prog 172 #[.int .u8 205] w fun e w'=>e=.returned (.int .i64 4)∧w'=w:=by
  go_enter Tryz.func172,Tryz.ntmps172
  go_wp2_with fail
  go_ret
  exact ⟨rfl,rfl⟩
theorem sizeOf_205 (w:World):Calls Tryz.prog 173 #[.int .u8 205] w fun e w'=>e=.returned (.int .i64 2)∧w'=w:=by
  go_enter Tryz.func173,Tryz.ntmps173
  go_wp2_with fail
  go_ret
  exact ⟨rfl,rfl⟩
theorem kindOf_206 (w:World):Calls Tryz.prog 172 #[.int .u8 206] w fun e w'=>e=.returned (.int .i64 4)∧w'=w:=by
  go_enter Tryz.func172,Tryz.ntmps172
  go_wp2_with fail
  go_ret
  exact ⟨rfl,rfl⟩
theorem sizeOf_206 (w:World):Calls Tryz.prog 173 #[.int .u8 206] w fun e w'=>e=.returned (.int .i64 4)∧w'=w:=by
  go_enter Tryz.func173,Tryz.ntmps173
  go_wp2_with fail
  go_ret
  exact ⟨rfl,rfl⟩
theorem kindOf_207 (w:World):Calls Tryz.prog 172 #[.int .u8 207] w fun e w'=>e=.returned (.int .i64 4)∧w'=w:=by
  go_enter Tryz.func172,Tryz.ntmps172
  go_wp2_with fail
  go_ret
  exact ⟨rfl,rfl⟩
theorem sizeOf_207 (w:World):Calls Tryz.prog 173 #[.int .u8 207] w fun e w'=>e=.returned (.int .i64 8)∧w'=w:=by
  go_enter Tryz.func173,Tryz.ntmps173
  go_wp2_with fail
  go_ret
  exact ⟨rfl,rfl⟩
theorem kindOf_208 (w:World):Calls Tryz.prog 172 #[.int .u8 208] w fun e w'=>e=.returned (.int .i64 5)∧w'=w:=by
  go_enter Tryz.func172,Tryz.ntmps172
  go_wp2_with fail
  go_ret
  exact ⟨rfl,rfl⟩
theorem sizeOf_208 (w:World):Calls Tryz.prog 173 #[.int .u8 208] w fun e w'=>e=.returned (.int .i64 1)∧w'=w:=by
  go_enter Tryz.func173,Tryz.ntmps173
  go_wp2_with fail
  go_ret
  exact ⟨rfl,rfl⟩
theorem kindOf_209 (w:World):Calls Tryz.prog 172 #[.int .u8 209] w fun e w'=>e=.returned (.int .i64 5)∧w'=w:=by
  go_enter Tryz.func172,Tryz.ntmps172
  go_wp2_with fail
  go_ret
  exact ⟨rfl,rfl⟩
theorem sizeOf_209 (w:World):Calls Tryz.prog 173 #[.int .u8 209] w fun e w'=>e=.returned (.int .i64 2)∧w'=w:=by
  go_enter Tryz.func173,Tryz.ntmps173
  go_wp2_with fail
  go_ret
  exact ⟨rfl,rfl⟩
theorem kindOf_210 (w:World):Calls Tryz.prog 172 #[.int .u8 210] w fun e w'=>e=.returned (.int .i64 5)∧w'=w:=by
  go_enter Tryz.func172,Tryz.ntmps172
  go_wp2_with fail
  go_ret
  exact ⟨rfl,rfl⟩
theorem sizeOf_210 (w:World):Calls Tryz.prog 173 #[.int .u8 210] w fun e w'=>e=.returned (.int .i64 4)∧w'=w:=by
  go_enter Tryz.func173,Tryz.ntmps173
  go_wp2_with fail
  go_ret
  exact ⟨rfl,rfl⟩
theorem kindOf_211 (w:World):Calls Tryz.prog 172 #[.int .u8 211] w fun e w'=>e=.returned (.int .i64 5)∧w'=w:=by
  go_enter Tryz.func172,Tryz.ntmps172
  go_wp2_with fail
  go_ret
  exact ⟨rfl,rfl⟩
theorem sizeOf_211 (w:World):Calls Tryz.prog 173 #[.int .u8 211] w fun e w'=>e=.returned (.int .i64 8)∧w'=w:=by
  go_enter Tryz.func173,Tryz.ntmps173
  go_wp2_with fail
  go_ret
  exact ⟨rfl,rfl⟩
theorem kindOf_212 (w:World):Calls Tryz.prog 172 #[.int .u8 212] w fun e w'=>e=.returned (.int .i64 11)∧w'=w:=by
  go_enter Tryz.func172,Tryz.ntmps172
  go_wp2_with fail
  go_ret
  exact ⟨rfl,rfl⟩
theorem sizeOf_212 (w:World):Calls Tryz.prog 173 #[.int .u8 212] w fun e w'=>e=.returned (.int .i64 0)∧w'=w:=by
  go_enter Tryz.func173,Tryz.ntmps173
  go_wp2_with fail
  go_ret
  exact ⟨rfl,rfl⟩
theorem kindOf_213 (w:World):Calls Tryz.prog 172 #[.int .u8 213] w fun e w'=>e=.returned (.int .i64 11)∧w'=w:=by
  go_enter Tryz.func172,Tryz.ntmps172
  go_wp2_with fail
  go_ret
  exact ⟨rfl,rfl⟩
theorem sizeOf_213 (w:World):Calls Tryz.prog 173 #[.int .u8 213] w fun e w'=>e=.returned (.int .i64 0)∧w'=w:=by
  go_enter Tryz.func173,Tryz.ntmps173
  go_wp2_with fail
  go_ret
  exact ⟨rfl,rfl⟩
theorem kindOf_214 (w:World):Calls Tryz.prog 172 #[.int .u8 214] w fun e w'=>e=.returned (.int .i64 11)∧w'=w:=by
  go_enter Tryz.func172,Tryz.ntmps172
  go_wp2_with fail
  go_ret
  exact ⟨rfl,rfl⟩
theorem sizeOf_214 (w:World):Calls Tryz.prog 173 #[.int .u8 214] w fun e w'=>e=.returned (.int .i64 0)∧w'=w:=by
  go_enter Tryz.func173,Tryz.ntmps173
  go_wp2_with fail
  go_ret
  exact ⟨rfl,rfl⟩
theorem kindOf_215 (w:World):Calls Tryz.prog 172 #[.int .u8 215] w fun e w'=>e=.returned (.int .i64 11)∧w'=w:=by
  go_enter Tryz.func172,Tryz.ntmps172
  go_wp2_with fail
  go_ret
  exact ⟨rfl,rfl⟩
theorem sizeOf_215 (w:World):Calls Tryz.prog 173 #[.int .u8 215] w fun e w'=>e=.returned (.int .i64 0)∧w'=w:=by
  go_enter Tryz.func173,Tryz.ntmps173
  go_wp2_with fail
  go_ret
  exact ⟨rfl,rfl⟩
theorem kindOf_216 (w:World):Calls Tryz.prog 172 #[.int .u8 216] w fun e w'=>e=.returned (.int .i64 11)∧w'=w:=by
  go_enter Tryz.func172,Tryz.ntmps172
  go_wp2_with fail
  go_ret
  exact ⟨rfl,rfl⟩
theorem sizeOf_216 (w:World):Calls Tryz.prog 173 #[.int .u8 216] w fun e w'=>e=.returned (.int .i64 0)∧w'=w:=by
  go_enter Tryz.func173,Tryz.ntmps173
  go_wp2_with fail
  go_ret
  exact ⟨rfl,rfl⟩
theorem kindOf_217 (w:World):Calls Tryz.prog 172 #[.int .u8 217] w fun e w'=>e=.returned (.int .i64 7)∧w'=w:=by
  go_enter Tryz.func172,Tryz.ntmps172
  go_wp2_with fail
  go_ret
  exact ⟨rfl,rfl⟩
theorem sizeOf_217 (w:World):Calls Tryz.prog 173 #[.int .u8 217] w fun e w'=>e=.returned (.int .i64 1)∧w'=w:=by
  go_enter Tryz.func173,Tryz.ntmps173
  go_wp2_with fail
  go_ret
  exact ⟨rfl,rfl⟩
theorem kindOf_218 (w:World):Calls Tryz.prog 172 #[.int .u8 218] w fun e w'=>e=.returned (.int .i64 7)∧w'=w:=by
  go_enter Tryz.func172,Tryz.ntmps172
  go_wp2_with fail
  go_ret
  exact ⟨rfl,rfl⟩
theorem sizeOf_218 (w:World):Calls Tryz.prog 173 #[.int .u8 218] w fun e w'=>e=.returned (.int .i64 2)∧w'=w:=by
  go_enter Tryz.func173,Tryz.ntmps173
  go_wp2_with fail
  go_ret
  exact ⟨rfl,rfl⟩
theorem kindOf_219 (w:World):Calls Tryz.prog 172 #[.int .u8 219] w fun e w'=>e=.returned (.int .i64 7)∧w'=w:=by
  go_enter Tryz.func172,Tryz.ntmps172
  go_wp2_with fail
  go_ret
  exact ⟨rfl,rfl⟩
theorem sizeOf_219 (w:World):Calls Tryz.prog 173 #[.int .u8 219] w fun e w'=>e=.returned (.int .i64 4)∧w'=w:=by
  go_enter Tryz.func173,Tryz.ntmps173
  go_wp2_with fail
  go_ret
  exact ⟨rfl,rfl⟩
theorem kindOf_220 (w:World):Calls Tryz.prog 172 #[.int .u8 220] w fun e w'=>e=.returned (.int .i64 9)∧w'=w:=by
  go_enter Tryz.func172,Tryz.ntmps172
  go_wp2_with fail
  go_ret
  exact ⟨rfl,rfl⟩
theorem sizeOf_220 (w:World):Calls Tryz.prog 173 #[.int .u8 220] w fun e w'=>e=.returned (.int .i64 2)∧w'=w:=by
  go_enter Tryz.func173,Tryz.ntmps173
  go_wp2_with fail
  go_ret
  exact ⟨rfl,rfl⟩
theorem kindOf_221 (w:World):Calls Tryz.prog 172 #[.int .u8 221] w fun e w'=>e=.returned (.int .i64 9)∧w'=w:=by
  go_enter Tryz.func172,Tryz.ntmps172
  go_wp2_with fail
  go_ret
  exact ⟨rfl,rfl⟩
theorem sizeOf_221 (w:World):Calls Tryz.prog 173 #[.int .u8 221] w fun e w'=>e=.returned (.int .i64 4)∧w'=w:=by
  go_enter Tryz.func173,Tryz.ntmps173
  go_wp2_with fail
  go_ret
  exact ⟨rfl,rfl⟩
theorem kindOf_222 (w:World):Calls Tryz.prog 172 #[.int .u8 222] w fun e w'=>e=.returned (.int .i64 10)∧w'=w:=by
  go_enter Tryz.func172,Tryz.ntmps172
  go_wp2_with fail
  go_ret
  exact ⟨rfl,rfl⟩
theorem sizeOf_222 (w:World):Calls Tryz.prog 173 #[.int .u8 222] w fun e w'=>e=.returned (.int .i64 2)∧w'=w:=by
  go_enter Tryz.func173,Tryz.ntmps173
  go_wp2_with fail
  go_ret
  exact ⟨rfl,rfl⟩
theorem kindOf_223 (w:World):Calls Tryz.prog 172 #[.int .u8 223] w fun e w'=>e=.returned (.int .i64 10)∧w'=w:=by
  go_enter Tryz.func172,Tryz.ntmps172
  go_wp2_with fail
  go_ret
  exact ⟨rfl,rfl⟩
theorem sizeOf_223 (w:World):Calls Tryz.prog 173 #[.int .u8 223] w fun e w'=>e=.returned (.int .i64 4)∧w'=w:=by
  go_enter Tryz.func173,Tryz.ntmps173
  go_wp2_with fail
  go_ret
  exact ⟨rfl,rfl⟩
theorem sizeOf_out (f:Nat) (w:World) (h0:f<192∨224≤f) :
    Calls Tryz.prog 173 #[.int .u8 (f:Int)] w fun e w'=>e=.returned (.int .i64 0)∧w'=w:=by
  have z207:decide ((f:Int)=207)=false:=decide_eq_false (by omega)
  have y207:((f:Int) == 207)=false:=by rw [beq_eq_false_iff_ne];omega
  have z211:decide ((f:Int)=211)=false:=decide_eq_false (by omega)
  have y211:((f:Int) == 211)=false:=by rw [beq_eq_false_iff_ne];omega
  have z203:decide ((f:Int)=203)=false:=decide_eq_false (by omega)
  have y203:((f:Int) == 203)=false:=by rw [beq_eq_false_iff_ne];omega
  have z206:decide ((f:Int)=206)=false:=decide_eq_false (by omega)
  have y206:((f:Int) == 206)=false:=by rw [beq_eq_false_iff_ne];omega
  have z210:decide ((f:Int)=210)=false:=decide_eq_false (by omega)
  have y210:((f:Int) == 210)=false:=by rw [beq_eq_false_iff_ne];omega
  have z202:decide ((f:Int)=202)=false:=decide_eq_false (by omega)
  have y202:((f:Int) == 202)=false:=by rw [beq_eq_false_iff_ne];omega
  have z219:decide ((f:Int)=219)=false:=decide_eq_false (by omega)
  have y219:((f:Int) == 219)=false:=by rw [beq_eq_false_iff_ne];omega
  have z198:decide ((f:Int)=198)=false:=decide_eq_false (by omega)
  have y198:((f:Int) == 198)=false:=by rw [beq_eq_false_iff_ne];omega
  have z201:decide ((f:Int)=201)=false:=decide_eq_false (by omega)
  have y201:((f:Int) == 201)=false:=by rw [beq_eq_false_iff_ne];omega
  have z221:decide ((f:Int)=221)=false:=decide_eq_false (by omega)
  have y221:((f:Int) == 221)=false:=by rw [beq_eq_false_iff_ne];omega
  have z223:decide ((f:Int)=223)=false:=decide_eq_false (by omega)
  have y223:((f:Int) == 223)=false:=by rw [beq_eq_false_iff_ne];omega
  have z205:decide ((f:Int)=205)=false:=decide_eq_false (by omega)
  have y205:((f:Int) == 205)=false:=by rw [beq_eq_false_iff_ne];omega
  have z209:decide ((f:Int)=209)=false:=decide_eq_false (by omega)
  have y209:((f:Int) == 209)=false:=by rw [beq_eq_false_iff_ne];omega
  have z218:decide ((f:Int)=218)=false:=decide_eq_false (by omega)
  have y218:((f:Int) == 218)=false:=by rw [beq_eq_false_iff_ne];omega
  have z197:decide ((f:Int)=197)=false:=decide_eq_false (by omega)
  have y197:((f:Int) == 197)=false:=by rw [beq_eq_false_iff_ne];omega
  have z200:decide ((f:Int)=200)=false:=decide_eq_false (by omega)
  have y200:((f:Int) == 200)=false:=by rw [beq_eq_false_iff_ne];omega
  have z220:decide ((f:Int)=220)=false:=decide_eq_false (by omega)
  have y220:((f:Int) == 220)=false:=by rw [beq_eq_false_iff_ne];omega
  have z222:decide ((f:Int)=222)=false:=decide_eq_false (by omega)
  have y222:((f:Int) == 222)=false:=by rw [beq_eq_false_iff_ne];omega
  have z204:decide ((f:Int)=204)=false:=decide_eq_false (by omega)
  have y204:((f:Int) == 204)=false:=by rw [beq_eq_false_iff_ne];omega
  have z208:decide ((f:Int)=208)=false:=decide_eq_false (by omega)
  have y208:((f:Int) == 208)=false:=by rw [beq_eq_false_iff_ne];omega
  have z217:decide ((f:Int)=217)=false:=decide_eq_false (by omega)
  have y217:((f:Int) == 217)=false:=by rw [beq_eq_false_iff_ne];omega
  have z196:decide ((f:Int)=196)=false:=decide_eq_false (by omega)
  have y196:((f:Int) == 196)=false:=by rw [beq_eq_false_iff_ne];omega
  have z199:decide ((f:Int)=199)=false:=decide_eq_false (by omega)
  have y199:((f:Int) == 199)=false:=by rw [beq_eq_false_iff_ne];omega
  clear h0
  go_enter Tryz.func173,Tryz.ntmps173
  go_wp2_with fail
  go_ret
  exact ⟨rfl,rfl⟩
theorem of32 {p:Nat→Prop} (h0:p 192) (h1:p 193) (h2:p 194) (h3:p 195) (h4:p 196) (h5:p 197) (h6:p 198) (h7:p 199) (h8:p 200) (h9:p 201) (h10:p 202) (h11:p 203) (h12:p 204) (h13:p 205) (h14:p 206) (h15:p 207) (h16:p 208) (h17:p 209) (h18:p 210) (h19:p 211) (h20:p 212) (h21:p 213) (h22:p 214) (h23:p 215) (h24:p 216) (h25:p 217) (h26:p 218) (h27:p 219) (h28:p 220) (h29:p 221) (h30:p 222) (h31:p 223):∀ f,192≤f→f<224→p f:=by
  intro f h0 h1
  have:f=192∨f=193∨f=194∨f=195∨f=196∨f=197∨f=198∨f=199∨f=200∨f=201∨f=202∨f=203∨f=204∨f=205∨f=206∨f=207∨f=208∨f=209∨f=210∨f=211∨f=212∨f=213∨f=214∨f=215∨f=216∨f=217∨f=218∨f=219∨f=220∨f=221∨f=222∨f=223:=by omega
  rcases this with rfl | rfl | rfl | rfl | rfl | rfl | rfl | rfl | rfl | rfl | rfl | rfl | rfl | rfl | rfl | rfl | rfl | rfl | rfl | rfl | rfl | rfl | rfl | rfl | rfl | rfl | rfl | rfl | rfl | rfl | rfl | rfl <;> assumption
theorem kindOf_any (f:Nat) (w:World) (hf:f<256):Calls Tryz.prog 172 #[.int .u8 (f:Int)] w fun e w'=>e=.returned (.int .i64 ((kindM f:Nat):Int))∧w'=w:=by
  by_cases h0:0≤f∧f<128
  · rw [show kindM f=4 by unfold kindM;rw [if_pos (by omega)]]
    exact kindOf_0 f w h0.1 h0.2
  by_cases h128:128≤f∧f<144
  · rw [show kindM f=10 by unfold kindM;rw [if_neg (by omega),if_pos (by omega)]]
    exact kindOf_128 f w h128.1 h128.2
  by_cases h144:144≤f∧f<160
  · rw [show kindM f=9 by unfold kindM;rw [if_neg (by omega),if_neg (by omega),if_pos (by omega)]]
    exact kindOf_144 f w h144.1 h144.2
  by_cases h160:160≤f∧f<192
  · rw [show kindM f=7 by unfold kindM;rw [if_neg (by omega),if_neg (by omega),if_neg (by omega),if_pos (by omega)]]
    exact kindOf_160 f w h160.1 h160.2
  by_cases h224:224≤f∧f<256
  · rw [show kindM f=5 by unfold kindM;rw [if_neg (by omega),if_neg (by omega),if_neg (by omega),if_neg (by omega),if_pos (by omega)]]
    exact kindOf_224 f w h224.1 h224.2
  revert f
  suffices h:∀ f:Nat,192≤f→f<224→Calls Tryz.prog 172 #[.int .u8 (f:Int)] w fun e w'=>e=.returned (.int .i64 ((kindM f:Nat):Int))∧w'=w from fun f hf _ _ _ _ _=>h f (by omega) (by omega)
  exact of32 (kindOf_192 w) (kindOf_193 w) (kindOf_194 w) (kindOf_195 w) (kindOf_196 w) (kindOf_197 w) (kindOf_198 w) (kindOf_199 w) (kindOf_200 w) (kindOf_201 w) (kindOf_202 w) (kindOf_203 w) (kindOf_204 w) (kindOf_205 w) (kindOf_206 w) (kindOf_207 w) (kindOf_208 w) (kindOf_209 w) (kindOf_210 w) (kindOf_211 w) (kindOf_212 w) (kindOf_213 w) (kindOf_214 w) (kindOf_215 w) (kindOf_216 w) (kindOf_217 w) (kindOf_218 w) (kindOf_219 w) (kindOf_220 w) (kindOf_221 w) (kindOf_222 w) (kindOf_223 w)
theorem sizeOf_any (f:Nat) (w:World) (hf:f<256):Calls Tryz.prog 173 #[.int .u8 (f:Int)] w fun e w'=>e=.returned (.int .i64 ((sizeM f:Nat):Int))∧w'=w:=by
  by_cases h0:f<192∨224≤f
  · rw [show sizeM f=0 by unfold sizeM;rw [if_pos h0]];exact sizeOf_out f w h0
  revert f
  suffices h:∀ f:Nat,192≤f→f<224→Calls Tryz.prog 173 #[.int .u8 (f:Int)] w fun e w'=>e=.returned (.int .i64 ((sizeM f:Nat):Int))∧w'=w from fun f hf _=>h f (by omega) (by omega)
  exact of32 (sizeOf_192 w) (sizeOf_193 w) (sizeOf_194 w) (sizeOf_195 w) (sizeOf_196 w) (sizeOf_197 w) (sizeOf_198 w) (sizeOf_199 w) (sizeOf_200 w) (sizeOf_201 w) (sizeOf_202 w) (sizeOf_203 w) (sizeOf_204 w) (sizeOf_205 w) (sizeOf_206 w) (sizeOf_207 w) (sizeOf_208 w) (sizeOf_209 w) (sizeOf_210 w) (sizeOf_211 w) (sizeOf_212 w) (sizeOf_213 w) (sizeOf_214 w) (sizeOf_215 w) (sizeOf_216 w) (sizeOf_217 w) (sizeOf_218 w) (sizeOf_219 w) (sizeOf_220 w) (sizeOf_221 w) (sizeOf_222 w) (sizeOf_223 w)
theorem short_4 (f:Nat) (w:World) (h1:f<128) :
    Calls Tryz.prog 174 #[.int .i64 4,.int .u8 (f:Int)] w fun e w'=>e=.returned (.int .u64 ((f:Nat):Int))∧w'=w:=by
  go_enter Tryz.func174,Tryz.ntmps174
  go_wp2_with fail
  go_ret
  refine ⟨?_,rfl⟩
  refine congrArg (fun z=>Ending.returned (Value.int .u64 z)) ?_
  show _=_;omega
theorem short_10 (f:Nat) (w:World) (h0:128≤f) (h1:f<144) :
    Calls Tryz.prog 174 #[.int .i64 10,.int .u8 (f:Int)] w fun e w'=>e=.returned (.int .u64 ((f - 128:Nat):Int))∧w'=w:=by
  go_enter Tryz.func174,Tryz.ntmps174
  go_wp2_with fail
  go_ret
  refine ⟨?_,rfl⟩
  refine congrArg (fun z=>Ending.returned (Value.int .u64 z)) ?_
  show _=_;omega
theorem short_9 (f:Nat) (w:World) (h0:144≤f) (h1:f<160) :
    Calls Tryz.prog 174 #[.int .i64 9,.int .u8 (f:Int)] w fun e w'=>e=.returned (.int .u64 ((f - 144:Nat):Int))∧w'=w:=by
  go_enter Tryz.func174,Tryz.ntmps174
  go_wp2_with fail
  go_ret
  refine ⟨?_,rfl⟩
  refine congrArg (fun z=>Ending.returned (Value.int .u64 z)) ?_
  show _=_;omega
theorem short_7 (f:Nat) (w:World) (h0:160≤f) (h1:f<192) :
    Calls Tryz.prog 174 #[.int .i64 7,.int .u8 (f:Int)] w fun e w'=>e=.returned (.int .u64 ((f - 160:Nat):Int))∧w'=w:=by
  go_enter Tryz.func174,Tryz.ntmps174
  go_wp2_with fail
  go_ret
  refine ⟨?_,rfl⟩
  refine congrArg (fun z=>Ending.returned (Value.int .u64 z)) ?_
  show _=_;omega
theorem short_5 (f:Nat) (w:World) (h0:224≤f) (h1:f<256) :
    Calls Tryz.prog 174 #[.int .i64 5,.int .u8 (f:Int)] w fun e w'=>e=.returned (.int .u64 ((18446744073709551360+f:Nat):Int))∧w'=w:=by
  go_enter Tryz.func174,Tryz.ntmps174
  go_wp2_with fail
  go_ret
  refine ⟨?_,rfl⟩
  refine congrArg (fun z=>Ending.returned (Value.int .u64 z)) ?_
  show _=_;(first | omega | (rw [IntKind.wrap_u64];omega))
theorem short_1 (f:Value) (w:World):Calls Tryz.prog 174 #[.int .i64 1,f] w fun e w'=>e=.returned (.int .u64 0)∧w'=w:=by
  go_enter Tryz.func174,Tryz.ntmps174
  go_wp2_with fail
  go_ret
  exact ⟨rfl,rfl⟩
theorem short_2 (f:Value) (w:World):Calls Tryz.prog 174 #[.int .i64 2,f] w fun e w'=>e=.returned (.int .u64 0)∧w'=w:=by
  go_enter Tryz.func174,Tryz.ntmps174
  go_wp2_with fail
  go_ret
  exact ⟨rfl,rfl⟩
theorem short_3 (f:Value) (w:World):Calls Tryz.prog 174 #[.int .i64 3,f] w fun e w'=>e=.returned (.int .u64 0)∧w'=w:=by
  go_enter Tryz.func174,Tryz.ntmps174
  go_wp2_with fail
  go_ret
  exact ⟨rfl,rfl⟩
theorem short_11_212 (w:World):Calls Tryz.prog 174 #[.int .i64 11,.int .u8 212] w fun e w'=>e=.returned (.int .u64 1)∧w'=w:=by
  go_enter Tryz.func174,Tryz.ntmps174
  go_wp2_with fail
  go_ret
  exact ⟨rfl,rfl⟩
theorem short_11_213 (w:World):Calls Tryz.prog 174 #[.int .i64 11,.int .u8 213] w fun e w'=>e=.returned (.int .u64 2)∧w'=w:=by
  go_enter Tryz.func174,Tryz.ntmps174
  go_wp2_with fail
  go_ret
  exact ⟨rfl,rfl⟩
theorem short_11_214 (w:World):Calls Tryz.prog 174 #[.int .i64 11,.int .u8 214] w fun e w'=>e=.returned (.int .u64 4)∧w'=w:=by
  go_enter Tryz.func174,Tryz.ntmps174
  go_wp2_with fail
  go_ret
  exact ⟨rfl,rfl⟩
theorem short_11_215 (w:World):Calls Tryz.prog 174 #[.int .i64 11,.int .u8 215] w fun e w'=>e=.returned (.int .u64 8)∧w'=w:=by
  go_enter Tryz.func174,Tryz.ntmps174
  go_wp2_with fail
  go_ret
  exact ⟨rfl,rfl⟩
theorem short_11_216 (w:World):Calls Tryz.prog 174 #[.int .i64 11,.int .u8 216] w fun e w'=>e=.returned (.int .u64 16)∧w'=w:=by
  go_enter Tryz.func174,Tryz.ntmps174
  go_wp2_with fail
  go_ret
  exact ⟨rfl,rfl⟩
theorem size_nought:∀ j,j<32→[0,0,0,0,1,2,4,1,2,4,4,8,1,2,4,8,1,2,4,8,0,0,0,0,0,1,2,4,2,4,2,4].getD j 0=0→j=0∨j=1∨j=2∨j=3∨j=20∨j=21∨j=22∨j=23∨j=24:=by decide
theorem short_anyM (f:Nat) (w:World) (hf:f<256) (h193:f ≠ 193) (hs:sizeM f=0) :
    Calls Tryz.prog 174 #[.int .i64 ((kindM f:Nat):Int),.int .u8 (f:Int)] w fun e w'=>e=.returned (.int .u64 ((shortM f:Nat):Int))∧w'=w:=by
  by_cases h:0≤f∧f<128
  · rw [show kindM f=4 by unfold kindM;rw [if_pos (by omega)],show shortM f=f by unfold shortM;rw [if_pos (by omega)]]
    exact short_4 f w h.2
  by_cases h:128≤f∧f<144
  · rw [show kindM f=10 by unfold kindM;rw [if_neg (by omega),if_pos (by omega)],show shortM f=f - 128 by unfold shortM;rw [if_neg (by omega),if_pos (by omega)]]
    exact short_10 f w h.1 h.2
  by_cases h:144≤f∧f<160
  · rw [show kindM f=9 by unfold kindM;rw [if_neg (by omega),if_neg (by omega),if_pos (by omega)],show shortM f=f - 144 by unfold shortM;rw [if_neg (by omega),if_neg (by omega),if_pos (by omega)]]
    exact short_9 f w h.1 h.2
  by_cases h:160≤f∧f<192
  · rw [show kindM f=7 by unfold kindM;rw [if_neg (by omega),if_neg (by omega),if_neg (by omega),if_pos (by omega)],show shortM f=f - 160 by unfold shortM;rw [if_neg (by omega),if_neg (by omega),if_neg (by omega),if_pos (by omega)]]
    exact short_7 f w h.1 h.2
  by_cases h:224≤f∧f<256
  · rw [show kindM f=5 by unfold kindM;rw [if_neg (by omega),if_neg (by omega),if_neg (by omega),if_neg (by omega),if_pos (by omega)],show shortM f=18446744073709551360+f by unfold shortM;rw [if_neg (by omega),if_neg (by omega),if_neg (by omega),if_neg (by omega),if_pos (by omega)]]
    exact short_5 f w h.1 h.2
  have:f=192∨f=194∨f=195∨f=212∨f=213∨f=214∨f=215∨f=216:=by
    have h0:192≤f:=by omega
    have h1:f<224:=by omega
    obtain ⟨j,rfl,hj⟩:=f32 f h0 h1
    unfold sizeM at hs
    rw [if_neg (by omega),Nat.add_sub_cancel_left] at hs
    have hj2:=size_nought j hj hs
    omega
  rcases this with rfl | rfl | rfl | rfl | rfl | rfl | rfl | rfl
  · exact short_1 _ w
  · exact short_2 _ w
  · exact short_3 _ w
  · exact short_11_212 w
  · exact short_11_213 w
  · exact short_11_214 w
  · exact short_11_215 w
  · exact short_11_216 w
def numS (c:Nat) (L:List Nat) (j:Nat):Nat:=(c*256 ^ j+natB (L.take j)) % 18446744073709551616
theorem numS_succ (c:Nat) (L:List Nat) (j:Nat) (hj:j<L.length):numS c L (j+1)=(numS c L j*256+L[j]) % 18446744073709551616:=by
  unfold numS
  rw [List.take_add_one,List.getElem?_eq_getElem hj]
  show (c*256 ^ (j+1)+natB (L.take j++[L[j]])) % _=_
  rw [natB_snocM,Nat.pow_succ,← Nat.mul_assoc]
  generalize c*256 ^ j=a
  generalize natB (L.take j)=b
  omega
theorem numS_lt (c:Nat) (L:List Nat) (j:Nat):numS c L j<18446744073709551616:=Nat.mod_lt _ (by decide)
theorem numS_0 (c:Nat) (L:List Nat) (hc:c<18446744073709551616):numS c L 0=c:=by
  unfold numS
  rw [List.take_zero,Nat.pow_zero,Nat.mul_one]
  show (c+0) % _=c
  rw [Nat.add_zero]
  exact Nat.mod_eq_of_lt hc
theorem pow_S {S:Nat} (hS:S=1∨S=2∨S=4∨S=8):256 ^ S≤18446744073709551616:=by
  rcases hS with rfl | rfl | rfl | rfl <;> decide
theorem numS_plain (L:List Nat) (S:Nat) (hl:L.length=S) (hS:S=1∨S=2∨S=4∨S=8) (hb:∀ x∈L,x<256):numS 0 L S=natB L:=by
  unfold numS
  rw [List.take_of_length_le (by omega),Nat.zero_mul,Nat.zero_add]
  exact Nat.mod_eq_of_lt (Nat.lt_of_lt_of_le (natB_ltM S L hl hb) (pow_S hS))
theorem numS_below (L:List Nat) (S:Nat) (hl:L.length=S) (hS:S=1∨S=2∨S=4∨S=8) (hb:∀ x∈L,x<256):numS 18446744073709551615 L S=18446744073709551616 - 256 ^ S+natB L:=by
  unfold numS
  rw [List.take_of_length_le (by omega)]
  have h:=natB_ltM S L hl hb
  generalize natB L=b at *
  rcases hS with rfl | rfl | rfl | rfl <;> simp only [Nat.reducePow] at * <;> omega
theorem or_shl (V x:Int) (h0:0≤V) (h1:V<18446744073709551616) (h2:0≤x) (h3:x<256):bits .or .u64 (V*256 % 18446744073709551616) x=V*256 % 18446744073709551616+x :=
  orJ 8 _ x (by omega) (by omega) (by omega) h2 (by omega) (by omega)
theorem numberM_plain (b o S cp:Nat) (kd:Nat) (L:List Nat) (w:World) (hl:L.length=S) (hS:S≤8) (h1:1≤S) (hb:∀ x∈L,x<256) (hr:RdV w (some ⟨b,o,none⟩) (bc L)) (hk:kd ≠ 5) :
    Calls Tryz.prog 175 #[.int .i64 (kd:Int),.slice (some ⟨b,o,none⟩) S cp] w fun e w'=>e=.returned (.int .u64 ((numS 0 L S:Nat):Int))∧Below w.heap.size w w':=by
  have HM:=Lib.hid (fun j (hj:j<S)=>show (∃ x:Nat,x<256∧w.cell? ⟨b,o+j,none⟩=some (.int .u8 (x:Int))∧((numS 0 L (j+1):Nat):Int)=((numS 0 L j:Nat):Int)*256 % 18446744073709551616+(x:Int)∧numS 0 L j<18446744073709551616) from by
    have hj2:j<L.length:=by omega
    refine ⟨L[j],hb _ (List.getElem_mem _),?_,?_,numS_lt _ _ _⟩
    · rw [hr.at j (by rw [bc_len];omega),bc_get L _ hj2]
      simp [List.getD,hj2]
    · rw [numS_succ _ _ _ hj2]
      have:=hb _ (List.getElem_mem hj2)
      omega)
  have H0:=Lib.hid (show ((numS 0 L 0:Nat):Int)=0 by rw [numS_0 _ _ (by decide)];rfl)
  have z5:decide ((kd:Int)=5)=false:=decide_eq_false (by omega)
  have y5:((kd:Int) == 5)=false:=by rw [beq_eq_false_iff_ne];omega
  clear hk
  generalize numS 0 L=NB at *
  clear hr hb
  go_enter Tryz.func175,Tryz.ntmps175
  go_wp2_with fail
  (try (go_quiet (fail)))
  (try (go_wp2_with fail))
  go_loopw [4,17] (fun v i wr=>∃ j q:Nat,j≤S∧i=.int .i64 (j:Int)∧v=.int .u64 ((NB j:Nat):Int)∧wr=w.drewN q) (fun _ i _=>S - (RowKit.intOf i).toNat)
  case atStart=>first | exact ⟨0,0,by omega,rfl,by rw [H0.out],rfl⟩ | exact ⟨0,_,by omega,rfl,by rw [H0.out],rfl⟩
  case round =>
    obtain ⟨j,q,hj,rfl,rfl,rfl⟩:=hrel
    by_cases hlt:j<S
    · obtain ⟨x,hx,hcx,hnx,hvx⟩:=HM.out j hlt
      have HO:=Lib.hid (or_shl (NB j:Int) (x:Int) (by omega) (by omega) (by omega) (by omega))
      have HNX:=Lib.hid hnx
      clear hnx
      have h1:(j:Int)<(S:Int):=by omega
      generalize NB j=Vj at *
      go_wp2
      go_roundw
      case rel=>exact ⟨j+1,_,by omega,by go_num,by rw [HNX.out];first | exact congrArg (fun z=>Value.int .u64 z) HO.out | (refine congrArg (fun z=>Value.int .u64 z) ?_;rw [IntKind.wrap_u64];exact HO.out),rfl⟩
      case measure=>simp [RowKit.intOf];omega
    · obtain rfl:j=S:=by omega
      go_wp2
      go_ret
      exact ⟨rfl,below_drewN (Below.refl _ _) _⟩
theorem numberM_pos (b o S cp:Nat) (L:List Nat) (w:World) (hl:L.length=S) (hS:S≤8) (h1:1≤S) (hb:∀ x∈L,x<256) (hr:RdV w (some ⟨b,o,none⟩) (bc L)) (a:Nat) (ha:L.getD 0 0=a) (h7:a≤127) :
    Calls Tryz.prog 175 #[.int .i64 5,.slice (some ⟨b,o,none⟩) S cp] w fun e w'=>e=.returned (.int .u64 ((numS 0 L S:Nat):Int))∧Below w.heap.size w w':=by
  have HM:=Lib.hid (fun j (hj:j<S)=>show (∃ x:Nat,x<256∧w.cell? ⟨b,o+j,none⟩=some (.int .u8 (x:Int))∧((numS 0 L (j+1):Nat):Int)=((numS 0 L j:Nat):Int)*256 % 18446744073709551616+(x:Int)∧numS 0 L j<18446744073709551616) from by
    have hj2:j<L.length:=by omega
    refine ⟨L[j],hb _ (List.getElem_mem _),?_,?_,numS_lt _ _ _⟩
    · rw [hr.at j (by rw [bc_len];omega),bc_get L _ hj2]
      simp [List.getD,hj2]
    · rw [numS_succ _ _ _ hj2]
      have:=hb _ (List.getElem_mem hj2)
      omega)
  have H0:=Lib.hid (show ((numS 0 L 0:Nat):Int)=0 by rw [numS_0 _ _ (by decide)];rfl)
  have c0:w.cell? ⟨b,o,none⟩=some (.int .u8 (a:Int)):=by have:=hr.at 0 (by rw [bc_len];omega);rw [bc_get L 0 (by omega),ha] at this;exact this
  have hS0:(0:Int)<(S:Int):=by omega
  have e7:decide ((127:Int)<(a:Int))=false:=decide_eq_false (by omega)
  have e8:¬ (127:Int)<(a:Int):=by omega
  clear ha
  generalize numS 0 L=NB at *
  clear hr hb
  go_enter Tryz.func175,Tryz.ntmps175
  go_wp2_with fail
  (try (go_quiet (fail)))
  (try (go_wp2_with fail))
  go_loopw [4,17] (fun v i wr=>∃ j q:Nat,j≤S∧i=.int .i64 (j:Int)∧v=.int .u64 ((NB j:Nat):Int)∧wr=w.drewN q) (fun _ i _=>S - (RowKit.intOf i).toNat)
  case atStart=>first | exact ⟨0,0,by omega,rfl,by rw [H0.out],rfl⟩ | exact ⟨0,_,by omega,rfl,by rw [H0.out],rfl⟩
  case round =>
    obtain ⟨j,q,hj,rfl,rfl,rfl⟩:=hrel
    by_cases hlt:j<S
    · obtain ⟨x,hx,hcx,hnx,hvx⟩:=HM.out j hlt
      have HO:=Lib.hid (or_shl (NB j:Int) (x:Int) (by omega) (by omega) (by omega) (by omega))
      have HNX:=Lib.hid hnx
      clear hnx
      have h1:(j:Int)<(S:Int):=by omega
      generalize NB j=Vj at *
      go_wp2
      go_roundw
      case rel=>exact ⟨j+1,_,by omega,by go_num,by rw [HNX.out];first | exact congrArg (fun z=>Value.int .u64 z) HO.out | (refine congrArg (fun z=>Value.int .u64 z) ?_;rw [IntKind.wrap_u64];exact HO.out),rfl⟩
      case measure=>simp [RowKit.intOf];omega
    · obtain rfl:j=S:=by omega
      go_wp2
      go_ret
      exact ⟨rfl,below_drewN (Below.refl _ _) _⟩
theorem numberM_neg (b o S cp:Nat) (L:List Nat) (w:World) (hl:L.length=S) (hS:S≤8) (h1:1≤S) (hb:∀ x∈L,x<256) (hr:RdV w (some ⟨b,o,none⟩) (bc L)) (a:Nat) (ha:L.getD 0 0=a) (h7:127<a) :
    Calls Tryz.prog 175 #[.int .i64 5,.slice (some ⟨b,o,none⟩) S cp] w fun e w'=>e=.returned (.int .u64 ((numS 18446744073709551615 L S:Nat):Int))∧Below w.heap.size w w':=by
  have HM:=Lib.hid (fun j (hj:j<S)=>show (∃ x:Nat,x<256∧w.cell? ⟨b,o+j,none⟩=some (.int .u8 (x:Int))∧((numS 18446744073709551615 L (j+1):Nat):Int)=((numS 18446744073709551615 L j:Nat):Int)*256 % 18446744073709551616+(x:Int)∧numS 18446744073709551615 L j<18446744073709551616) from by
    have hj2:j<L.length:=by omega
    refine ⟨L[j],hb _ (List.getElem_mem _),?_,?_,numS_lt _ _ _⟩
    · rw [hr.at j (by rw [bc_len];omega),bc_get L _ hj2]
      simp [List.getD,hj2]
    · rw [numS_succ _ _ _ hj2]
      have:=hb _ (List.getElem_mem hj2)
      omega)
  have H0:=Lib.hid (show ((numS 18446744073709551615 L 0:Nat):Int)=18446744073709551615 by rw [numS_0 _ _ (by decide)];rfl)
  have c0:w.cell? ⟨b,o,none⟩=some (.int .u8 (a:Int)):=by have:=hr.at 0 (by rw [bc_len];omega);rw [bc_get L 0 (by omega),ha] at this;exact this
  have hS0:(0:Int)<(S:Int):=by omega
  have e7:decide ((127:Int)<(a:Int))=true:=decide_eq_true (by omega)
  have e8:(127:Int)<(a:Int):=by omega
  clear ha
  generalize numS 18446744073709551615 L=NB at *
  clear hr hb
  go_enter Tryz.func175,Tryz.ntmps175
  go_wp2_with fail
  (try (go_quiet (fail)))
  (try (go_wp2_with fail))
  go_loopw [4,17] (fun v i wr=>∃ j q:Nat,j≤S∧i=.int .i64 (j:Int)∧v=.int .u64 ((NB j:Nat):Int)∧wr=w.drewN q) (fun _ i _=>S - (RowKit.intOf i).toNat)
  case atStart=>first | exact ⟨0,0,by omega,rfl,by rw [H0.out],rfl⟩ | exact ⟨0,_,by omega,rfl,by rw [H0.out],rfl⟩
  case round =>
    obtain ⟨j,q,hj,rfl,rfl,rfl⟩:=hrel
    by_cases hlt:j<S
    · obtain ⟨x,hx,hcx,hnx,hvx⟩:=HM.out j hlt
      have HO:=Lib.hid (or_shl (NB j:Int) (x:Int) (by omega) (by omega) (by omega) (by omega))
      have HNX:=Lib.hid hnx
      clear hnx
      have h1:(j:Int)<(S:Int):=by omega
      generalize NB j=Vj at *
      go_wp2
      go_roundw
      case rel=>exact ⟨j+1,_,by omega,by go_num,by rw [HNX.out];first | exact congrArg (fun z=>Value.int .u64 z) HO.out | (refine congrArg (fun z=>Value.int .u64 z) ?_;rw [IntKind.wrap_u64];exact HO.out),rfl⟩
      case measure=>simp [RowKit.intOf];omega
    · obtain rfl:j=S:=by omega
      go_wp2
      go_ret
      exact ⟨rfl,below_drewN (Below.refl _ _) _⟩
theorem numberM_any (kd S:Nat) (ad:Option Addr) (cp:Nat) (L:List Nat) (w:World) (hl:L.length=S) (hS:S=1∨S=2∨S=4∨S=8) (hb:∀ x∈L,x<256) (hr:RdV w ad (bc L)) :
    Calls Tryz.prog 175 #[.int .i64 (kd:Int),.slice ad S cp] w fun e w'=>e=.returned (.int .u64 ((numM kd L:Nat):Int))∧Below w.heap.size w w':=by
  obtain ⟨b,o,rfl,_⟩:=hr.shape (by rw [bc_len];omega)
  by_cases hk:kd=5
  · subst hk
    by_cases h7:127<L.getD 0 0
    · rw [show numM 5 L=numS 18446744073709551615 L S by rw [numS_below L S hl hS hb];unfold numM;rw [if_pos ⟨rfl,h7⟩,hl]]
      exact numberM_neg b o S cp L w hl (by omega) (by omega) hb hr _ rfl h7
    · rw [show numM 5 L=numS 0 L S by rw [numS_plain L S hl hS hb];unfold numM;rw [if_neg (fun h=>h7 h.2)]]
      exact numberM_pos b o S cp L w hl (by omega) (by omega) hb hr _ rfl (by omega)
  · rw [show numM kd L=numS 0 L S by rw [numS_plain L S hl hS hb];unfold numM;rw [if_neg (fun h=>hk h.1)]]
    exact numberM_plain b o S cp kd L w hl (by omega) (by omega) hb hr hk
theorem results_tmp4 {fn:Func} {t u v x:Tmp} (h:fn.results=#[.tmp t,.tmp u,.tmp v,.tmp x]) (tmps:Array Value) (P:Program) (w:World) :
    (results fn tmps).run P w=.ok (.tuple #[tmps.getD t undef,tmps.getD u undef,tmps.getD v undef,tmps.getD x undef]) w:=by
  simp [results,h]
def GetM (l:List Nat) (k:Int) (w:World) (e:Ending) (w':World):Prop:=e=.returned (tup4 (getM l k))∧Below w.heap.size w w'
theorem getM_arg (ad:Option Addr) (n cap:Nat) (l:List Nat) (k:Int) (w:World) (hl:l.length=n) (hn:n≤1000000) (hk:-9223372036854775808≤k∧k≤9223372036854775807) (h:k<0∨(n:Int)<k) :
    Calls Tryz.prog 133 #[.slice ad n cap,.int .i64 k] w (GetM l k w):=by
  have e:getM l k=(0,0,0,1):=by unfold getM;rw [if_pos (by omega)]
  have E:=Lib.hid e
  clear e hl
  rcases h with h | h
  · have e1:decide (k<0)=true:=decide_eq_true h
    go_enter Tryz.func133,Tryz.ntmps133
    go_wp2_with fail
    refine bodyPost_ret (results_tmp4 rfl _ _ _) rfl ?_
    exact ⟨by rw [E.out];rfl,Below.refl _ _⟩
  · have e1:decide (k<0)=false:=decide_eq_false (by omega)
    have e2:decide ((n:Int)<k)=true:=decide_eq_true h
    go_enter Tryz.func133,Tryz.ntmps133
    go_wp2_with fail
    refine bodyPost_ret (results_tmp4 rfl _ _ _) rfl ?_
    exact ⟨by rw [E.out];rfl,Below.refl _ _⟩
theorem getM_end (ad:Option Addr) (n cap:Nat) (l:List Nat) (w:World) (hl:l.length=n) (hn:n≤1000000) :
    Calls Tryz.prog 133 #[.slice ad n cap,.int .i64 (n:Int)] w (GetM l (n:Int) w):=by
  have e:getM l (n:Int)=(0,0,0,2):=by unfold getM;rw [if_neg (by omega),if_pos (by omega)]
  have E:=Lib.hid e
  clear e hl
  have e1:decide ((n:Int)<0)=false:=decide_eq_false (by omega)
  have e2:decide ((n:Int)<(n:Int))=false:=decide_eq_false (by omega)
  go_enter Tryz.func133,Tryz.ntmps133
  go_wp2_with fail
  refine bodyPost_ret (results_tmp4 rfl _ _ _) rfl ?_
  exact ⟨by rw [E.out];rfl,Below.refl _ _⟩
theorem getM_193 (b o n cap k f:Nat) (l:List Nat) (w:World) (hl:l.length=n) (hn:n≤1000000) (hc:n≤cap) (hk:k<n) (hf:l.getD k 0=f) (hf2:f<256) (hb:∀ x∈l,x<256) (hr:RdV w (some ⟨b,o,none⟩) (bc l)) (h193:f=193) :
    Calls Tryz.prog 133 #[.slice (some ⟨b,o,none⟩) n cap,.int .i64 (k:Int)] w (GetM l (k:Int) w):=by
  have E:=Lib.hid (show getM l (k:Int)=(0,0,0,3) by rw [getM_in l k f (by omega) hf,if_pos h193])
  have c0:w.cell? ⟨b,o+k,none⟩=some (.int .u8 (f:Int)):=by rw [hr.at k (by rw [bc_len];omega),bc_get l k (by omega),hf]
  have KK:=Lib.hid (fun W=>kindOf_any f W hf2)
  have KS:=Lib.hid (fun W=>sizeOf_any f W hf2)
  have hs8:=sizeB_le f
  have e1:decide ((k:Int)<0)=false:=decide_eq_false (by omega)
  have e2:¬ n<k:=by omega
  have e3:((k:Int) == (n:Int))=false:=by rw [beq_eq_false_iff_ne];omega
  rw [show kindM f=0 by rw [h193];rfl] at KK
  rw [show sizeM f=0 by rw [h193];rfl] at KS
  simp only [Int.natCast_zero] at KK KS
  clear hr hf hl h193 hb hs8
  go_enter Tryz.func133,Tryz.ntmps133
  go_wp2_with fail
  refine (KK.out _).mono ?_
  rintro x w1 ⟨rfl,rfl⟩
  go_wp2_with fail
  refine (KS.out _).mono ?_
  rintro x w2 ⟨rfl,rfl⟩
  go_wp2_with fail
  refine bodyPost_ret (results_tmp4 rfl _ _ _) rfl ?_
  exact ⟨by rw [E.out];rfl,Below.refl _ _⟩
theorem getM_short1 (b o n cap k f:Nat) (l:List Nat) (w:World) (hl:l.length=n) (hn:n≤1000000) (hc:n≤cap) (hk:k<n) (hf:l.getD k 0=f) (hf2:f<256) (hb:∀ x∈l,x<256) (hr:RdV w (some ⟨b,o,none⟩) (bc l)) (h193:f ≠ 193) (hm:kindM f=11) (hg:n<k+1+sizeM f+1) :
    Calls Tryz.prog 133 #[.slice (some ⟨b,o,none⟩) n cap,.int .i64 (k:Int)] w (GetM l (k:Int) w):=by
  have hmo:moreB f=1:=by unfold moreB;rw [if_pos hm]
  have E:=Lib.hid (show getM l (k:Int)=(0,0,0,2) by rw [getM_in l k f (by omega) hf,if_neg h193,if_pos (by rw [hmo];omega)])
  have c0:w.cell? ⟨b,o+k,none⟩=some (.int .u8 (f:Int)):=by rw [hr.at k (by rw [bc_len];omega),bc_get l k (by omega),hf]
  have KK:=Lib.hid (fun W=>kindOf_any f W hf2)
  have KS:=Lib.hid (fun W=>sizeOf_any f W hf2)
  have hs8:=sizeB_le f
  have e1:decide ((k:Int)<0)=false:=decide_eq_false (by omega)
  have e2:¬ n<k:=by omega
  have e3:((k:Int) == (n:Int))=false:=by rw [beq_eq_false_iff_ne];omega
  rw [hm] at KK
  rw [show ((11:Nat):Int)=11 from rfl] at KK
  generalize sizeM f=S at *
  have e4:(n:Int)<(k:Int)+1+(S:Int)+1:=by omega
  clear hr hf hl h193 hb hm hmo
  go_enter Tryz.func133,Tryz.ntmps133
  go_wp2_with fail
  refine (KK.out _).mono ?_
  rintro x w1 ⟨rfl,rfl⟩
  go_wp2_with fail
  refine (KS.out _).mono ?_
  rintro x w2 ⟨rfl,rfl⟩
  go_wp2_with fail
  refine bodyPost_ret (results_tmp4 rfl _ _ _) rfl ?_
  exact ⟨by rw [E.out];rfl,Below.refl _ _⟩
theorem getM_short0 (b o n cap k f:Nat) (l:List Nat) (w:World) (hl:l.length=n) (hn:n≤1000000) (hc:n≤cap) (hk:k<n) (hf:l.getD k 0=f) (hf2:f<256) (hb:∀ x∈l,x<256) (hr:RdV w (some ⟨b,o,none⟩) (bc l)) (h193:f ≠ 193) (hm:kindM f ≠ 11) (hg:n<k+1+sizeM f+0) :
    Calls Tryz.prog 133 #[.slice (some ⟨b,o,none⟩) n cap,.int .i64 (k:Int)] w (GetM l (k:Int) w):=by
  have hmo:moreB f=0:=by unfold moreB;rw [if_neg hm]
  have E:=Lib.hid (show getM l (k:Int)=(0,0,0,2) by rw [getM_in l k f (by omega) hf,if_neg h193,if_pos (by rw [hmo];omega)])
  have c0:w.cell? ⟨b,o+k,none⟩=some (.int .u8 (f:Int)):=by rw [hr.at k (by rw [bc_len];omega),bc_get l k (by omega),hf]
  have KK:=Lib.hid (fun W=>kindOf_any f W hf2)
  have KS:=Lib.hid (fun W=>sizeOf_any f W hf2)
  have hs8:=sizeB_le f
  have e1:decide ((k:Int)<0)=false:=decide_eq_false (by omega)
  have e2:¬ n<k:=by omega
  have e3:((k:Int) == (n:Int))=false:=by rw [beq_eq_false_iff_ne];omega
  have hk0:kindM f ≠ 0:=fun h=>h193 ((kindB_0 f hf2).1 h)
  generalize kindM f=kd at *
  have z1:decide ((kd:Int)=11)=false:=decide_eq_false (by omega)
  have z2:((kd:Int) == 11)=false:=by rw [beq_eq_false_iff_ne];omega
  have z3:decide ((kd:Int)=0)=false:=decide_eq_false (by omega)
  have z4:((kd:Int) == 0)=false:=by rw [beq_eq_false_iff_ne];omega
  generalize sizeM f=S at *
  have e4:(n:Int)<(k:Int)+1+(S:Int):=by omega
  clear hr hf hl h193 hb hm hk0 hmo
  go_enter Tryz.func133,Tryz.ntmps133
  go_wp2_with fail
  refine (KK.out _).mono ?_
  rintro x w1 ⟨rfl,rfl⟩
  go_wp2_with fail
  refine (KS.out _).mono ?_
  rintro x w2 ⟨rfl,rfl⟩
  go_wp2_with fail
  refine bodyPost_ret (results_tmp4 rfl _ _ _) rfl ?_
  exact ⟨by rw [E.out];rfl,Below.refl _ _⟩
theorem getM_none1 (b o n cap k f:Nat) (l:List Nat) (w:World) (hl:l.length=n) (hn:n≤1000000) (hc:n≤cap) (hk:k<n) (hf:l.getD k 0=f) (hf2:f<256) (hb:∀ x∈l,x<256) (hr:RdV w (some ⟨b,o,none⟩) (bc l)) (h193:f ≠ 193) (hm:kindM f=11) (hs:sizeM f=0) (hg:¬ n<k+1+1) :
    Calls Tryz.prog 133 #[.slice (some ⟨b,o,none⟩) n cap,.int .i64 (k:Int)] w (GetM l (k:Int) w):=by
  have hmo:moreB f=1:=by unfold moreB;rw [if_pos hm]
  have E:=Lib.hid (show getM l (k:Int)=(kindM f,shortM f,k+1+1,0) by rw [getM_in l k f (by omega) hf,if_neg h193,if_neg (by rw [hmo,hs];omega),if_pos hs,hs,hmo])
  have c0:w.cell? ⟨b,o+k,none⟩=some (.int .u8 (f:Int)):=by rw [hr.at k (by rw [bc_len];omega),bc_get l k (by omega),hf]
  have KK:=Lib.hid (fun W=>kindOf_any f W hf2)
  have KS:=Lib.hid (fun W=>sizeOf_any f W hf2)
  have hs8:=sizeB_le f
  have e1:decide ((k:Int)<0)=false:=decide_eq_false (by omega)
  have e2:¬ n<k:=by omega
  have e3:((k:Int) == (n:Int))=false:=by rw [beq_eq_false_iff_ne];omega
  rw [hs] at KS
  simp only [Int.natCast_zero] at KS
  have KN:=Lib.hid (fun W=>short_anyM f W hf2 h193 hs)
  generalize shortM f=V at *
  rw [hm] at KK E KN
  rw [show ((11:Nat):Int)=11 from rfl] at KK KN
  have e4:¬ (n:Int)<(k:Int)+1+1:=by omega
  clear hr hf hl h193 hb hm hmo hs
  go_enter Tryz.func133,Tryz.ntmps133
  go_wp2_with fail
  refine (KK.out _).mono ?_
  rintro x w1 ⟨rfl,rfl⟩
  go_wp2_with fail
  refine (KS.out _).mono ?_
  rintro x w2 ⟨rfl,rfl⟩
  go_wp2_with fail
  refine (KN.out _).mono ?_
  rintro x w3 ⟨rfl,rfl⟩
  go_wp2_with fail
  refine bodyPost_ret (results_tmp4 rfl _ _ _) rfl ?_
  exact ⟨by rw [E.out];rfl,Below.refl _ _⟩
theorem getM_none0 (b o n cap k f:Nat) (l:List Nat) (w:World) (hl:l.length=n) (hn:n≤1000000) (hc:n≤cap) (hk:k<n) (hf:l.getD k 0=f) (hf2:f<256) (hb:∀ x∈l,x<256) (hr:RdV w (some ⟨b,o,none⟩) (bc l)) (h193:f ≠ 193) (hm:kindM f ≠ 11) (hs:sizeM f=0) (hg:¬ n<k+1+0) :
    Calls Tryz.prog 133 #[.slice (some ⟨b,o,none⟩) n cap,.int .i64 (k:Int)] w (GetM l (k:Int) w):=by
  have hmo:moreB f=0:=by unfold moreB;rw [if_neg hm]
  have E:=Lib.hid (show getM l (k:Int)=(kindM f,shortM f,k+1+0,0) by rw [getM_in l k f (by omega) hf,if_neg h193,if_neg (by rw [hmo,hs];omega),if_pos hs,hs,hmo])
  have c0:w.cell? ⟨b,o+k,none⟩=some (.int .u8 (f:Int)):=by rw [hr.at k (by rw [bc_len];omega),bc_get l k (by omega),hf]
  have KK:=Lib.hid (fun W=>kindOf_any f W hf2)
  have KS:=Lib.hid (fun W=>sizeOf_any f W hf2)
  have hs8:=sizeB_le f
  have e1:decide ((k:Int)<0)=false:=decide_eq_false (by omega)
  have e2:¬ n<k:=by omega
  have e3:((k:Int) == (n:Int))=false:=by rw [beq_eq_false_iff_ne];omega
  rw [hs] at KS
  simp only [Int.natCast_zero] at KS
  have KN:=Lib.hid (fun W=>short_anyM f W hf2 h193 hs)
  generalize shortM f=V at *
  have hk0:kindM f ≠ 0:=fun h=>h193 ((kindB_0 f hf2).1 h)
  generalize kindM f=kd at *
  have z1:decide ((kd:Int)=11)=false:=decide_eq_false (by omega)
  have z2:((kd:Int) == 11)=false:=by rw [beq_eq_false_iff_ne];omega
  have z3:decide ((kd:Int)=0)=false:=decide_eq_false (by omega)
  have z4:((kd:Int) == 0)=false:=by rw [beq_eq_false_iff_ne];omega
  have e4:¬ (n:Int)<(k:Int)+1:=by omega
  clear hr hf hl h193 hb hm hk0 hmo hs
  go_enter Tryz.func133,Tryz.ntmps133
  go_wp2_with fail
  refine (KK.out _).mono ?_
  rintro x w1 ⟨rfl,rfl⟩
  go_wp2_with fail
  refine (KS.out _).mono ?_
  rintro x w2 ⟨rfl,rfl⟩
  go_wp2_with fail
  refine (KN.out _).mono ?_
  rintro x w3 ⟨rfl,rfl⟩
  go_wp2_with fail
  refine bodyPost_ret (results_tmp4 rfl _ _ _) rfl ?_
  exact ⟨by rw [E.out];rfl,Below.refl _ _⟩
theorem getM_num1 (b o n cap k f:Nat) (l:List Nat) (w:World) (hl:l.length=n) (hn:n≤1000000) (hc:n≤cap) (hk:k<n) (hf:l.getD k 0=f) (hf2:f<256) (hb:∀ x∈l,x<256) (hr:RdV w (some ⟨b,o,none⟩) (bc l)) (h193:f ≠ 193) (hm:kindM f=11) (hs:sizeM f ≠ 0) (hg:¬ n<k+1+sizeM f+1) :
    Calls Tryz.prog 133 #[.slice (some ⟨b,o,none⟩) n cap,.int .i64 (k:Int)] w (GetM l (k:Int) w):=by
  have hmo:moreB f=1:=by unfold moreB;rw [if_pos hm]
  have E:=Lib.hid (show getM l (k:Int)=(kindM f,numM (kindM f) ((l.drop (k+1)).take (sizeM f)),k+1+sizeM f+1,0) by rw [getM_in l k f (by omega) hf,if_neg h193,if_neg (by rw [hmo];omega),if_neg hs,hmo])
  have c0:w.cell? ⟨b,o+k,none⟩=some (.int .u8 (f:Int)):=by rw [hr.at k (by rw [bc_len];omega),bc_get l k (by omega),hf]
  have KK:=Lib.hid (fun W=>kindOf_any f W hf2)
  have KS:=Lib.hid (fun W=>sizeOf_any f W hf2)
  have hs8:=sizeB_le f
  have e1:decide ((k:Int)<0)=false:=decide_eq_false (by omega)
  have e2:¬ n<k:=by omega
  have e3:((k:Int) == (n:Int))=false:=by rw [beq_eq_false_iff_ne];omega
  have h5:=sizeB_five f
  generalize sizeM f=S at *
  have KN:=Lib.hid (fun W c ad (h:RdV W ad (bc ((l.drop (k+1)).take S)))=>numberM_any (kindM f) S ad c ((l.drop (k+1)).take S) W (by rw [List.length_take,List.length_drop];omega) (by omega) (fun x hx=>hb x (List.mem_of_mem_drop (List.mem_of_mem_take hx))) h)
  have HR:=Lib.hid hr
  generalize numM (kindM f) ((l.drop (k+1)).take S)=V at E KN
  rw [hm] at KK E KN
  rw [show ((11:Nat):Int)=11 from rfl] at KK KN
  have e4:¬ (n:Int)<(k:Int)+1+(S:Int)+1:=by omega
  have e5:decide ((S:Int)=0)=false:=decide_eq_false (by omega)
  have e6:((S:Int) == 0)=false:=by rw [beq_eq_false_iff_ne];omega
  have e7:k+1≤k+1+S:=by omega
  have e8:k+1+S≤cap:=by omega
  have hSp:0<S:=by omega
  clear hr hf hl h193 hb hm hmo hs h5
  go_enter Tryz.func133,Tryz.ntmps133
  go_wp2_with fail
  refine (KK.out _).mono ?_
  rintro x w1 ⟨rfl,rfl⟩
  go_wp2_with fail
  refine (KS.out _).mono ?_
  rintro x w2 ⟨rfl,rfl⟩
  go_wp2_with fail
  refine (KN.out _ _ _ ?_).mono ?_
  · have h:=(HR.out.drop (k+1)).take S
    rw [bc_drop,bc_take] at h
    exact h
  rintro x w3 ⟨rfl,h2⟩
  have B2:=Lib.hid h2
  clear h2
  go_wp2_with fail
  refine bodyPost_ret (results_tmp4 rfl _ _ _) rfl ?_
  exact ⟨by rw [E.out];rfl,B2.out⟩
theorem getM_num0 (b o n cap k f:Nat) (l:List Nat) (w:World) (hl:l.length=n) (hn:n≤1000000) (hc:n≤cap) (hk:k<n) (hf:l.getD k 0=f) (hf2:f<256) (hb:∀ x∈l,x<256) (hr:RdV w (some ⟨b,o,none⟩) (bc l)) (h193:f ≠ 193) (hm:kindM f ≠ 11) (hs:sizeM f ≠ 0) (hg:¬ n<k+1+sizeM f+0) :
    Calls Tryz.prog 133 #[.slice (some ⟨b,o,none⟩) n cap,.int .i64 (k:Int)] w (GetM l (k:Int) w):=by
  have hmo:moreB f=0:=by unfold moreB;rw [if_neg hm]
  have E:=Lib.hid (show getM l (k:Int)=(kindM f,numM (kindM f) ((l.drop (k+1)).take (sizeM f)),k+1+sizeM f+0,0) by rw [getM_in l k f (by omega) hf,if_neg h193,if_neg (by rw [hmo];omega),if_neg hs,hmo])
  have c0:w.cell? ⟨b,o+k,none⟩=some (.int .u8 (f:Int)):=by rw [hr.at k (by rw [bc_len];omega),bc_get l k (by omega),hf]
  have KK:=Lib.hid (fun W=>kindOf_any f W hf2)
  have KS:=Lib.hid (fun W=>sizeOf_any f W hf2)
  have hs8:=sizeB_le f
  have e1:decide ((k:Int)<0)=false:=decide_eq_false (by omega)
  have e2:¬ n<k:=by omega
  have e3:((k:Int) == (n:Int))=false:=by rw [beq_eq_false_iff_ne];omega
  have h5:=sizeB_five f
  generalize sizeM f=S at *
  have KN:=Lib.hid (fun W c ad (h:RdV W ad (bc ((l.drop (k+1)).take S)))=>numberM_any (kindM f) S ad c ((l.drop (k+1)).take S) W (by rw [List.length_take,List.length_drop];omega) (by omega) (fun x hx=>hb x (List.mem_of_mem_drop (List.mem_of_mem_take hx))) h)
  have HR:=Lib.hid hr
  generalize numM (kindM f) ((l.drop (k+1)).take S)=V at E KN
  have hk0:kindM f ≠ 0:=fun h=>h193 ((kindB_0 f hf2).1 h)
  generalize kindM f=kd at *
  have z1:decide ((kd:Int)=11)=false:=decide_eq_false (by omega)
  have z2:((kd:Int) == 11)=false:=by rw [beq_eq_false_iff_ne];omega
  have z3:decide ((kd:Int)=0)=false:=decide_eq_false (by omega)
  have z4:((kd:Int) == 0)=false:=by rw [beq_eq_false_iff_ne];omega
  have e4:¬ (n:Int)<(k:Int)+1+(S:Int):=by omega
  have e5:decide ((S:Int)=0)=false:=decide_eq_false (by omega)
  have e6:((S:Int) == 0)=false:=by rw [beq_eq_false_iff_ne];omega
  have e7:k+1≤k+1+S:=by omega
  have e8:k+1+S≤cap:=by omega
  have hSp:0<S:=by omega
  clear hr hf hl h193 hb hm hk0 hmo hs h5
  go_enter Tryz.func133,Tryz.ntmps133
  go_wp2_with fail
  refine (KK.out _).mono ?_
  rintro x w1 ⟨rfl,rfl⟩
  go_wp2_with fail
  refine (KS.out _).mono ?_
  rintro x w2 ⟨rfl,rfl⟩
  go_wp2_with fail
  refine (KN.out _ _ _ ?_).mono ?_
  · have h:=(HR.out.drop (k+1)).take S
    rw [bc_drop,bc_take] at h
    exact h
  rintro x w3 ⟨rfl,h2⟩
  have B2:=Lib.hid h2
  clear h2
  go_wp2_with fail
  refine bodyPost_ret (results_tmp4 rfl _ _ _) rfl ?_
  exact ⟨by rw [E.out];rfl,B2.out⟩
theorem getM_any (ad:Option Addr) (n cap:Nat) (l:List Nat) (k:Int) (w:World) (hl:l.length=n) (hn:n≤1000000) (hc:n≤cap) (hb:∀ x∈l,x<256) (hr:RdV w ad (bc l)) (hk:-9223372036854775808≤k∧k≤9223372036854775807) :
    Calls Tryz.prog 133 #[.slice ad n cap,.int .i64 k] w (GetM l k w):=by
  by_cases h1:k<0∨(n:Int)<k
  · exact getM_arg ad n cap l k w hl hn hk h1
  by_cases h2:k=(n:Int)
  · subst h2;exact getM_end ad n cap l w hl hn
  obtain ⟨j,rfl⟩:∃ j:Nat,k=j:=⟨k.toNat,by omega⟩
  have hj:j<n:=by omega
  obtain ⟨b,o,rfl,_⟩:=hr.shape (by rw [bc_len];omega)
  have hf2:l.getD j 0<256:=by
    rw [List.getD_eq_getElem?_getD,List.getElem?_eq_getElem (by omega)]
    exact hb _ (List.getElem_mem _)
  generalize hf:l.getD j 0=f at hf2
  by_cases h193:f=193
  · exact getM_193 b o n cap j f l w hl hn hc hj hf hf2 hb hr h193
  by_cases hm:kindM f=11
  · by_cases hg:n<j+1+sizeM f+1
    · exact getM_short1 b o n cap j f l w hl hn hc hj hf hf2 hb hr h193 hm hg
    · by_cases hs:sizeM f=0
      · exact getM_none1 b o n cap j f l w hl hn hc hj hf hf2 hb hr h193 hm hs (by omega)
      · exact getM_num1 b o n cap j f l w hl hn hc hj hf hf2 hb hr h193 hm hs hg
  · by_cases hg:n<j+1+sizeM f+0
    · exact getM_short0 b o n cap j f l w hl hn hc hj hf hf2 hb hr h193 hm hg
    · by_cases hs:sizeM f=0
      · exact getM_none0 b o n cap j f l w hl hn hc hj hf hf2 hb hr h193 hm hs (by omega)
      · exact getM_num0 b o n cap j f l w hl hn hc hj hf hf2 hb hr h193 hm hs hg
end Go.Proofs.YtnacbakcalcgaaaGreatDoor
namespace Go.Proofs.YtnacbakcalcgaaaGreatDoor
open Go.RowKit Go.Lib Go.Sort
def WrP (B b:Nat) (l:List Nat) (w:World):Prop :=
  ∃ v z,w.heap[b]? = some (.cells #[v,.bool (decide (32768<l.length))] 87)∧z.length≤32768∧(l.length≤32768→z=l)∧w.ownsRow B 5 1 v z.length (bc z)
theorem WrP.lt {B b:Nat} {l:List Nat} {w:World} (h:WrP B b l w):b<w.heap.size:=by
  obtain ⟨v,z,h1,_⟩:=h
  exact (Array.getElem?_eq_some_iff.1 h1).1
theorem WrP.on {B b:Nat} {l:List Nat} {w w':World} (h:WrP B b l w) (hb:Below w.heap.size w w'):WrP B b l w':=by
  have hlt:=h.lt
  obtain ⟨v,z,h1,h2,h3,h4⟩:=h
  exact ⟨v,z,(hb.block b hlt).trans h1,h2,h3,own_onN h4 hb⟩
theorem FrC.set {B b:Nat} (hB:B≤b) (w:World) (i:Nat) (v:Value):FrC B b w (w.setCell ⟨b,i,none⟩ v):=by
  refine ⟨(Below.refl B w).setCell hB _,?_⟩
  intro k cs e fz hk hne he
  simp [World.setCell,Array.getElem?_modify,Ne.symm hne,hk]
def PutP (B b:Nat) (l p:List Nat) (w:World) (e:Ending) (w':World):Prop :=
  e=.returned (.tuple #[])∧WrP B b (l++p) w'∧FrC B b w w'
theorem PutP.pre {B b:Nat} {l p:List Nat} {w w1 w':World} {e:Ending} (hf:FrC B b w w1) (h:PutP B b l p w1 e w'):PutP B b l p w e w':=⟨h.1,h.2.1,hf.trans h.2.2⟩
theorem wrp_put {B b:Nat} {l:List Nat} {w w2:World} {v v2:Value} {k m:Nat} {zs:List Nat} (hb:w.heap[b]? = some (.cells #[v,.bool false] 87)) (ho:w.ownsRow B 5 1 v k (bc l)) (hB:B≤b) (hBw:B≤w.heap.size)
    (ho2:w2.ownsRow B 5 1 v2 m (bc zs)) (hm:zs.length=m) (hz:zs.length≤32768) (hg:w.grownBy w2 v.ownBlock) :
    (w2.cell? ⟨b,0,none⟩=some v∧w2.frozen? ⟨b,0,none⟩=false)∧WrP B b zs (w2.setCell ⟨b,0,none⟩ v2)∧FrC B b w (w2.setCell ⟨b,0,none⟩ v2):=by
  have hown:∀ k,v.ownBlock=some k→∃ cur,w.heap[k]? = some (.cells cur 5):=by
    intro k hk
    rcases ho.2 with ⟨rfl,_⟩ | ⟨g,cap,cur,rfl,_,hgg,_⟩
    · cases hk
    · cases hk
      exact ⟨cur,hgg⟩
  have hblt:b<w.heap.size:=(Array.getElem?_eq_some_iff.1 hb).1
  have hkeep:∀ k,k<w.heap.size→(∀ cur fz,w.heap[k]? ≠ some (.cells cur 5 fz))→w2.heap[k]? = w.heap[k]?:=by
    intro k hk hne
    refine hg.block k hk (fun e=>?_)
    obtain ⟨cur,hc⟩:=hown k e.symm
    exact hne cur _ hc
  have hb2:w2.heap[b]? = some (.cells #[v,.bool false] 87):=by
    rw [hkeep b hblt (fun cur fz h=>by rw [hb] at h;injection h with h;injection h with _ h2;exact absurd h2 (by decide)),hb]
  have hne2:∀ k,v2.ownBlock=some k→k ≠ b:=by
    intro k hk e
    subst e
    rcases ho2.2 with ⟨rfl,_⟩ | ⟨g,cap,cur,rfl,_,hgg,_⟩
    · cases hk
    · cases hk
      rw [hb2] at hgg;injection hgg with h;injection h with _ h2;exact absurd h2 (by decide)
  have hbel:Below B w w2:=(Below.refl B w).grown hg hBw (fun k hk=>(own_bd ho hk).1)
  refine ⟨⟨by simp [World.cell?,hb2],by simp [World.frozen?,hb2]⟩,⟨v2,zs,?_,hz,fun _=>rfl,?_⟩,hbel.setCell hB _,?_⟩
  · have:decide (32768<zs.length)=false:=decide_eq_false (by omega)
    rw [this]
    simp [World.setCell,Array.getElem?_modify,hb2]
  · subst hm
    exact own_keep ho2 (fun k hk=>by have:=hne2 k hk;simp [World.setCell,Array.getElem?_modify,Ne.symm this])
  · intro k cs e fz hk hne he
    have h1:w2.heap[k]? = some (.cells cs e fz):=by
      rw [hkeep k (Array.getElem?_eq_some_iff.1 hk).1 (fun cur fz' h=>by rw [hk] at h;injection h with h;injection h with _ h2;exact he h2),hk]
    simp [World.setCell,Array.getElem?_modify,Ne.symm hne,h1]
theorem wrp_own {B b:Nat} {w:World} {v x:Value} {cs:Array Value} {z:List Nat} (i:Nat) (hb:w.heap[b]? = some (.cells cs 87)) (ho:w.ownsRow B 5 1 v z.length (bc z)):(w.setCell ⟨b,i,none⟩ x).ownsRow B 5 1 v z.length (bc z):=by
  refine own_keep ho (fun k hk=>?_)
  have:k ≠ b:=by
    intro e
    subst e
    rcases ho.2 with ⟨rfl,_⟩ | ⟨g,cap,cur,rfl,_,hgg,_⟩
    · cases hk
    · cases hk
      rw [hb] at hgg;injection hgg with h;injection h with _ h2;exact absurd h2 (by decide)
  simp [World.setCell,Array.getElem?_modify,Ne.symm this]
theorem putp_any (B b:Nat) (l:List Nat) (ad:Option Addr) (n c:Nat) (p:List Nat) (w:World) (h:WrP B b l w) (hp:p.length=n) (hn:n≤1000000) (hr:RdV w ad (bc p)) (h0:ad=none→c=0) (hB:B≤b) :
    Calls Tryz.prog 131 #[.pointer (some ⟨b,0,none⟩),.slice ad n c] w (PutP B b l p w):=by
  have hlt:=h.lt
  obtain ⟨v,z,hb,hz,hzl,ho⟩:=h
  obtain ⟨k,hk⟩:∃ k,z.length=k:=⟨_,rfl⟩
  obtain ⟨vad,vcap,rfl,hvc,hvr,hv1,hv2,hv3⟩:=own_viewN ho
  have HO:=Lib.hid ho
  have HLT:=Lib.hid (show B≤w.heap.size by omega)
  have HBl:=Lib.hid hb
  have HK:=Lib.hid hk
  have HRr:=Lib.hid hr;have H0:=Lib.hid h0;have HP:=Lib.hid hp
  rw [hk] at hb hz
  have c0:w.cell? ⟨b,0,none⟩=some (.slice vad k vcap):=by simp [World.cell?,hb]
  have e1:IntKind.i64.wrap ((k:Int)+(n:Int))=(k:Int)+(n:Int):=IntWalk.i64_in _ (by omega)
  by_cases hl:l.length≤32768
  · obtain rfl:z=l:=hzl hl
    have hd0:decide (32768<z.length)=false:=decide_eq_false (by omega)
    rw [hd0] at hb
    have c1:w.cell? ⟨b,1,none⟩=some (.bool false):=by simp [World.cell?,hb]
    have f1:w.frozen? ⟨b,1,none⟩=false:=by simp [World.frozen?,hb]
    by_cases hc:k+n≤32768
    · have hgt:decide ((32768:Int)<(k:Int)+(n:Int))=false:=decide_eq_false (by omega)
      have hS:(w.setCell ⟨b,1,none⟩ (.bool false)).heap[b]? = some (.cells #[.slice vad k vcap,.bool false] 87):=by
        simp [World.setCell,Array.getElem?_modify,hb]
      have HS:=Lib.hid hS
      have HOS:=Lib.hid (show (w.setCell ⟨b,1,none⟩ (.bool false)).ownsRow B 5 1 (.slice vad k vcap) k (bc z) from by
        have q:=wrp_own (x:=.bool false) 1 hb ho
        rw [hk] at q;exact q)
      have HF:=Lib.hid (FrC.set hB w 1 (.bool false))
      have HRS:=Lib.hid (show RdV (w.setCell ⟨b,1,none⟩ (.bool false)) ad (bc p) from by
        intro i hi
        obtain ⟨b2,o,e,hb2,hcx⟩:=hr i hi
        refine ⟨b2,o,e,by simpa [World.setCell] using hb2,?_⟩
        by_cases hbb:b2=b
        · subst hbb
          rw [World.cell?_setCell_other (h:=?_)]
          · exact hcx
          · intro he
            have:o+i=1:=by injection he with h1 h2 h3;exact h2.symm
            rw [this] at hcx
            rw [c1] at hcx
            have hlen:i<p.length:=by rw [bc_len] at hi;exact hi
            rw [bc_get _ _ hlen] at hcx
            cases hcx
        · rw [World.cell?_setCell_other (h:=by intro he;injection he with h1;exact hbb h1.symm)]
          exact hcx)
      clear hb ho hr h0 hp hvr hv1 hv2 hv3 hvc hS
      go_enter Tryz.func131,Tryz.ntmps131
      have HLS:=Lib.hid (show B≤(w.setCell ⟨b,1,none⟩ (.bool false)).heap.size by simpa [World.setCell] using HLT.out)
      go_wp2_with (at_builtin;refine wpl_putR _ rfl _ _ rfl B _ _ z rfl HOS.out HLS.out ad n c rfl p HP.out HRS.out H0.out (by omega) ?_)
      intro v2 w2 ho2 hg2
      obtain ⟨⟨d0,g0⟩,hz2⟩:=wrp_put HS.out HOS.out hB HLS.out ho2 (by rw [List.length_append,HK.out,HP.out]) (by rw [List.length_append,HK.out,HP.out];exact hc) hg2
      have HZ:=Lib.hid (show PutP B b z p w (.returned (.tuple #[])) (w2.setCell ⟨b,0,none⟩ v2) from ⟨rfl,hz2.1,HF.out.trans hz2.2⟩)
      obtain ⟨ad2,cap2,rfl,t1,t2,t3,t4,t5⟩:=own_viewN ho2
      clear hz2 ho2 hg2 HOS HS HF HRS HLS HBl t1 t2 t3 t4 t5
      go_wp2
      go_end0
      exact HZ.out
    · have hgt:decide ((32768:Int)<(k:Int)+(n:Int))=true:=decide_eq_true (by omega)
      have HZ:Hid (PutP B b z p w (.returned (.tuple #[])) (w.setCell ⟨b,1,none⟩ (.bool true))):=Lib.hid ⟨rfl,⟨.slice vad k vcap,z,by
        have:decide (32768<(z++p).length)=true:=decide_eq_true (by rw [List.length_append];omega)
        rw [this]
        simp [World.setCell,Array.getElem?_modify,hb],by omega,fun h=>by rw [List.length_append] at h;omega,by
        have q:=wrp_own (x:=.bool true) 1 hb ho
        rw [hk] at q ⊢;exact q⟩,FrC.set hB w 1 _⟩
      clear hb ho hr h0 hp hvr hv1 hv2 hv3 hvc
      go_enter Tryz.func131,Tryz.ntmps131
      go_wp2
      go_end0
      exact HZ.out
  · have hd0:decide (32768<l.length)=true:=decide_eq_true (by omega)
    rw [hd0] at hb
    have c1:w.cell? ⟨b,1,none⟩=some (.bool true):=by simp [World.cell?,hb]
    have f1:w.frozen? ⟨b,1,none⟩=false:=by simp [World.frozen?,hb]
    have HZ:Hid (PutP B b l p w (.returned (.tuple #[])) (w.setCell ⟨b,1,none⟩ (.bool true))):=Lib.hid ⟨rfl,⟨.slice vad k vcap,z,by
      have:decide (32768<(l++p).length)=true:=decide_eq_true (by rw [List.length_append];omega)
      rw [this]
      simp [World.setCell,Array.getElem?_modify,hb],by omega,fun h=>by rw [List.length_append] at h;omega,by
      have q:=wrp_own (x:=.bool true) 1 hb ho
      rw [hk] at q ⊢;exact q⟩,FrC.set hB w 1 _⟩
    clear hb ho hr h0 hp hvr hv1 hv2 hv3 hvc
    go_enter Tryz.func131,Tryz.ntmps131
    go_wp2
    go_end0
    exact HZ.out
def EncP (B b:Nat) (l:List Nat) (o:Option (List Nat)) (w:World) (e:Ending) (w':World):Prop :=
  match o with
  | some p=>PutP B b l p w e w'
  | none=>e=.panicked [{ v:=.iface 32 (.int .i64 6),recovered:=false }]∧Below B w w'
theorem mlay_le (k n:Nat):(mlay k n).2≤8:=by
  have h2:∀ q,2 ^ stepN q≤8:=fun q=>by rcases stepN_cases q with h | h | h | h <;> rw [h] <;> decide
  have h3:∀ q,2 ^ max (stepN q) 1≤8:=fun q=>by rcases stepN_cases q with h | h | h | h <;> rw [h] <;> decide
  unfold mlay
  have hI:∀ (c:Prop) [Decidable c] (a b:Nat × Nat),a.2≤8→b.2≤8→(if c then a else b).2≤8:=by
    intro c _ a b h h'
    split <;> assumption
  repeat' (first | exact h2 _ | exact h3 _ | (exact Nat.zero_le _) | (exact (by decide:(4:Nat)≤8)) | (exact (by decide:(8:Nat)≤8)) | refine hI _ _ _ ?_ ?_)
theorem mput_le (k:Int) (n:Nat):(mput k n).length≤9:=by
  unfold mput
  split
  · simp
  · rw [List.length_cons,be_len]
    have:=mlay_le k.toNat n
    omega
theorem headp_any (B b:Nat) (l:List Nat) (k:Int) (n:Nat) (w:World) (h:WrP B b l w) (hn:n<18446744073709551616) (hne:mput k n ≠ []) (hB:B≤b) :
    Calls Tryz.prog 91 #[.pointer (some ⟨b,0,none⟩),.int .i64 k,.int .u64 (n:Int)] w (PutP B b l (mput k n) w):=by
  have KP:=Lib.hid (mput_any none [] 0 0 n w rfl (by omega) (by omega) (RdV.nil _ _) hn k)
  have HW:=Lib.hid h
  have HLT:=Lib.hid (show B≤w.heap.size by have:=h.lt;omega)
  have HLN:=Lib.hid (mput_le k n)
  have HNE:=Lib.hid hne
  rw [List.nil_append] at KP
  clear h hne
  generalize mput k n=H at *
  go_enter Tryz.func91,Tryz.ntmps91
  go_wp2_with fail
  refine KP.out.mono ?_
  rintro r w1 ⟨ad1,cap1,rfl,hc1,hr1,hb1⟩
  have KQ:=Lib.hid (putp_any B b l ad1 _ cap1 H w1 (HW.out.on hb1) rfl (by have:=HLN.out;omega) hr1 (fun h=>by
    have hlen:0<H.length:=List.length_pos_iff.2 HNE.out
    obtain ⟨b2,o,e,_⟩:=hr1 0 (by rw [bc_len];exact hlen)
    rw [h] at e;cases e) hB)
  have HF:=Lib.hid (FrC.of_below (b:=b) HLT.out hb1)
  clear hb1 hr1 hc1
  go_wp2_with fail
  refine KQ.out.mono ?_
  rintro r w2 ⟨rfl,e2,e3⟩
  have HZ:=Lib.hid (PutP.pre HF.out ⟨rfl,e2,e3⟩)
  clear e2 e3 KQ
  go_wp2
  go_end0
  exact HZ.out
def truthP (x:Bool):List Nat:=mput (if x then 3 else 2) 0
theorem truthp_any (B b:Nat) (l:List Nat) (x:Bool) (w:World) (h:WrP B b l w) (hB:B≤b) :
    Calls Tryz.prog 92 #[.pointer (some ⟨b,0,none⟩),.bool x] w (PutP B b l (truthP x) w):=by
  cases x with
  | true =>
    have KQ:=Lib.hid (headp_any B b l 3 0 w h (by omega) (by decide) hB)
    rw [show mput 3 0=truthP true from rfl] at KQ
    clear h
    go_enter Tryz.func92,Tryz.ntmps92
    go_wp2_with fail
    refine KQ.out.mono ?_
    rintro r w2 ⟨rfl,e2,e3⟩
    have HZ:=Lib.hid (show PutP B b l (truthP true) w (.returned (.tuple #[])) w2 from ⟨rfl,e2,e3⟩)
    clear e2 e3 KQ
    go_wp2
    go_end0
    exact HZ.out
  | false =>
    have KQ:=Lib.hid (headp_any B b l 2 0 w h (by omega) (by decide) hB)
    rw [show mput 2 0=truthP false from rfl] at KQ
    clear h
    go_enter Tryz.func92,Tryz.ntmps92
    go_wp2_with fail
    refine KQ.out.mono ?_
    rintro r w2 ⟨rfl,e2,e3⟩
    have HZ:=Lib.hid (show PutP B b l (truthP false) w (.returned (.tuple #[])) w2 from ⟨rfl,e2,e3⟩)
    clear e2 e3 KQ
    go_wp2
    go_end0
    exact HZ.out
def numP (ng:Bool) (N:Nat) (e:Int):Option (List Nat):=match wordP ng N e with
  | none=>none
  | some (k,x)=>some (mput (k:Int) x)
theorem mput_ne {k:Int} {n:Nat} (h:1≤k) (h2:k≤10∨k=12):mput k n ≠ []:=by
  unfold mput
  rw [if_neg (by omega)]
  simp
theorem numberp_any (B b:Nat) (l:List Nat) (ng:Bool) (ad:Option Addr) (n cap:Nat) (xs:List Nat) (e:Int) (w:World) (h:WrP B b l w) (ha:NumOk w ng ad n cap xs e) (hT:DB w) (hB:B≤b) :
    Calls Tryz.prog 93 #[.pointer (some ⟨b,0,none⟩),.agg #[.bool ng,.slice ad n cap,.int .i64 e]] w (EncP B b l (numP ng (val xs) e) w):=by
  have hbl:=below_box w #[.bool ng,.slice ad n cap,.int .i64 e] 25
  have HLT:=Lib.hid (show B≤w.heap.size by have:=h.lt;omega)
  have KW:=Lib.hid (wordOf_pk ng ad n cap xs e _ (ha.below hbl) (hT.below hbl))
  unfold WordK at KW
  have HBX:=Lib.hid hbl
  have HW:=Lib.hid h
  have HBD:=Lib.hid (fun k x=>wordP_bd (k:=k) (x:=x) (e:=e) (ng:=ng) (chk_tens ha.ok ha.chk))
  clear h ha hT hbl
  cases hw:wordP ng (val xs) e with
  | none =>
    rw [hw,tupK_none] at KW
    have HN:Hid (numP ng (val xs) e=none):=Lib.hid (by unfold numP;rw [hw])
    clear hw
    go_enter Tryz.func93,Tryz.ntmps93
    go_wp2_with fail
    refine KW.out.mono ?_
    rintro r w1 ⟨rfl,hb1⟩
    have HB1:=Lib.hid ((HBX.out.trans (hb1.mono (by simp))).mono HLT.out)
    clear hb1
    go_wp2
    refine ⟨rfl,?_⟩
    rw [HN.out]
    exact ⟨rfl,HB1.out⟩
  | some p =>
    obtain ⟨k,x⟩:=p
    rw [hw,tupK_some] at KW
    obtain ⟨hx,hk⟩:=HBD.out k x hw
    have HN:Hid (numP ng (val xs) e=some (mput (k:Int) x)):=Lib.hid (by unfold numP;rw [hw])
    have KH:=Lib.hid (fun W (hb:Below w.heap.size w W)=>headp_any B b l (k:Int) x W (HW.out.on hb) hx (mput_ne (by omega) (by omega)) hB)
    clear hw hk hx HBD
    go_enter Tryz.func93,Tryz.ntmps93
    go_wp2_with fail
    refine KW.out.mono ?_
    rintro r w1 ⟨rfl,hb1⟩
    have hb2:=HBX.out.trans (hb1.mono (by simp))
    have KH1:=Lib.hid (KH.out w1 hb2)
    have HF:=Lib.hid (FrC.of_below (b:=b) HLT.out hb2)
    clear hb1 hb2
    go_wp2_with fail
    refine KH1.out.mono ?_
    rintro r w2 ⟨rfl,e2,e3⟩
    have HZ:=Lib.hid (PutP.pre HF.out ⟨rfl,e2,e3⟩)
    clear e2 e3 KH1
    go_wp2
    go_end0
    rw [HN.out]
    exact HZ.out
def strP (m:Nat) (s:ByteArray):List Nat:=mput (m:Int) s.size++strN s
theorem textp_any (B b:Nat) (l:List Nat) (m:Nat) (s:ByteArray) (w:World) (h:WrP B b l w) (hs:s.size≤1000000) (hm:m=7∨m=8) (hB:B≤b) :
    Calls Tryz.prog 94 #[.pointer (some ⟨b,0,none⟩),.int .i64 (m:Int),.string s] w (PutP B b l (strP m s) w):=by
  have KH:=Lib.hid (headp_any B b l (m:Int) s.size w h (by omega) (mput_ne (by omega) (by omega)) hB)
  have HLN:=Lib.hid (strN_len s)
  have HSC:Hid (strP m s=mput (m:Int) s.size++strN s):=Lib.hid rfl
  have e64:(s.size:Int) % 18446744073709551616=(s.size:Int):=by omega
  clear h
  go_enter Tryz.func94,Tryz.ntmps94
  go_wp2_with fail
  refine KH.out.mono ?_
  rintro r w2 ⟨rfl,e2,e3⟩
  have hb2:=Lib.bytesWorld_below w2 5 s
  have hB2:B≤w2.heap.size:=by have:=e2.lt;omega
  have hc2:=Lib.run_convert_string_bytes (P:=Tryz.prog) w2 9 22 5 s (u:=.string) Tryz.underlying9 Tryz.underlying22 Tryz.underlying5
  have KQ:=Lib.hid (putp_any B b (l++mput (m:Int) s.size) _ s.size (grownCap w2 s.size 0 5) (strN s) (Lib.bytesWorld w2 5 s) (e2.on hb2) HLN.out hs (bytes_rd w2 s) (fun h=>by cases h) hB)
  have HF:=Lib.hid (e3.trans (FrC.of_below hB2 hb2))
  have HC:=Lib.hid hc2
  clear e2 e3 hb2 hB2 hc2 KH
  generalize Lib.bytesWorld w2 5 s=W3 at *
  generalize grownCap w2 s.size 0 5=cp at *
  go_wp2_with fail
  rw [HC.out]
  simp only [Result.andThen]
  rw [Oper.upon_value]
  go_wp2_with fail
  refine KQ.out.mono ?_
  rintro r w4 ⟨rfl,e2,e3⟩
  have HZ:=Lib.hid (PutP.pre (b:=b) (l:=l) (p:=strP m s) HF.out ⟨rfl,by rw [HSC.out,← List.append_assoc];exact e2,e3⟩)
  clear e2 e3 KQ HC
  go_wp2
  go_end0
  exact HZ.out
end Go.Proofs.YtnacbakcalcgaaaGreatDoor
