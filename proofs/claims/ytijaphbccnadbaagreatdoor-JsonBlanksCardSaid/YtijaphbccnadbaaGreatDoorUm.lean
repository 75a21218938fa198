/- Texts of the claim. -/
import Derived.Test.YtijaphbccnadbaaGreatDoorUg
import Derived.Test.YtijaphbccnadbaaGreatDoorUh
import Derived.Lib.Small
import Derived.OwnWalk
import Derived.Laws.AppendOwn
import Derived.Laws.MakeOwn
import Derived.Test.YtijaphbccnadbaaGreatDoorUa
import Derived.RegionTactic
set_option linter.unusedVariables false
set_option linter.unusedSimpArgs false
set_option maxHeartbeats 1000000
set_option maxRecDepth 100000
namespace Go.Proofs.YtijaphbccnadbaaGreatDoor
def plainB (c:UInt8):Bool:=decide (32≤c.toNat) && (decide (c.toNat ≠ 34) && decide (c.toNat ≠ 92))
theorem plainB_iff {c:UInt8}:plainB c=true ↔ 32≤c.toNat∧c.toNat ≠ 34∧c.toNat ≠ 92:=by simp [plainB]
theorem plainB_not {c:UInt8} (h:plainB c=false):c.toNat<32∨c.toNat=34∨c.toNat=92:=by
  have:¬ (32≤c.toNat∧c.toNat ≠ 34∧c.toNat ≠ 92):=fun e=>by rw [plainB_iff.2 e] at h;cases h
  omega
def hexd (n:Nat):UInt8:=if n<10 then UInt8.ofNat (48+n) else UInt8.ofNat (87+n)
def escB (c:UInt8):List UInt8 :=
  if c.toNat=34 then [92,34] else if c.toNat=92 then [92,92] else if c.toNat=8 then [92,98] else if c.toNat=9 then [92,116]
  else if c.toNat=10 then [92,110] else if c.toNat=12 then [92,102] else if c.toNat=13 then [92,114]
  else [92,117,48,48,hexd (c.toNat / 16),hexd (c.toNat % 16)]
def qb (c:UInt8):List UInt8:=if plainB c then [c] else escB c
def bodyL (l:List UInt8):List UInt8:=l.flatMap qb
theorem bodyL_cons (c:UInt8) (l:List UInt8):bodyL (c::l)=qb c++bodyL l:=rfl
theorem bodyL_append (a b:List UInt8):bodyL (a++b)=bodyL a++bodyL b:=by simp [bodyL]
theorem bodyL_plain {l:List UInt8} (h:∀ c∈l,plainB c=true):bodyL l=l:=by
  induction l with
  | nil=>rfl
  | cons c l ih=>rw [bodyL_cons,ih (fun x hx=>h x (by simp [hx]))];simp [qb,h c (by simp)]
theorem escB_len (c:UInt8):2≤(escB c).length∧(escB c).length≤6:=by
  unfold escB;repeat' split
  all_goals simp
theorem qb_len (c:UInt8):1≤(qb c).length∧(qb c).length≤6:=by
  unfold qb;split
  · simp
  · have:=escB_len c;omega
theorem bodyL_len (l:List UInt8):l.length≤(bodyL l).length∧(bodyL l).length≤6*l.length:=by
  induction l with
  | nil=>simp [bodyL]
  | cons c l ih=>have:=qb_len c;rw [bodyL_cons,List.length_append,List.length_cons];omega
def quoteL (l:List UInt8):List UInt8:=if validL l then 34::(bodyL l++[34]) else []
theorem quoteL_len (l:List UInt8):(quoteL l).length≤6*l.length+2:=by
  unfold quoteL;split
  · have:=bodyL_len l;simp;omega
  · simp
def plainN (l:List UInt8):Nat:=(l.takeWhile plainB).length
theorem plainN_le (l:List UInt8):plainN l≤l.length:=by
  unfold plainN;exact (List.takeWhile_prefix plainB).length_le
theorem plainN_take (l:List UInt8):l.take (plainN l)=l.takeWhile plainB:=by
  unfold plainN
  have e:l.takeWhile plainB++l.dropWhile plainB=l:=List.takeWhile_append_dropWhile
  generalize l.takeWhile plainB=a at *
  generalize l.dropWhile plainB=b at *
  subst e;exact List.take_left
theorem plainN_all (l:List UInt8):∀ c∈l.take (plainN l),plainB c=true:=by
  rw [plainN_take]
  intro c hc
  have:=List.all_takeWhile (p:=plainB) (l:=l)
  rw [List.all_eq_true] at this
  exact this c hc
theorem plainN_stop {l:List UInt8} (h:plainN l<l.length):plainB (l.getD (plainN l) 0)=false:=by
  induction l with
  | nil=>simp [plainN] at h
  | cons c l ih =>
    unfold plainN at h ⊢
    rw [List.takeWhile_cons] at h ⊢
    by_cases hc:plainB c=true
    · rw [if_pos hc] at h ⊢
      simp only [List.length_cons] at h ⊢
      have:=ih (by unfold plainN;omega)
      unfold plainN at this
      simpa using this
    · rw [if_neg hc]
      simpa using hc
theorem plainN_lt {l:List UInt8} {k:Nat} (h:k<plainN l):plainB (l.getD k 0)=true:=by
  have h1:=plainN_le l
  have h2:=plainN_all l (l.getD k 0) (by
    rw [List.mem_take_iff_getElem]
    exact ⟨k,by omega,by simp [List.getD,show k<l.length by omega]⟩)
  exact h2
def hexN (c:Nat):Option Nat :=
  if 48≤c∧c≤57 then some (c - 48) else if 97≤c∧c≤102 then some (c - 87) else if 65≤c∧c≤70 then some (c - 55) else none
theorem hexN_lt {c n:Nat} (h:hexN c=some n):n<16:=by
  unfold hexN at h
  repeat' split at h
  all_goals first | (cases h;omega) | (simp at h;omega) | cases h
theorem hexN_hexd:∀ n:Fin 16,hexN (hexd n.val).toNat=some n.val:=by decide
def hexF:Nat→Nat→List UInt8→Option Nat
  | 0,v,_=>some v
  | k+1,v,l=>match l with
    | []=>none
    | c::l=>match hexN c.toNat with
      | none=>none
      | some n=>hexF k (v*16+n) l
def fourL (l:List UInt8):Option Nat:=hexF 4 0 l
theorem hexF_lt:∀ (k v:Nat) (l:List UInt8) (r:Nat),hexF k v l=some r→r<(v+1)*16 ^ k:=by
  intro k
  induction k with
  | zero=>intro v l r h;simp [hexF] at h;subst h;simp
  | succ k ih =>
    intro v l r h
    cases l with
    | nil=>simp [hexF] at h
    | cons c l =>
      simp only [hexF] at h
      cases hn:hexN c.toNat with
      | none=>rw [hn] at h;cases h
      | some n =>
        rw [hn] at h
        have h1:=ih _ _ _ h
        have h2:=hexN_lt hn
        rw [Nat.pow_succ]
        have h3:(v*16+n+1)*16 ^ k≤(v+1)*(16 ^ k*16):=by
          rw [Nat.mul_comm (16 ^ k) 16,← Nat.mul_assoc]
          exact Nat.mul_le_mul_right _ (by omega)
        omega
theorem fourL_lt {l:List UInt8} {r:Nat} (h:fourL l=some r):r<65536:=by
  have:=hexF_lt 4 0 l r h;simpa using this
theorem hexF_short:∀ (k v:Nat) (l:List UInt8),l.length<k→hexF k v l=none:=by
  intro k
  induction k with
  | zero=>intro v l h;omega
  | succ k ih =>
    intro v l h
    cases l with
    | nil=>rfl
    | cons c l =>
      simp only [hexF]
      cases hexN c.toNat with
      | none=>rfl
      | some n=>exact ih _ _ (by simp at h;omega)
theorem fourL_len {l:List UInt8} {r:Nat} (h:fourL l=some r):4≤l.length:=by
  rcases Nat.lt_or_ge l.length 4 with h1 | h1
  · rw [fourL,hexF_short 4 0 l h1] at h;cases h
  · exact h1
def simpleE (c:Nat):Option UInt8 :=
  if c=34 then some 34 else if c=92 then some 92 else if c=47 then some 47 else if c=98 then some 8 else if c=102 then some 12
  else if c=110 then some 10 else if c=114 then some 13 else if c=116 then some 9 else none
def lowL (l:List UInt8):Option Nat :=
  if bt l 0=92∧bt l 1=117 then
    match fourL (l.drop 2) with
    | none=>none
    | some r=>if 56320≤r∧r≤57343 then some r else none
  else none
def escL (l : List UInt8) : Option (List UInt8 × Nat) :=
  match l with
  | [] => none
  | c :: l => if c.toNat = 117 then
      match fourL l with
      | none => none
      | some r =>
        if r < 55296 ∨ 57343 < r then some (enc (r : Int), 5)
        else if 56320 ≤ r then none
        else match lowL (l.drop 4) with
          | none => none
          | some low => some (enc ((65536 + (r - 55296) * 1024 + (low - 56320) : Nat) : Int), 11)
    else match simpleE c.toNat with
      | none => none
      | some x => some ([x], 1)
theorem lowL_len {l:List UInt8} {r:Nat} (h:lowL l=some r):6≤l.length∧56320≤r∧r≤57343:=by
  unfold lowL at h
  split at h
  · split at h
    · cases h
    · rename_i r' h1
      have:=fourL_len h1
      rw [List.length_drop] at this
      split at h
      · cases h;omega
      · cases h
  · cases h
theorem escL_len {l x:List UInt8} {n:Nat} (h:escL l=some (x,n)):1≤n∧n≤l.length:=by
  unfold escL at h
  split at h
  · cases h
  · rename_i c l
    split at h
    · split at h
      · cases h
      · rename_i r hr
        have h4:=fourL_len hr
        split at h
        · cases h;simp;omega
        · split at h
          · cases h
          · split at h
            · cases h
            · rename_i low hl
              have:=lowL_len hl
              rw [List.length_drop] at this
              simp only [Option.some.injEq,Prod.mk.injEq] at h
              obtain ⟨_,rfl⟩:=h
              simp only [List.length_cons];omega
    · split at h
      · cases h
      · cases h;simp
def glue (x:List UInt8) (n:Nat) (r:Option (List UInt8 × Nat)):Option (List UInt8 × Nat):=r.map fun p=>(x++p.1,n+p.2)
theorem glue_glue (x y:List UInt8) (n m:Nat) (r:Option (List UInt8 × Nat)):glue x n (glue y m r)=glue (x++y) (n+m) r:=by
  cases r with
  | none=>rfl
  | some p=>simp [glue,List.append_assoc,Nat.add_assoc]
theorem glue_nil (r:Option (List UInt8 × Nat)):glue [] 0 r=r:=by
  cases r with
  | none=>rfl
  | some p=>simp [glue]
def unqF:Nat→List UInt8→Option (List UInt8 × Nat)
  | 0,_=>none
  | f+1,l=>match l with
    | []=>none
    | c::l' =>
      if c.toNat=34 then some ([],1)
      else if c.toNat=92 then
        match escL l' with
        | none=>none
        | some (x,n)=>glue x (1+n) (unqF f (l'.drop n))
      else if (runeL (c::l')).1<32 then none
      else glue ((c::l').take (runeL (c::l')).2) (runeL (c::l')).2 (unqF f ((c::l').drop (runeL (c::l')).2))
def unqL (l:List UInt8):Option (List UInt8 × Nat):=unqF l.length l
theorem unqF_nil (f:Nat):unqF f []=none:=by cases f <;> rfl
theorem unqF_eq : ∀ (f g : Nat) (l : List UInt8), l.length ≤ f → l.length ≤ g → unqF f l = unqF g l := by
  intro f
  induction f with
  | zero => intro g l h _; have : l = [] := List.eq_nil_of_length_eq_zero (by omega)
            rw [this, unqF_nil, unqF_nil]
  | succ f ih =>
    intro g l h k
    cases g with
    | zero => have : l = [] := List.eq_nil_of_length_eq_zero (by omega)
              rw [this, unqF_nil, unqF_nil]
    | succ g =>
      cases l with
      | nil => rfl
      | cons c l' =>
        have hw := runeL_width (c :: l') (by simp)
        simp only [List.length_cons] at h k hw
        simp only [unqF]
        split
        · rfl
        · split
          · cases he : escL l' with
            | none => rfl
            | some p =>
              obtain ⟨x, n⟩ := p
              have := escL_len he
              simp only
              rw [ih g (l'.drop n) (by rw [List.length_drop]; omega) (by rw [List.length_drop]; omega)]
          · split
            · rfl
            · rw [ih g _ (by rw [List.length_drop, List.length_cons]; omega) (by rw [List.length_drop, List.length_cons]; omega)]
theorem unqL_end {c:UInt8} (h:c.toNat=34) (l:List UInt8):unqL (c::l)=some ([],1):=by
  unfold unqL;simp only [List.length_cons,unqF,if_pos h]
theorem unqL_esc {c:UInt8} (h:c.toNat=92) {l x:List UInt8} {n:Nat} (he:escL l=some (x,n)):unqL (c::l)=glue x (1+n) (unqL (l.drop n)):=by
  have hl:=escL_len he
  unfold unqL;simp only [List.length_cons,unqF,if_neg (show ¬ c.toNat=34 by omega),if_pos h,he]
  rw [unqF_eq _ (l.drop n).length _ (by rw [List.length_drop];omega) (Nat.le_refl _)]
theorem unqL_noesc {c:UInt8} (h:c.toNat=92) {l:List UInt8} (he:escL l=none):unqL (c::l)=none:=by
  unfold unqL;simp only [List.length_cons,unqF,if_neg (show ¬ c.toNat=34 by omega),if_pos h,he]
theorem unqL_bad {c:UInt8} (h1:c.toNat ≠ 34) (h2:c.toNat ≠ 92) {l:List UInt8} (hr:(runeL (c::l)).1<32):unqL (c::l)=none:=by
  unfold unqL;simp only [List.length_cons,unqF,if_neg h1,if_neg h2,if_pos hr]
theorem unqL_rune {c:UInt8} (h1:c.toNat ≠ 34) (h2:c.toNat ≠ 92) {l:List UInt8} (hr:¬ (runeL (c::l)).1<32) :
    unqL (c::l)=glue ((c::l).take (runeL (c::l)).2) (runeL (c::l)).2 (unqL ((c::l).drop (runeL (c::l)).2)):=by
  have hw:=runeL_width (c::l) (by simp)
  unfold unqL;simp only [List.length_cons,unqF,if_neg h1,if_neg h2,if_neg hr]
  rw [unqF_eq _ ((c::l).drop (runeL (c::l)).2).length _ (by rw [List.length_drop,List.length_cons];omega) (Nat.le_refl _)]
theorem runeL_ascii {c:UInt8} (h:c.toNat<128) (l:List UInt8):runeL (c::l)=((c.toNat:Int),1):=by
  have hok:okR (c.toNat:Int)=true:=okR_iff.2 (by omega)
  have he:enc (c.toNat:Int)=[c]:=by
    unfold enc encN
    simp only [Int.toNat_natCast,if_pos h]
    simp
  have:=runeL_enc hok l
  rw [he] at this
  exact this
theorem unqL_low {c:UInt8} (h:c.toNat<32) (l:List UInt8):unqL (c::l)=none :=
  unqL_bad (by omega) (by omega) (by rw [runeL_ascii (by omega)];show (c.toNat:Int)<32;omega)
theorem enc_head {r:Int} (h:okR r=true) {c:UInt8} {l:List UInt8} (he:enc r=c::l):(c.toNat<128∧r=c.toNat∧l=[])∨(128≤r∧128≤c.toNat∧∀ x∈l,128≤x.toNat):=by
  have key:∀ y:Nat,128≤y→y<256→128≤(UInt8.ofNat y).toNat:=by intro y h1 h2;rw [UInt8.toNat_ofNat'];omega
  obtain ⟨n,rfl,hn⟩:=okR_nat h
  unfold enc encN at he
  rw [Int.toNat_natCast] at he
  split at he
  · rename_i h1
    left
    simp only [List.map_cons,List.map_nil,List.cons.injEq] at he
    obtain ⟨rfl,rfl⟩:=he
    have e:(UInt8.ofNat n).toNat=n:=by rw [UInt8.toNat_ofNat'];omega
    rw [e];exact ⟨h1,rfl,rfl⟩
  · right
    repeat' split at he
    all_goals
      simp only [List.map_cons,List.map_nil,List.cons.injEq] at he
      obtain ⟨rfl,rfl⟩:=he
      refine ⟨by omega,key _ (by omega) (by omega),?_⟩
      intro x hx
      simp only [List.mem_cons,List.not_mem_nil,or_false] at hx
      first
        | (rcases hx with rfl | rfl | rfl <;> exact key _ (by omega) (by omega))
        | (rcases hx with rfl | rfl <;> exact key _ (by omega) (by omega))
        | (subst hx;exact key _ (by omega) (by omega))
theorem enc_plain {r:Int} (h:okR r=true) (hp:∀ c∈enc r,plainB c=true):32≤r:=by
  cases he:enc r with
  | nil=>exact absurd he (enc_ne r)
  | cons c l =>
    rcases enc_head h he with ⟨h1,h2,h3⟩ | ⟨h1,_⟩
    · have:=plainB_iff.1 (hp c (by rw [he];simp));omega
    · omega
theorem unqL_run:∀ (m:Nat) (run rest:List UInt8),run.length≤m→(∀ c∈run,plainB c=true)→(rest=[]∨plainB (rest.getD 0 0)=false) →
    unqL (run++rest)=if validL run then glue run run.length (unqL rest) else none:=by
  intro m
  induction m with
  | zero =>
    intro run rest h _ _
    have:run=[]:=List.eq_nil_of_length_eq_zero (by omega)
    subst this
    rw [if_pos (by rfl)];simp [glue_nil]
  | succ m ih =>
    intro run rest h hp hr
    cases run with
    | nil=>rw [if_pos (by rfl)];simp [glue_nil]
    | cons c l =>
      have hc:=plainB_iff.1 (hp c (by simp))
      have hw:=runeL_width (c::l) (by simp)
      by_cases h0:0≤(runeL (c::l)).1
      · obtain ⟨h1,h2,_,_⟩:=runeL_inv (c::l) (by simp) h0
        generalize hR:(runeL (c::l)).1=r at *
        have hlen:(enc r).length=(runeL (c::l)).2:=by rw [h2,List.length_take];omega
        generalize (runeL (c::l)).2=k at *
        have e:c::l=enc r++(c::l).drop k:=by rw [h2,List.take_append_drop]
        have hr32:32≤r:=enc_plain h1 (fun x hx=>hp x (by rw [h2] at hx;exact List.mem_of_mem_take hx))
        have hru:runeL (c::(l++rest))=(r,k):=by
          have:=runeL_enc h1 ((c::l).drop k++rest)
          rw [← List.append_assoc,← e,hlen] at this;exact this
        have hv:validL (c::l)=validL ((c::l).drop k):=by
          rw [valid_cons (by simp),hR,decide_eq_true h0,Bool.true_and]
          have:runeL (c::l)=(r,k):=by
            have:=runeL_enc h1 ((c::l).drop k)
            rw [← e,hlen] at this;exact this
          rw [this]
        have hu:=unqL_rune (c:=c) hc.2.1 hc.2.2 (l:=l++rest) (by rw [hru];show ¬ r<32;omega)
        rw [hru] at hu
        simp only at hu
        have ht:(c::(l++rest)).take k=(c::l).take k:=by
          rw [← List.cons_append,List.take_append_of_le_length (by omega)]
        have hd:(c::(l++rest)).drop k=(c::l).drop k++rest:=by
          rw [← List.cons_append,List.drop_append_of_le_length (by omega)]
        rw [ht,hd] at hu
        rw [List.cons_append,hu,ih ((c::l).drop k) rest (by rw [List.length_drop];omega) (fun x hx=>hp x (List.mem_of_mem_drop hx)) hr,hv]
        split
        · rw [glue_glue,List.take_append_drop,List.length_drop]
          congr 1;omega
        · rfl
      · have hv:validL (c::l)=false:=by rw [valid_cons (by simp),decide_eq_false h0];rfl
        rw [hv]
        show unqL (c::(l++rest))=none
        apply unqL_bad hc.2.1 hc.2.2
        rcases Int.lt_or_le (runeL (c::(l++rest))).1 0 with h1 | h1
        · omega
        · exfalso
          obtain ⟨a1,a2,_,_⟩:=runeL_inv (c::(l++rest)) (by simp) h1
          have hww:=runeL_width (c::(l++rest)) (by simp)
          generalize (runeL (c::(l++rest))).1=r at *
          have hlen:(enc r).length=(runeL (c::(l++rest))).2:=by rw [a2,List.length_take];omega
          generalize (runeL (c::(l++rest))).2=k at *
          by_cases hk:k≤(c::l).length
          · have e:c::l=enc r++(c::l).drop k:=by
              have:(c::(l++rest)).take k=(c::l).take k:=by rw [← List.cons_append,List.take_append_of_le_length hk]
              rw [a2,this,List.take_append_drop]
            have:=runeL_enc a1 ((c::l).drop k)
            rw [← e] at this
            rw [this] at h0
            exact h0 h1
          · rcases hr with hr | hr
            · subst hr
              simp only [List.append_nil] at hww hk
              omega
            · have hx:=plainB_not hr
              have hb:bt (enc r++(c::(l++rest)).drop k) (c::l).length=(rest.getD 0 0).toNat:=by
                rw [a2,List.take_append_drop,← List.cons_append]
                have:=bt_append_right (a:=c::l) (b:=rest) 0
                rw [Nat.add_zero] at this
                rw [this];rfl
              have h2:=(bt_enc_cont a1 ((c::(l++rest)).drop k) (k:=(c::l).length) (by omega)).2 (by simp)
              rw [hb] at h2
              omega
theorem hexF_esc {a:Nat} (ha:a<256) (X:List UInt8):fourL (48::48::hexd (a / 16)::hexd (a % 16)::X)=some a:=by
  have h1:=hexN_hexd ⟨a / 16,by omega⟩
  have h2:=hexN_hexd ⟨a % 16,by omega⟩
  have h0:hexN (48:UInt8).toNat=some 0:=by decide
  simp only at h1 h2
  simp only [fourL,hexF,h0,h1,h2]
  congr 1;omega
theorem enc_one {n:Nat} (h:n<128):enc (n:Int)=[UInt8.ofNat n]:=by
  unfold enc encN
  simp only [Int.toNat_natCast,if_pos h];rfl
theorem unqL_escB {c:UInt8} (h:plainB c=false) (X:List UInt8):unqL (escB c++X)=glue [c] (escB c).length (unqL X):=by
  have hc:=plainB_not h
  have e92:(92:UInt8).toNat=92:=rfl
  have step:∀ (y z:UInt8),escL (y::X)=some ([z],1)→z=c→unqL ([92,y]++X)=glue [c] 2 (unqL X):=by
    intro y z hy hz
    have:=unqL_esc e92 hy
    subst hz
    simpa using this
  have hofn:∀ k:Nat,c.toNat=k→UInt8.ofNat k=c:=by intro k hk;subst hk;simp
  unfold escB
  repeat' split
  · rename_i h1;exact step 34 34 rfl (hofn 34 h1)
  · rename_i h1;exact step 92 92 rfl (hofn 92 h1)
  · rename_i h1;exact step 98 8 rfl (hofn 8 h1)
  · rename_i h1;exact step 116 9 rfl (hofn 9 h1)
  · rename_i h1;exact step 110 10 rfl (hofn 10 h1)
  · rename_i h1;exact step 102 12 rfl (hofn 12 h1)
  · rename_i h1;exact step 114 13 rfl (hofn 13 h1)
  · have hlt:c.toNat<32:=by omega
    have he:escL (117::48::48::hexd (c.toNat / 16)::hexd (c.toNat % 16)::X)=some ([c],5):=by
      simp only [escL,hexF_esc c.toNat_lt X]
      rw [if_pos (by rfl),if_pos (by omega),enc_one (by omega),hofn _ rfl]
    have:=unqL_esc e92 he
    simpa using this
theorem enc_cases {r:Int} (h:okR r=true):(∃ c,enc r=[c]∧plainB c=false)∨(∃ c l,enc r=c::l∧32≤r∧plainB c=true∧∀ x∈l,plainB x=true):=by
  cases he:enc r with
  | nil=>exact absurd he (enc_ne r)
  | cons c l =>
    rcases enc_head h he with ⟨h1,h2,h3⟩ | ⟨h1,h2,h3⟩
    · subst h3
      cases hp:plainB c
      · left;exact ⟨c,rfl,hp⟩
      · right
        have:=plainB_iff.1 hp
        exact ⟨c,[],rfl,by omega,hp,fun x hx=>by simp at hx⟩
    · right
      refine ⟨c,l,rfl,by omega,plainB_iff.2 (by omega),fun x hx=>plainB_iff.2 ?_⟩
      have:=h3 x hx;omega
theorem bodyL_enc_esc {r:Int} {c:UInt8} (he:enc r=[c]) (hp:plainB c=false):bodyL (enc r)=escB c:=by
  rw [he];simp [bodyL,qb,hp]
theorem bodyL_enc_plain {r:Int} {c:UInt8} {l:List UInt8} (he:enc r=c::l) (hp:plainB c=true) (hl:∀ x∈l,plainB x=true):bodyL (enc r)=enc r:=by
  apply bodyL_plain
  intro x hx
  rw [he] at hx
  rcases List.mem_cons.1 hx with rfl | hx
  · exact hp
  · exact hl x hx
theorem unqL_encq {r:Int} (h:okR r=true) (X:List UInt8):unqL (bodyL (enc r)++X)=glue (enc r) (bodyL (enc r)).length (unqL X):=by
  rcases enc_cases h with ⟨c,he,hp⟩ | ⟨c,l,he,h32,hp,hl⟩
  · rw [bodyL_enc_esc he hp,he]
    exact unqL_escB hp X
  · rw [bodyL_enc_plain he hp hl]
    have hc:=plainB_iff.1 hp
    have hru:=runeL_enc h X
    rw [he] at hru ⊢
    have:=unqL_rune (c:=c) hc.2.1 hc.2.2 (l:=l++X) (by rw [← List.cons_append,hru];show ¬ r<32;omega)
    rw [← List.cons_append,hru] at this
    simp only at this
    rw [this,List.take_left,List.drop_left]
theorem unqL_join:∀ (rs:List Int),okAll rs=true→∀ X,unqL (bodyL (joinL rs)++X)=glue (joinL rs) (bodyL (joinL rs)).length (unqL X):=by
  intro rs
  induction rs with
  | nil=>intro _ X;simp [joinL,bodyL,glue_nil]
  | cons r rs ih =>
    intro h X
    simp only [okAll,List.all_cons,Bool.and_eq_true] at h
    rw [joinL_cons,bodyL_append,List.append_assoc,unqL_encq h.1,ih h.2,glue_glue,List.length_append]
theorem unqL_quoted {l:List UInt8} (h:validL l=true) (more:List UInt8):unqL (bodyL l++34::more)=some (l,(bodyL l).length+1):=by
  obtain ⟨h1,h2⟩:=join_runes h
  have:=unqL_join (runesL l) h1 (34::more)
  rw [h2,unqL_end rfl] at this
  rw [this];simp [glue]
end Go.Proofs.YtijaphbccnadbaaGreatDoor
namespace Go.Proofs.YtijaphbccnadbaaGreatDoor
open Go.RowKit Go.Shelf
def putS (r:Int):ByteArray:=⟨(if okR r then enc r else []).toArray⟩
theorem validRune_ok (r:Int):Lib.validRune r=okR r:=by
  rw [Bool.eq_iff_iff,okR_iff];unfold Lib.validRune;rw [decide_eq_true_eq];omega
theorem encode_enc {r:Int} (h:okR r=true):Utf8.encode r=⟨(enc r).toArray⟩:=by
  have hv:Utf8.valid r=true:=h
  obtain ⟨n,rfl,hn⟩:=okR_nat h
  unfold Utf8.encode enc encN
  simp only [hv,if_true,Int.toNat_natCast]
  repeat' split
  all_goals simp
theorem put_any (r:Int) (w:World) :
    Calls Tryz.prog 192 #[.int .i32 r] w fun e w'=>e=.returned (.string (putS r))∧w=w':=by
  have K:=Lib.hid (Tryz.utf8_ValidRune r w)
  rw [validRune_ok] at K
  unfold putS
  cases hv:okR r
  · rw [hv] at K
    clear hv
    go_enter Tryz.func192,Tryz.ntmps192
    go_wp2_with fail
    refine K.out.mono ?_
    rintro x w' ⟨rfl,rfl⟩
    go_wp2
    go_ret
    exact ⟨rfl,rfl⟩
  · have he:=Lib.hid (encode_enc hv)
    rw [hv] at K
    clear hv
    go_enter Tryz.func192,Tryz.ntmps192
    go_wp2_with fail
    refine K.out.mono ?_
    rintro x w' ⟨rfl,rfl⟩
    go_wp2
    go_ret
    rw [he.out]
    exact ⟨rfl,rfl⟩
def rv (l:List Int):List Value:=l.map (Value.int .i32)
def RR (s:ByteArray) (B IT:Nat) (w:World) (k:Nat) (v:Value) (wr:World):Prop :=
  ∃ pos acc,s.size - pos≤k∧acc++runesL (tailL s pos)=runesL s.data.toList∧acc.length≤pos∧pos≤s.size∧wr.ownsRow B 21 1 v acc.length (rv acc)∧wr.heap[IT]? = some (.stringIter s pos)∧Below B w wr
theorem iter_grown {w w':World} {B:Nat} {e:TypeId} {v:Value} {n:Nat} {xs:List Value} {IT:Nat} {s:ByteArray} {p:Nat} (hi:w.heap[IT]? = some (.stringIter s p)) (h:w.ownsRow B e 1 v n xs) (hg:w.grownBy w' v.ownBlock):w'.heap[IT]? = some (.stringIter s p):=by
  rw [hg.block IT (Array.getElem?_eq_some_iff.1 hi).1];exact hi
  intro e
  rcases h.2 with ⟨rfl,_⟩ | ⟨g,cap,cur,rfl,hB,hg,rest⟩
  · simp [Value.ownBlock] at e
  · simp [Value.ownBlock] at e;subst e;rw [hg] at hi;cases hi
theorem iter_alloc {w:World} {IT:Nat} {s:ByteArray} {p:Nat} (hi:w.heap[IT]? = some (.stringIter s p)) (o:Obj):(w.alloc o).heap[IT]? = some (.stringIter s p):=by
  rw [Lib.alloc_old w o IT (Array.getElem?_eq_some_iff.1 hi).1];exact hi
theorem RR.step {s:ByteArray} {B IT:Nat} {w wr w':World} {k pos:Nat} {acc:List Int} {v v':Value} {o:Obj} (hp:pos<s.size) (hk:s.size - pos≤k+1) (ha:acc++runesL (tailL s pos)=runesL s.data.toList) (hl:acc.length≤pos)
    (ho:wr.ownsRow B 21 1 v acc.length (rv acc)) (hi:wr.heap[IT]? = some (.stringIter s (pos+(runeL (tailL s pos)).2))) (hb:Below B w wr) (hB:B≤wr.heap.size)
    (h1:w'.ownsRow B 21 1 v' (acc.length+1) (rv acc++[.int .i32 (runeL (tailL s pos)).1])) (h2:(wr.alloc o).grownBy w' v.ownBlock):RR s B IT w k v' w':=by
  have hw:=runeL_width (tailL s pos) (tailL_ne hp)
  rw [tailL_length] at hw
  refine ⟨pos+(runeL (tailL s pos)).2,acc++[(runeL (tailL s pos)).1],by omega,?_,by simp;omega,by omega,?_,?_,?_⟩
  · rw [← ha,runesL_cons (tailL_ne hp),tailL_drop];simp
  · simpa [rv] using h1
  · exact iter_grown (iter_alloc hi o) (ho.alloc o) h2
  · exact (hb.alloc hB o).grown h2 (by simp;omega) (fun g hg=>(ho.lt g hg).1)
theorem at_get (s:ByteArray) (k:Nat) (h:k<s.size):s.data.toList.getD k 0=s[k]'h:=by
  rw [← get!_list];exact Utf8W.get!_of_lt s k h
theorem plainBytes_any (s:ByteArray) (w:World) (hs:s.size≤maxLen) :
    Calls Tryz.prog 102 #[.string s] w fun e w'=>e=.returned (.int .i64 ((plainN s.data.toList:Nat):Int))∧w=w':=by
  unfold maxLen at hs
  have hle:=plainN_le s.data.toList
  have hsz:s.data.toList.length=s.size:=by simp
  rw [hsz] at hle
  have HLT:=Lib.hid (fun k (h:k<plainN s.data.toList)=>plainB_iff.1 (plainN_lt h))
  have HST:=Lib.hid (fun (h:plainN s.data.toList<s.size)=>plainB_not (plainN_stop (l:=s.data.toList) (by rw [hsz];exact h)))
  clear hsz
  generalize hN:plainN s.data.toList=N at *
  clear hN
  go_enter Tryz.func102,Tryz.ntmps102
  go_wp2
  go_loop [3] (fun i=>∃ k:Nat,k≤N∧i=.int .i64 (k:Int)) (fun i=>s.size - (intOf i).toNat)
  case atStart=>exact ⟨0,Nat.zero_le _,rfl⟩
  case round =>
    obtain ⟨k,hk,rfl⟩:=hrel
    by_cases hlt:k<N
    · have h1:=HLT.out k hlt
      rw [at_get s k (by omega)] at h1
      have hks:k<s.size:=by omega
      have hkz:(k:Int)<(s.size:Int):=by omega
      generalize hx:s[k]=x at *
      have c1:decide ((32:Int)≤(x.toNat:Int))=true:=decide_eq_true (by omega)
      have c2:((x.toNat:Int) != 34)=true:=by rw [bne_iff_ne];omega
      have c3:((x.toNat:Int) != 92)=true:=by rw [bne_iff_ne];omega
      have c4:((x.toNat:Int) == 34)=false:=by rw [beq_eq_false_iff_ne];omega
      have c5:((x.toNat:Int) == 92)=false:=by rw [beq_eq_false_iff_ne];omega
      clear h1
      go_wp2
      go_round
      case rel=>exact ⟨k+1,by omega,by go_num⟩
      case measure=>simp [intOf];omega
    · obtain rfl:k=N:=by omega
      by_cases hks:k<s.size
      · have h1:=HST.out hks
        rw [at_get s k hks] at h1
        have hkz:(k:Int)<(s.size:Int):=by omega
        generalize hx:s[k]=x at *
        by_cases d1:x.toNat<32
        · have c1:decide ((32:Int)≤(x.toNat:Int))=false:=decide_eq_false (by omega)
          clear h1 d1
          go_wp2
          go_ret
          exact ⟨rfl,rfl⟩
        · have c1:decide ((32:Int)≤(x.toNat:Int))=true:=decide_eq_true (by omega)
          rcases h1 with h1 | h1 | h1
          · omega
          · have c2:((x.toNat:Int) != 34)=false:=by rw [bne_eq_false_iff_eq];omega
            have c4:((x.toNat:Int) == 34)=true:=by rw [beq_iff_eq];omega
            clear h1 d1
            go_wp2
            go_ret
            exact ⟨rfl,rfl⟩
          · have c2:((x.toNat:Int) != 34)=true:=by rw [bne_iff_ne];omega
            have c3:((x.toNat:Int) != 92)=false:=by rw [bne_eq_false_iff_eq];omega
            have c4:((x.toNat:Int) == 34)=false:=by rw [beq_eq_false_iff_ne];omega
            have c5:((x.toNat:Int) == 92)=true:=by rw [beq_iff_eq];omega
            clear h1 d1
            go_wp2
            go_ret
            exact ⟨rfl,rfl⟩
      · have hkz:¬ (k:Int)<(s.size:Int):=by omega
        go_wp2
        go_ret
        exact ⟨rfl,rfl⟩
def Rk (k:IntKind) (w:World) (ad:Option Addr) (xs:List Int):Prop :=
  ∀ i,i<xs.length→∃ b o,ad=some ⟨b,o,none⟩∧b<w.heap.size∧w.cell? ⟨b,o+i,none⟩=some (.int k (xs.getD i 0))
theorem Rk.at {k:IntKind} {w:World} {b o:Nat} {xs:List Int} (h:Rk k w (some ⟨b,o,none⟩) xs) (i:Nat) (hi:i<xs.length) :
    w.cell? ⟨b,o+i,none⟩=some (.int k (xs.getD i 0)):=by
  obtain ⟨b',o',e,_,hc⟩:=h i hi
  cases e;exact hc
theorem Rk.nil (k:IntKind) (w:World) (ad:Option Addr):Rk k w ad []:=by intro i h;simp at h
theorem Rk.below {k:IntKind} {w w':World} {ad:Option Addr} {xs:List Int} (h:Rk k w ad xs) (hb:Below w.heap.size w w'):Rk k w' ad xs:=by
  intro i hi
  obtain ⟨b,o,e,hlt,hc⟩:=h i hi
  exact ⟨b,o,e,Nat.lt_of_lt_of_le hlt hb.size,by rw [hb.cell (p:=⟨b,o+i,none⟩) hlt];exact hc⟩
def JR (rs:List Int) (B:Nat) (w:World) (k:Nat) (v:Value) (wr:World):Prop :=
  ∃ i,rs.length - i≤k∧i≤rs.length∧v=.int .i64 i∧okAll (rs.take i)=true∧Lib.IsBuilderF 62 5 B B (Lib.byteCells (joinL (rs.take i))) wr∧Below B w wr∧B<wr.heap.size
theorem take_snocI (rs:List Int) (i:Nat) (hi:i<rs.length):rs.take (i+1)=rs.take i++[rs.getD i 0]:=by
  rw [List.take_succ_eq_append_getElem hi];simp [List.getD,hi]
theorem okAll_snoc {rs:List Int} {r:Int} (h:okAll rs=true) (hr:okR r=true):okAll (rs++[r])=true:=by
  simp [okAll] at h ⊢;exact ⟨h,hr⟩
theorem JR.step {rs:List Int} {B i k:Nat} {w wr w':World} {p:Value} (hi:i<rs.length) (hk:rs.length - i≤k+1) (ha:okAll (rs.take i)=true) (hr:okR (rs.getD i 0)=true) (hb:Below B w wr) (hB:B<wr.heap.size)
    (h1:Lib.BuilderAtF 62 5 B B (.pointer (some ⟨B,0,none⟩)) (Lib.byteCells (joinL (rs.take i))++Lib.runeCells (rs.getD i 0)) w') (h2:Below B wr w'):JR rs B w k (.int .i64 ((i+1:Nat):Int)) w':=by
  refine ⟨i+1,by omega,by omega,rfl,?_,?_,hb.trans h2,Nat.lt_of_lt_of_le hB h2.size⟩
  · rw [take_snocI rs i hi];exact okAll_snoc ha hr
  · rw [take_snocI rs i hi,joinL_append]
    have e:joinL [rs.getD i 0]=Lib.encodeRune (rs.getD i 0):=by rw [encodeRune_enc hr];simp [joinL]
    rw [e,Lib.byteCells_append,Lib.byteCells_encodeRune]
    exact Or.inr h1
end Go.Proofs.YtijaphbccnadbaaGreatDoor
