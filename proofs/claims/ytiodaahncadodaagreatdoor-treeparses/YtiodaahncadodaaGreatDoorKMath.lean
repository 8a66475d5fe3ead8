/- Texts laid as one. -/
import Derived.Lib.DecodeNEq
import Derived.Lib.RuneBytes
import Derived.Lib.Join
set_option maxHeartbeats 1000000
set_option linter.unusedVariables false
set_option linter.unusedSimpArgs false
namespace Utf
open Go.Lib
def at' (l : List UInt8) (i : Nat) : Nat:=(l.getD i 0).toNat
theorem zdI (l : List UInt8) (i : Nat) : at' l i < 256:=(l.getD i 0).toNat_lt
def sz (b : Nat) : Nat:=if b < 128 then 1 else if b < 194 then 0 else if b < 224 then 2 else if b < 240 then 3 else if b < 245 then 4 else 0
def lo (b : Nat) : Nat:=if b = 224 then 160 else if b = 240 then 144 else 128
def hi (b : Nat) : Nat:=if b = 237 then 159 else if b = 244 then 143 else 191
def zbm (n b0 b1 b2 b3 : Nat) : Nat × Bool :=
 if sz b0 = 1 then (1,true)
 else if sz b0 = 0 then (1,false)
 else if ¬ (1 < n ∧ lo b0 ≤ b1 ∧ b1 ≤ hi b0) then (1,false)
 else if sz b0 = 2 then (2,true)
 else if ¬ (2 < n ∧ 128 ≤ b2 ∧ b2 ≤ 191) then (2,false)
 else if sz b0 = 3 then (3,true)
 else if ¬ (3 < n ∧ 128 ≤ b3 ∧ b3 ≤ 191) then (3,false)
 else (4,true)
def zbs (l : List UInt8) : Nat × Bool:=zbm l.length (at' l 0) (at' l 1) (at' l 2) (at' l 3)
def dec (l : List UInt8) : Nat × Nat:=decodeN l.length (at' l 0) (at' l 1) (at' l 2) (at' l 3)
theorem zmo (n b0 b1 b2 b3 : Nat) : 1 ≤ (zbm n b0 b1 b2 b3).1:=by
 unfold zbm
 repeat' split
 all_goals simp
theorem zmp (n b0 b1 b2 b3 : Nat) : (zbm n b0 b1 b2 b3).1 ≤ 4:=by
 unfold zbm
 repeat' split
 all_goals simp
theorem zmq (n b0 b1 b2 b3 : Nat) (h : 1 ≤ n) : (zbm n b0 b1 b2 b3).1 ≤ n:=by
 unfold zbm
 repeat' split
 all_goals simp
 all_goals omega
theorem zdh (l : List UInt8) : 1 ≤ (zbs l).1:=zmo ..
theorem zhd (l : List UInt8) : (zbs l).1 ≤ 4:=zmp ..
theorem zko (l : List UInt8) (h : l ≠ []) : (zbs l).1 ≤ l.length:=zmq _ _ _ _ _ (by cases l <;> simp at h ⊢)
theorem zjk (b : Nat) (h : b < 256) : b < 128 ∨ (128 ≤ b ∧ b < 194) ∨ (194 ≤ b ∧ b < 224) ∨ b = 224 ∨ ((225 ≤ b ∧ b < 237) ∨ (238 ≤ b ∧ b < 240)) ∨ b = 237 ∨ b = 240 ∨ (241 ≤ b ∧ b < 244) ∨ b = 244 ∨ 245 ≤ b:=by omega
theorem zcX (n b0 b1 b2 b3 : Nat) (hb : (128 ≤ b0 ∧ b0 < 194) ∨ (245 ≤ b0 ∧ b0 < 256)) (h1 : b1 < 256) (h2 : b2 < 256) (h3 : b3 < 256) : decodeN n b0 b1 b2 b3 = (65533,1):=by
 unfold decodeN
 repeat' split
 all_goals first | rfl | (exfalso;omega)
theorem zeR (n b0 b1 b2 b3 : Nat) (hn : 1 ≤ n) (h0 : b0 < 256) (h1 : b1 < 256) (h2 : b2 < 256) (h3 : b3 < 256) :
  ((zbm n b0 b1 b2 b3).2 = true → (decodeN n b0 b1 b2 b3).2 = (zbm n b0 b1 b2 b3).1) ∧ ((zbm n b0 b1 b2 b3).2 = false → decodeN n b0 b1 b2 b3 = (65533,1)):=by
 rcases zjk b0 h0 with h | h | h | h | h | h | h | h | h | h
 ·have : sz b0 = 1:=by unfold sz;simp [h]
  have hd : decodeN n b0 b1 b2 b3 = (b0,1):=by unfold decodeN;simp [h]
  simp [zbm,this,hd]
 ·have : sz b0 = 0:=by unfold sz;rw [if_neg (by omega),if_pos h.2]
  simp [zbm,this,zcX n b0 b1 b2 b3 (.inl h) h1 h2 h3]
 ·have e : sz b0 = 2:=by unfold sz;rw [if_neg (by omega),if_neg (by omega),if_pos h.2]
  have f : lo b0 = 128:=by unfold lo;rw [if_neg (by omega),if_neg (by omega)]
  have g : hi b0 = 191:=by unfold hi;rw [if_neg (by omega),if_neg (by omega)]
  rw [← slow_C2 n b0 b1 b2 b3 hn h1 h2 h3 h]
  unfold zbm slowN
  rw [e,f,g]
  repeat' split
  all_goals first | (exfalso;omega) | simp
 ·have e : sz b0 = 3:=by subst h;rfl
  have f : lo b0 = 160:=by subst h;rfl
  have g : hi b0 = 191:=by subst h;rfl
  rw [← slow_E0 n b0 b1 b2 b3 hn h1 h2 h3 h]
  unfold zbm slowN
  rw [e,f,g]
  repeat' split
  all_goals first | (exfalso;omega) | simp
 ·have e : sz b0 = 3:=by unfold sz;rw [if_neg (by omega),if_neg (by omega),if_neg (by omega),if_pos (by omega)]
  have f : lo b0 = 128:=by unfold lo;rw [if_neg (by omega),if_neg (by omega)]
  have g : hi b0 = 191:=by unfold hi;rw [if_neg (by omega),if_neg (by omega)]
  rw [← slow_E1 n b0 b1 b2 b3 hn h1 h2 h3 h]
  unfold zbm slowN
  rw [e,f,g]
  repeat' split
  all_goals first | (exfalso;omega) | simp
 ·have e : sz b0 = 3:=by subst h;rfl
  have f : lo b0 = 128:=by subst h;rfl
  have g : hi b0 = 159:=by subst h;rfl
  rw [← slow_ED n b0 b1 b2 b3 hn h1 h2 h3 h]
  unfold zbm slowN
  rw [e,f,g]
  repeat' split
  all_goals first | (exfalso;omega) | simp
 ·have e : sz b0 = 4:=by subst h;rfl
  have f : lo b0 = 144:=by subst h;rfl
  have g : hi b0 = 191:=by subst h;rfl
  rw [← slow_F0 n b0 b1 b2 b3 hn h1 h2 h3 h]
  unfold zbm slowN
  rw [e,f,g]
  repeat' split
  all_goals first | (exfalso;omega) | simp
 ·have e : sz b0 = 4:=by unfold sz;rw [if_neg (by omega),if_neg (by omega),if_neg (by omega),if_neg (by omega),if_pos (by omega)]
  have f : lo b0 = 128:=by unfold lo;rw [if_neg (by omega),if_neg (by omega)]
  have g : hi b0 = 191:=by unfold hi;rw [if_neg (by omega),if_neg (by omega)]
  rw [← slow_F1 n b0 b1 b2 b3 hn h1 h2 h3 h]
  unfold zbm slowN
  rw [e,f,g]
  repeat' split
  all_goals first | (exfalso;omega) | simp
 ·have e : sz b0 = 4:=by subst h;rfl
  have f : lo b0 = 128:=by subst h;rfl
  have g : hi b0 = 143:=by subst h;rfl
  rw [← slow_F4 n b0 b1 b2 b3 hn h1 h2 h3 h]
  unfold zbm slowN
  rw [e,f,g]
  repeat' split
  all_goals first | (exfalso;omega) | simp
 ·have : sz b0 = 0:=by unfold sz;rw [if_neg (by omega),if_neg (by omega),if_neg (by omega),if_neg (by omega),if_neg (by omega)]
  simp [zbm,this,zcX n b0 b1 b2 b3 (.inr ⟨h,h0⟩) h1 h2 h3]
theorem zfo {l : List UInt8} (h : l ≠ []) : 1 ≤ l.length:=by cases l <;> simp at h ⊢
theorem zmr (l : List UInt8) (h : l ≠ []) (hw : (zbs l).2 = true) : (dec l).2 = (zbs l).1 :=
 (zeR _ _ _ _ _ (zfo h) (zdI l 0) (zdI l 1) (zdI l 2) (zdI l 3)).1 hw
theorem zhe (l : List UInt8) (h : l ≠ []) (hw : (zbs l).2 = false) : dec l = (65533,1) :=
 (zeR _ _ _ _ _ (zfo h) (zdI l 0) (zdI l 1) (zdI l 2) (zdI l 3)).2 hw
theorem zh6 (l : List UInt8) (j : Nat) (h1 : 1 ≤ j) (h2 : j < (zbs l).1) : 128 ≤ at' l j ∧ at' l j ≤ 191:=by
 have h4:=zhd l
 have hl : 128 ≤ lo (at' l 0):=by
  unfold lo
  repeat' split
  all_goals omega
 have hh : hi (at' l 0) ≤ 191:=by
  unfold hi
  repeat' split
  all_goals omega
 unfold zbs zbm at h2
 revert h2
 repeat' split
 all_goals intro h2
 all_goals simp only at h2
 all_goals try omega
 ·obtain rfl : j = 1:=by omega
  omega
 ·obtain rfl : j = 1:=by omega
  omega
 ·obtain rfl | rfl : j = 1 ∨ j = 2:=by omega
  ·omega
  ·omega
 ·obtain rfl | rfl : j = 1 ∨ j = 2:=by omega
  ·omega
  ·omega
 ·obtain rfl | rfl | rfl : j = 1 ∨ j = 2 ∨ j = 3:=by omega
  ·omega
  ·omega
  ·omega
theorem dec_cont (l : List UInt8) (h : 128 ≤ at' l 0 ∧ at' l 0 ≤ 191) : dec l = (65533,1) :=
 zcX _ _ _ _ _ (.inl ⟨h.1,by omega⟩) (zdI l 1) (zdI l 2) (zdI l 3)
theorem at_drop (l : List UInt8) (k i : Nat) : at' (l.drop k) i = at' l (k + i):=by
 unfold at'
 simp [List.getD_eq_getElem?_getD,List.getElem?_drop]
def right (c : Int) : Bool:=decide (0 ≤ c ∧ c ≤ 1114111 ∧ (c < 55296 ∨ 57343 < c))
def mend (c : Int) : Int:=if right c then c else 65533
theorem zjl (c : Int) : encodeRune (mend c) = encodeRune c:=by
 unfold mend
 split
 ·rfl
 ·rename_i h
  have h' : ¬ (0 ≤ c ∧ c ≤ 1114111 ∧ (c < 55296 ∨ 57343 < c)):=by simpa [right] using h
  unfold encodeRune
  congr 1
  have : encodeRuneZ c = [239,191,189]:=by
   unfold encodeRuneZ
   rw [if_neg (by omega),if_neg (by omega),if_neg (by omega),if_neg (by omega)]
  rw [this]
  rfl
theorem zhf (l : List UInt8) (h : l ≠ []) : (l.drop (zbs l).1).length < l.length:=by
 have:=zdh l;have:=zfo h
 rw [List.length_drop];omega
def zeS (l : List UInt8) : Bool :=
 if h : l = [] then true else (zbs l).2 && zeS (l.drop (zbs l).1)
termination_by l.length
decreasing_by exact zhf l h
def rep (l : List UInt8) : List UInt8 :=
 if h : l = [] then [] else encodeRune (dec l).1 ++ rep (l.drop (zbs l).1)
termination_by l.length
decreasing_by exact zhf l h
def cut (l : List UInt8) (most : Int) : Nat :=
 if h : l = [] then 0 else if ((zbs l).1 : Int) > most then 0 else (zbs l).1 + cut (l.drop (zbs l).1) (most - (zbs l).1)
termination_by l.length
decreasing_by exact zhf l h
theorem ind {P : List UInt8 → Prop} (h0 : P []) (h1 : ∀ l,l ≠ [] → P (l.drop (zbs l).1) → P l) (l : List UInt8) : P l:=by
 generalize hn : l.length = n
 induction n using Nat.strongRecOn generalizing l with
 | ind n ih =>
  by_cases h : l = []
  ·subst h;exact h0
  ·exact h1 l h (ih _ (hn ▸ zhf l h) _ rfl)
theorem isText_nil : zeS [] = true:=by rw [zeS];simp
theorem zms (l : List UInt8) (h : l ≠ []) : zeS l = ((zbs l).2 && zeS (l.drop (zbs l).1)):=by rw [zeS];simp [h]
theorem zmt : rep [] = []:=by rw [rep];simp
theorem zqH (l : List UInt8) (h : l ≠ []) : rep l = encodeRune (dec l).1 ++ rep (l.drop (zbs l).1):=by rw [rep];simp [h]
theorem zgl (x : Int) (h0 : 0 ≤ x) (h1 : x < 256) : (x.toNat.toUInt8).toNat = x.toNat:=by
 simp
 omega
theorem zcz {x : Int} {c : UInt8} (h : x = (c.toNat : Int)) : x.toNat.toUInt8 = c:=by
 subst h
 simp
theorem at0 (a : UInt8) (l : List UInt8) : at' (a :: l) 0 = a.toNat:=rfl
theorem at1 (a b : UInt8) (l : List UInt8) : at' (a :: b :: l) 1 = b.toNat:=rfl
theorem at2 (a b c : UInt8) (l : List UInt8) : at' (a :: b :: c :: l) 2 = c.toNat:=rfl
theorem at3 (a b c d : UInt8) (l : List UInt8) : at' (a :: b :: c :: d :: l) 3 = d.toNat:=rfl
theorem sz_1 {b : Nat} (h : b < 128) : sz b = 1:=by unfold sz;rw [if_pos h]
theorem sz_2 {b : Nat} (h : 194 ≤ b ∧ b < 224) : sz b = 2:=by unfold sz;rw [if_neg (by omega),if_neg (by omega),if_pos h.2]
theorem sz_3 {b : Nat} (h : 224 ≤ b ∧ b < 240) : sz b = 3:=by unfold sz;rw [if_neg (by omega),if_neg (by omega),if_neg (by omega),if_pos h.2]
theorem sz_4 {b : Nat} (h : 240 ≤ b ∧ b < 245) : sz b = 4:=by unfold sz;rw [if_neg (by omega),if_neg (by omega),if_neg (by omega),if_neg (by omega),if_pos h.2]
theorem zgF (b : Nat) (h : sz b ≠ 0) : (sz b = 1 ∧ b < 128) ∨ (sz b = 2 ∧ 194 ≤ b ∧ b < 224) ∨ (sz b = 3 ∧ 224 ≤ b ∧ b < 240) ∨ (sz b = 4 ∧ 240 ≤ b ∧ b < 245):=by
 unfold sz at *
 revert h
 repeat' split
 all_goals omega
theorem zlg (b : Nat) : (b = 224 → lo b = 160) ∧ (b = 240 → lo b = 144) ∧ 128 ≤ lo b ∧ (b ≠ 224 → b ≠ 240 → lo b = 128):=by
 unfold lo
 repeat' split
 all_goals omega
theorem zlh (b : Nat) : (b = 237 → hi b = 159) ∧ (b = 244 → hi b = 143) ∧ hi b ≤ 191 ∧ (b ≠ 237 → b ≠ 244 → hi b = 191):=by
 unfold hi
 repeat' split
 all_goals omega
theorem zqI (n b0 b1 b2 b3 : Nat) (h : b0 < 128) : zbm n b0 b1 b2 b3 = (1,true):=by
 unfold zbm;rw [if_pos (sz_1 h)]
theorem zqJ (n b0 b1 b2 b3 : Nat) (hn : 1 < n) (h : 194 ≤ b0 ∧ b0 < 224) (h1 : 128 ≤ b1 ∧ b1 ≤ 191) : zbm n b0 b1 b2 b3 = (2,true):=by
 have a:=zlg b0;have b:=zlh b0
 unfold zbm;rw [sz_2 h,if_neg (by omega),if_neg (by omega),if_neg (by omega),if_pos rfl]
theorem zqK (n b0 b1 b2 b3 : Nat) (hn : 2 < n) (h : 224 ≤ b0 ∧ b0 < 240) (h1 : lo b0 ≤ b1 ∧ b1 ≤ hi b0) (h2 : 128 ≤ b2 ∧ b2 ≤ 191) : zbm n b0 b1 b2 b3 = (3,true):=by
 unfold zbm;rw [sz_3 h,if_neg (by omega),if_neg (by omega),if_neg (by omega),if_neg (by omega),if_neg (by omega),if_pos rfl]
theorem zqL (n b0 b1 b2 b3 : Nat) (hn : 3 < n) (h : 240 ≤ b0 ∧ b0 < 245) (h1 : lo b0 ≤ b1 ∧ b1 ≤ hi b0) (h2 : 128 ≤ b2 ∧ b2 ≤ 191) (h3 : 128 ≤ b3 ∧ b3 ≤ 191) : zbm n b0 b1 b2 b3 = (4,true):=by
 unfold zbm;rw [sz_4 h,if_neg (by omega),if_neg (by omega),if_neg (by omega),if_neg (by omega),if_neg (by omega),if_neg (by omega),if_neg (by omega)]
theorem zrh (n b0 b1 b2 b3 : Nat) (h : b0 < 128) : decodeN n b0 b1 b2 b3 = (b0,1):=by unfold decodeN;rw [if_pos h]
theorem zri (n b0 b1 b2 b3 : Nat) (hn : 1 < n) (h : 194 ≤ b0 ∧ b0 < 224) (h1 : 128 ≤ b1 ∧ b1 ≤ 191) : decodeN n b0 b1 b2 b3 = (b0 % 32 * 64 + b1 % 64,2):=by
 unfold decodeN;rw [if_neg (by omega),if_pos (by omega),if_pos (by omega)]
theorem zrj (n b0 b1 b2 b3 : Nat) (hn : 2 < n) (h : 224 ≤ b0 ∧ b0 < 240) (h1 : lo b0 ≤ b1 ∧ b1 ≤ hi b0) (h2 : 128 ≤ b2 ∧ b2 ≤ 191) : decodeN n b0 b1 b2 b3 = (b0 % 16 * 4096 + b1 % 64 * 64 + b2 % 64,3):=by
 have a:=zlg b0;have b:=zlh b0
 unfold decodeN;rw [if_neg (by omega),if_neg (by omega),if_pos (by omega),if_pos (by omega)]
theorem zrk (n b0 b1 b2 b3 : Nat) (hn : 3 < n) (h : 240 ≤ b0 ∧ b0 < 245) (h1 : lo b0 ≤ b1 ∧ b1 ≤ hi b0) (h2 : 128 ≤ b2 ∧ b2 ≤ 191) (h3 : 128 ≤ b3 ∧ b3 ≤ 191) : decodeN n b0 b1 b2 b3 = (b0 % 8 * 262144 + b1 % 64 * 4096 + b2 % 64 * 64 + b3 % 64,4):=by
 have a:=zlg b0;have b:=zlh b0
 unfold decodeN;rw [if_neg (by omega),if_neg (by omega),if_neg (by omega),if_pos (by omega),if_pos (by omega)]
theorem zgm (c : Int) (r : List UInt8) (hc : right c = true) :
  zbs (encodeRune c ++ r) = ((encodeRune c).length,true) ∧ ((dec (encodeRune c ++ r)).1 : Int) = c:=by
 have hr : 0 ≤ c ∧ c ≤ 1114111 ∧ (c < 55296 ∨ 57343 < c):=by simpa [right] using hc
 by_cases h1 : c ≤ 127
 ·have e : encodeRune c = [c.toNat.toUInt8]:=by unfold encodeRune;rw [encodeRuneZ_one hr.1 h1];rfl
  have b0:=zgl c hr.1 (by omega)
  rw [e]
  simp only [List.cons_append,List.nil_append,zbs,dec,at0,b0,List.length_cons,List.length_nil]
  rw [zqI _ _ _ _ _ (by omega),zrh _ _ _ _ _ (by omega)]
  exact ⟨rfl,by simp only;omega⟩
 by_cases h2 : c ≤ 2047
 ·have e : encodeRune c = [(192 + c / 64).toNat.toUInt8,(128 + c % 64).toNat.toUInt8]:=by unfold encodeRune;rw [encodeRuneZ_two (by omega) h2];rfl
  have b0:=zgl (192 + c / 64) (by omega) (by omega)
  have b1:=zgl (128 + c % 64) (by omega) (by omega)
  rw [e]
  simp only [List.cons_append,List.nil_append,zbs,dec,at0,at1,b0,b1,List.length_cons,List.length_nil]
  rw [zqJ _ _ _ _ _ (by omega) (by omega) (by omega),zri _ _ _ _ _ (by omega) (by omega) (by omega)]
  exact ⟨rfl,by simp only;omega⟩
 by_cases h3 : c ≤ 65535
 ·have e : encodeRune c = [(224 + c / 4096).toNat.toUInt8,(128 + c / 64 % 64).toNat.toUInt8,(128 + c % 64).toNat.toUInt8]:=by unfold encodeRune;rw [encodeRuneZ_three (by omega)];rfl
  have b0:=zgl (224 + c / 4096) (by omega) (by omega)
  have b1:=zgl (128 + c / 64 % 64) (by omega) (by omega)
  have b2:=zgl (128 + c % 64) (by omega) (by omega)
  have a:=zlg (224 + c / 4096).toNat;have b:=zlh (224 + c / 4096).toNat
  rw [e]
  simp only [List.cons_append,List.nil_append,zbs,dec,at0,at1,at2,b0,b1,b2,List.length_cons,List.length_nil]
  have hb : lo (224 + c / 4096).toNat ≤ (128 + c / 64 % 64).toNat ∧ (128 + c / 64 % 64).toNat ≤ hi (224 + c / 4096).toNat:=by
   constructor
   ·by_cases q : (224 + c / 4096).toNat = 224
    ·rw [a.1 q];omega
    ·rw [a.2.2.2 q (by omega)];omega
   ·by_cases q : (224 + c / 4096).toNat = 237
    ·rw [b.1 q];omega
    ·rw [b.2.2.2 q (by omega)];omega
  rw [zqK _ _ _ _ _ (by omega) (by omega) hb (by omega),zrj _ _ _ _ _ (by omega) (by omega) hb (by omega)]
  exact ⟨rfl,by simp only;omega⟩
 ·have e : encodeRune c = [(240 + c / 262144).toNat.toUInt8,(128 + c / 4096 % 64).toNat.toUInt8,(128 + c / 64 % 64).toNat.toUInt8,(128 + c % 64).toNat.toUInt8]:=by unfold encodeRune;rw [encodeRuneZ_four (by omega) hr.2.1];rfl
  have b0:=zgl (240 + c / 262144) (by omega) (by omega)
  have b1:=zgl (128 + c / 4096 % 64) (by omega) (by omega)
  have b2:=zgl (128 + c / 64 % 64) (by omega) (by omega)
  have b3:=zgl (128 + c % 64) (by omega) (by omega)
  have a:=zlg (240 + c / 262144).toNat;have b:=zlh (240 + c / 262144).toNat
  rw [e]
  simp only [List.cons_append,List.nil_append,zbs,dec,at0,at1,at2,at3,b0,b1,b2,b3,List.length_cons,List.length_nil]
  have hb : lo (240 + c / 262144).toNat ≤ (128 + c / 4096 % 64).toNat ∧ (128 + c / 4096 % 64).toNat ≤ hi (240 + c / 262144).toNat:=by
   constructor
   ·by_cases q : (240 + c / 262144).toNat = 240
    ·rw [a.2.1 q];omega
    ·rw [a.2.2.2 (by omega) q];omega
   ·by_cases q : (240 + c / 262144).toNat = 244
    ·rw [b.2.1 q];omega
    ·rw [b.2.2.2 (by omega) q];omega
  rw [zqL _ _ _ _ _ (by omega) (by omega) hb (by omega) (by omega),zrk _ _ _ _ _ (by omega) (by omega) hb (by omega) (by omega)]
  exact ⟨rfl,by simp only;omega⟩
theorem zli (c : Int) : right (mend c) = true:=by
 unfold mend
 split
 ·assumption
 ·rfl
theorem zkp (c : Int) (r : List UInt8) :
  zbs (encodeRune c ++ r) = ((encodeRune c).length,true) ∧ ((dec (encodeRune c ++ r)).1 : Int) = mend c:=by
 rw [← zjl c]
 exact zgm (mend c) r (zli c)
theorem zqM (c : Int) (r : List UInt8) : encodeRune c ++ r ≠ []:=by
 intro e
 have h:=(zkp c r).1
 have h2:=zdh (encodeRune c ++ r)
 rw [List.append_eq_nil_iff] at e
 rw [h,e.1] at h2
 simp at h2
theorem zrl (l : List UInt8) (h : l ≠ []) (hw : (zbs l).2 = true) : right (dec l).1 = true ∧ encodeRune (dec l).1 = l.take (zbs l).1:=by
 have hn:=zfo h
 have x0:=zdI l 0;have x1:=zdI l 1;have x2:=zdI l 2;have x3:=zdI l 3
 have c0 : 0 < l.length → (at' l 0 : Int) = (l.getD 0 0).toNat:=fun _=>rfl
 unfold zbs zbm at hw
 by_cases s1 : sz (at' l 0) = 1
 ·have hb : at' l 0 < 128:=by rcases zgF _ (by omega : sz (at' l 0) ≠ 0) with q | q | q | q <;> omega
  obtain ⟨a,r,rfl⟩ : ∃ a r,l = a :: r:=by cases l with | nil=>simp at hn | cons a r=>exact ⟨a,r,rfl⟩
  simp only [at0] at hb
  have hp : zbs (a :: r) = (1,true):=by unfold zbs;rw [at0,zqI _ _ _ _ _ hb]
  have hd : dec (a :: r) = (a.toNat,1):=by unfold dec;rw [at0,zrh _ _ _ _ _ hb]
  rw [hp,hd]
  refine ⟨by simp only [right,decide_eq_true_eq];omega,?_⟩
  unfold encodeRune
  rw [encodeRuneZ_one (by omega) (by omega)]
  simp only [List.map,List.take_succ_cons,List.take_zero]
  rw [zcz rfl]
 rw [if_neg s1] at hw
 by_cases s0 : sz (at' l 0) = 0
 ·rw [if_pos s0] at hw;cases hw
 rw [if_neg s0] at hw
 split at hw
 ·cases hw
 rename_i k1
 have k1' : 1 < l.length ∧ lo (at' l 0) ≤ at' l 1 ∧ at' l 1 ≤ hi (at' l 0):=by omega
 clear k1
 have a':=zlg (at' l 0);have b':=zlh (at' l 0)
 by_cases s2 : sz (at' l 0) = 2
 ·have hb : 194 ≤ at' l 0 ∧ at' l 0 < 224:=by rcases zgF _ s0 with q | q | q | q <;> omega
  obtain ⟨a,b,r,rfl⟩ : ∃ a b r,l = a :: b :: r:=by
   match l,k1' with
   | a :: b :: r,_=>exact ⟨a,b,r,rfl⟩
   | [a],q=>simp at q
   | [],q=>simp at q
  simp only [at0,at1] at hb k1' a' b' x0 x1
  have h1 : 128 ≤ b.toNat ∧ b.toNat ≤ 191:=by omega
  have hp : zbs (a :: b :: r) = (2,true):=by unfold zbs;rw [at0,at1,zqJ _ _ _ _ _ k1'.1 hb h1]
  have hd : dec (a :: b :: r) = (a.toNat % 32 * 64 + b.toNat % 64,2):=by unfold dec;rw [at0,at1,zri _ _ _ _ _ k1'.1 hb h1]
  rw [hp,hd]
  refine ⟨by simp only [right,decide_eq_true_eq];omega,?_⟩
  unfold encodeRune
  rw [encodeRuneZ_two (by omega) (by omega)]
  simp only [List.map,List.take_succ_cons,List.take_zero]
  rw [zcz (c:=a) (by omega),zcz (c:=b) (by omega)]
 rw [if_neg s2] at hw
 split at hw
 ·cases hw
 rename_i k2
 have k2' : 2 < l.length ∧ 128 ≤ at' l 2 ∧ at' l 2 ≤ 191:=by omega
 clear k2
 by_cases s3 : sz (at' l 0) = 3
 ·have hb : 224 ≤ at' l 0 ∧ at' l 0 < 240:=by rcases zgF _ s0 with q | q | q | q <;> omega
  obtain ⟨a,b,c,r,rfl⟩ : ∃ a b c r,l = a :: b :: c :: r:=by
   match l,k2' with
   | a :: b :: c :: r,_=>exact ⟨a,b,c,r,rfl⟩
   | [a,b],q=>simp at q
   | [a],q=>simp at q
   | [],q=>simp at q
  simp only [at0,at1,at2] at hb k1' k2' a' b' x0 x1 x2
  have hp : zbs (a :: b :: c :: r) = (3,true):=by unfold zbs;rw [at0,at1,at2,zqK _ _ _ _ _ k2'.1 hb k1'.2 k2'.2]
  have hd : dec (a :: b :: c :: r) = (a.toNat % 16 * 4096 + b.toNat % 64 * 64 + c.toNat % 64,3):=by unfold dec;rw [at0,at1,at2,zrj _ _ _ _ _ k2'.1 hb k1'.2 k2'.2]
  rw [hp,hd]
  have hr : ∀ N : Nat,N = a.toNat % 16 * 4096 + b.toNat % 64 * 64 + c.toNat % 64 → (2048 ≤ N ∧ N < 55296) ∨ (57343 < N ∧ N ≤ 65535):=by
   intro N hN
   omega
  have hr':=hr _ rfl
  clear hr
  refine ⟨by simp only [right,decide_eq_true_eq];omega,?_⟩
  unfold encodeRune
  rw [encodeRuneZ_three (by simp only;omega)]
  simp only [List.map,List.take_succ_cons,List.take_zero]
  rw [zcz (c:=a) (by omega),zcz (c:=b) (by omega),zcz (c:=c) (by omega)]
 rw [if_neg s3] at hw
 split at hw
 ·cases hw
 rename_i k3
 have k3' : 3 < l.length ∧ 128 ≤ at' l 3 ∧ at' l 3 ≤ 191:=by omega
 clear k3
 have hb : 240 ≤ at' l 0 ∧ at' l 0 < 245:=by rcases zgF _ s0 with q | q | q | q <;> omega
 obtain ⟨a,b,c,d,r,rfl⟩ : ∃ a b c d r,l = a :: b :: c :: d :: r:=by
  match l,k3' with
  | a :: b :: c :: d :: r,_=>exact ⟨a,b,c,d,r,rfl⟩
  | [a,b,c],q=>simp at q
  | [a,b],q=>simp at q
  | [a],q=>simp at q
  | [],q=>simp at q
 simp only [at0,at1,at2,at3] at hb k1' k2' k3' a' b' x0 x1 x2 x3
 have hp : zbs (a :: b :: c :: d :: r) = (4,true):=by unfold zbs;rw [at0,at1,at2,at3,zqL _ _ _ _ _ k3'.1 hb k1'.2 k2'.2 k3'.2]
 have hd : dec (a :: b :: c :: d :: r) = (a.toNat % 8 * 262144 + b.toNat % 64 * 4096 + c.toNat % 64 * 64 + d.toNat % 64,4):=by unfold dec;rw [at0,at1,at2,at3,zrk _ _ _ _ _ k3'.1 hb k1'.2 k2'.2 k3'.2]
 rw [hp,hd]
 have hr' : 65536 ≤ a.toNat % 8 * 262144 + b.toNat % 64 * 4096 + c.toNat % 64 * 64 + d.toNat % 64 ∧ a.toNat % 8 * 262144 + b.toNat % 64 * 4096 + c.toNat % 64 * 64 + d.toNat % 64 ≤ 1114111:=by omega
 refine ⟨by simp only [right,decide_eq_true_eq];omega,?_⟩
 unfold encodeRune
 rw [encodeRuneZ_four (by simp only;omega) (by simp only;omega)]
 simp only [List.map,List.take_succ_cons,List.take_zero]
 rw [zcz (c:=a) (by omega),zcz (c:=b) (by omega),zcz (c:=c) (by omega),zcz (c:=d) (by omega)]
theorem dec_right (l : List UInt8) (h : l ≠ []) : right (dec l).1 = true:=by
 cases hw : (zbs l).2
 ·rw [zhe l h hw];rfl
 ·exact (zrl l h hw).1
theorem rep_self (l : List UInt8) : zeS l = true → rep l = l:=by
 refine ind (P:=fun l=>zeS l = true → rep l = l) ?_ ?_ l
 ·intro _;exact zmt
 ·intro l h ih ht
  rw [zms l h,Bool.and_eq_true] at ht
  rw [zqH l h,ih ht.2,(zrl l h ht.1).2,List.take_append_drop]
theorem zrm : encodeRune ((65533 : Nat) : Int) = [239,191,189]:=by decide
theorem zrn (c : Int) : (encodeRune c).length ≤ 4 ∧ 1 ≤ (encodeRune c).length:=by
 have h:=(zkp c []).1
 have h1:=zhd (encodeRune c ++ []);have h2:=zdh (encodeRune c ++ [])
 rw [h] at h1 h2
 exact ⟨h1,h2⟩
theorem rep_len (l : List UInt8) : (rep l).length ≤ 3 * l.length:=by
 refine ind (P:=fun l=>(rep l).length ≤ 3 * l.length) ?_ ?_ l
 ·rw [zmt];simp
 ·intro l h ih
  rw [zqH l h,List.length_append]
  have hp:=zdh l;have hl:=zko l h
  rw [List.length_drop] at ih
  cases hw : (zbs l).2
  ·rw [zhe l h hw,zrm]
   simp only [List.length_cons,List.length_nil]
   omega
  ·rw [(zrl l h hw).2,List.length_take]
   omega
theorem right_lt {c : Nat} (h : right (c : Int) = true) : c ≤ 1114111:=by
 have hr : 0 ≤ (c : Int) ∧ (c : Int) ≤ 1114111 ∧ ((c : Int) < 55296 ∨ 57343 < (c : Int)):=by simpa [right] using h
 omega
theorem zro (l : List UInt8) (h : l ≠ []) (hc : (dec l).1 ≠ 65533) : (zbs l).2 = true:=by
 cases hw : (zbs l).2
 ·rw [zhe l h hw] at hc;exact absurd rfl hc
 ·rfl
theorem dec_step (l : List UInt8) (h : l ≠ []) : 1 ≤ (dec l).2 ∧ (dec l).2 ≤ (zbs l).1:=by
 cases hw : (zbs l).2
 ·rw [zhe l h hw];exact ⟨Nat.le_refl _,zdh l⟩
 ·rw [zmr l h hw];exact ⟨zdh l,Nat.le_refl _⟩
end Utf
namespace Asc
def zbn (c : UInt8) : Bool:=c == 9 || c == 10 || c == 12 || c == 13 || c == 32
def zhg (n : Int) : Int:=if 65 ≤ n ∧ n ≤ 90 then n + 32 else n
def zbX (c : UInt8) : UInt8:=if 65 ≤ c ∧ c ≤ 90 then c + 32 else c
def zbJ (l : List UInt8) : List UInt8:=l.map zbX
theorem lowN_byte (c : UInt8) : zhg (c.toNat : Int) = ((zbX c).toNat : Int):=by
 unfold zhg zbX
 have e : ((65 : Int) ≤ (c.toNat : Int) ∧ (c.toNat : Int) ≤ 90) ↔ (65 ≤ c ∧ c ≤ 90):=by
  rw [UInt8.le_iff_toNat_le,UInt8.le_iff_toNat_le]
  simp
  omega
 by_cases h : 65 ≤ c ∧ c ≤ 90
 ·rw [if_pos (e.2 h),if_pos h]
  have:=e.2 h
  rw [UInt8.toNat_add]
  simp
  omega
 ·rw [if_neg (fun x=>h (e.1 x)),if_neg h]
theorem lowN_bd (n : Int) (h0 : 0 ≤ n) (h1 : n ≤ 255) : 0 ≤ zhg n ∧ zhg n ≤ 255:=by unfold zhg;split <;> omega
theorem lower_snoc (l : List UInt8) (c : UInt8) : zbJ (l ++ [c]) = zbJ l ++ [zbX c]:=by simp [zbJ]
def zfp (n : Int) : Bool:=decide (48 ≤ n ∧ n ≤ 57) || decide (97 ≤ n ∧ n ≤ 102) || decide (65 ≤ n ∧ n ≤ 70)
def zjm (n : Int) : Int:=if 48 ≤ n ∧ n ≤ 57 then n - 48 else if 97 ≤ n ∧ n ≤ 102 then n - 87 else if 65 ≤ n ∧ n ≤ 70 then n - 55 else 0
theorem zhh (n : Int) : 0 ≤ zjm n ∧ zjm n ≤ 15:=by unfold zjm;split;omega;split;omega;split <;> omega
theorem hex_digit (n : Int) (h : 48 ≤ zhg n) (h2 : zhg n ≤ 57) : zjm n = zhg n - 48 ∧ zfp n = true:=by
 have e : zhg n = n:=by unfold zhg at *;split at h <;> omega
 rw [e] at h h2
 unfold zjm zfp
 rw [if_pos ⟨h,h2⟩,e]
 simp [h,h2]
theorem hex_letter (n : Int) (h : 97 ≤ zhg n) (h2 : zhg n ≤ 102) : zjm n = zhg n - 97 + 10 ∧ zfp n = true:=by
 unfold zhg at *
 unfold zjm zfp
 split at h
 ·rw [if_pos (by assumption)] at h2
  rw [if_neg (by omega),if_neg (by omega),if_pos (by omega)]
  refine ⟨by omega,?_⟩
  simp only [Bool.or_eq_true,decide_eq_true_eq]
  omega
 ·rw [if_neg (by assumption)] at h2
  rw [if_neg (by omega),if_pos (by omega)]
  refine ⟨by omega,?_⟩
  simp only [Bool.or_eq_true,decide_eq_true_eq]
  omega
theorem hex_none (n : Int) (h : zhg n < 48 ∨ (57 < zhg n ∧ zhg n < 97) ∨ 102 < zhg n) : zjm n = 0 ∧ zfp n = false:=by
 have hn : ¬ (48 ≤ n ∧ n ≤ 57) ∧ ¬ (97 ≤ n ∧ n ≤ 102) ∧ ¬ (65 ≤ n ∧ n ≤ 70):=by
  unfold zhg at h
  split at h <;> omega
 unfold zjm zfp
 rw [if_neg hn.1,if_neg hn.2.1,if_neg hn.2.2,decide_eq_false hn.1,decide_eq_false hn.2.1,decide_eq_false hn.2.2]
 exact ⟨rfl,rfl⟩
def bt (c : UInt8) : Int:=(c.toNat : Int)
def zcC (l : List UInt8) : Bool:=l.all fun c=>zfp (bt c)
def zbD : Int → List UInt8 → Option Int
 | n,[]=>some n
 | n,c :: r=>if 268435455 < n then none else zbD (n * 16 + zjm (bt c)) r
def zfq (l : List UInt8) : Int:=if zcC l = true ∧ l ≠ [] then (zbD 0 l).getD 0 else 0
def zfr (l : List UInt8) : Int:=if zcC l = true ∧ l ≠ [] then (match zbD 0 l with | some _=>0 | none=>5) else 3
theorem zeu (l : List UInt8) (k : Nat) (h : k < l.length) : l.drop k = l[k] :: l.drop (k + 1):=List.drop_eq_getElem_cons h
theorem zqN (l : List UInt8) (k : Nat) (n : Int) (h : k < l.length) (hn : n ≤ 268435455) : zbD n (l.drop k) = zbD (n * 16 + zjm (bt l[k])) (l.drop (k + 1)):=by
 rw [zeu l k h,zbD,if_neg (by omega)]
theorem zqO (l : List UInt8) (k : Nat) (n : Int) (h : k < l.length) (hn : 268435455 < n) : zbD n (l.drop k) = none:=by
 rw [zeu l k h,zbD,if_pos hn]
theorem zrp (l : List UInt8) (k : Nat) (n : Int) (h : l.length ≤ k) : zbD n (l.drop k) = some n:=by
 rw [List.drop_eq_nil_of_le h,zbD]
theorem hex_form (l : List UInt8) (h : ¬ (zcC l = true ∧ l ≠ [])) : zfq l = 0 ∧ zfr l = 3:=by
 unfold zfq zfr;rw [if_neg h,if_neg h];exact ⟨rfl,rfl⟩
theorem zpd (l : List UInt8) (h : zcC l = true ∧ l ≠ []) (hf : zbD 0 l = none) : zfq l = 0 ∧ zfr l = 5:=by
 unfold zfq zfr;rw [if_pos h,if_pos h,hf];exact ⟨rfl,rfl⟩
theorem hex_ok (l : List UInt8) (n : Int) (h : zcC l = true ∧ l ≠ []) (hf : zbD 0 l = some n) : zfq l = n ∧ zfr l = 0:=by
 unfold zfq zfr;rw [if_pos h,if_pos h,hf];exact ⟨rfl,rfl⟩
theorem zrq (l : List UInt8) (k : Nat) (h : k < l.length) : zcC (l.take (k + 1)) = (zcC (l.take k) && zfp (bt l[k])):=by
 unfold zcC
 rw [List.take_succ_eq_append_getElem h,List.all_append]
 simp
theorem allHex_not (l : List UInt8) (k : Nat) (h : k < l.length) (hn : zfp (bt l[k]) = false) : zcC l = false:=by
 unfold zcC
 rw [List.all_eq_false]
 exact ⟨l[k],List.getElem_mem h,by simp [hn]⟩
def zhi (l : List UInt8) : Bool:=zcC l && !l.isEmpty
theorem hexForm_no (l : List UInt8) (h : zhi l = false) : ¬ (zcC l = true ∧ l ≠ []):=by
 rintro ⟨h1,h2⟩
 unfold zhi at h
 rw [h1] at h
 simp at h
 exact h2 h
theorem zrr (l : List UInt8) (h : zhi l = true) : zcC l = true ∧ l ≠ []:=by
 unfold zhi at h
 rw [Bool.and_eq_true] at h
 exact ⟨h.1,by have:=h.2;intro e;rw [e] at this;simp at this⟩
open Go
def zhj (n : Int) : Bool:=decide (48 ≤ n ∧ n ≤ 57)
def zdx (l : List UInt8) : Bool:=l.all fun c=>zhj (bt c)
def zcA (l : List UInt8) : Bool:=zdx l && !l.isEmpty
def zbE (most : Int) : Int → List UInt8 → Option Int
 | n,[]=>some n
 | n,c :: r=>if most < n * 10 + (bt c - 48) then none else zbE most (n * 10 + (bt c - 48)) r
def zdW (l : List UInt8) (most : Int) : Int:=if zcA l = true then (if most < 0 then 0 else (zbE most 0 l).getD 0) else 0
def zdX (l : List UInt8) (most : Int) : Int:=if zcA l = true then (if most < 0 then 5 else (match zbE most 0 l with | some _=>0 | none=>5)) else 3
theorem num_form (l : List UInt8) (most : Int) (h : zcA l = false) : zdW l most = 0 ∧ zdX l most = 3:=by
 unfold zdW zdX;rw [h];exact ⟨rfl,rfl⟩
theorem num_neg (l : List UInt8) (most : Int) (h : zcA l = true) (hm : most < 0) : zdW l most = 0 ∧ zdX l most = 5:=by
 unfold zdW zdX;rw [if_pos h,if_pos h,if_pos hm,if_pos hm];exact ⟨rfl,rfl⟩
theorem zpe (l : List UInt8) (most : Int) (h : zcA l = true) (hm : 0 ≤ most) (hf : zbE most 0 l = none) : zdW l most = 0 ∧ zdX l most = 5:=by
 unfold zdW zdX;rw [if_pos h,if_pos h,if_neg (by omega),if_neg (by omega),hf];exact ⟨rfl,rfl⟩
theorem num_ok (l : List UInt8) (most n : Int) (h : zcA l = true) (hm : 0 ≤ most) (hf : zbE most 0 l = some n) : zdW l most = n ∧ zdX l most = 0:=by
 unfold zdW zdX;rw [if_pos h,if_pos h,if_neg (by omega),if_neg (by omega),hf];exact ⟨rfl,rfl⟩
theorem zqP (most : Int) (l : List UInt8) (k : Nat) (n : Int) (h : k < l.length) (hn : ¬ most < n * 10 + (bt l[k] - 48)) : zbE most n (l.drop k) = zbE most (n * 10 + (bt l[k] - 48)) (l.drop (k + 1)):=by
 rw [zeu l k h,zbE,if_neg hn]
theorem zqQ (most : Int) (l : List UInt8) (k : Nat) (n : Int) (h : k < l.length) (hn : most < n * 10 + (bt l[k] - 48)) : zbE most n (l.drop k) = none:=by
 rw [zeu l k h,zbE,if_pos hn]
theorem zrs (most : Int) (l : List UInt8) (k : Nat) (n : Int) (h : l.length ≤ k) : zbE most n (l.drop k) = some n:=by
 rw [List.drop_eq_nil_of_le h,zbE]
theorem zrt (l : List UInt8) (k : Nat) (h : k < l.length) : zdx (l.take (k + 1)) = (zdx (l.take k) && zhj (bt l[k])):=by
 unfold zdx
 rw [List.take_succ_eq_append_getElem h,List.all_append]
 simp
theorem allDig_not (l : List UInt8) (k : Nat) (h : k < l.length) (hn : zhj (bt l[k]) = false) : zdx l = false:=by
 unfold zdx
 rw [List.all_eq_false]
 exact ⟨l[k],List.getElem_mem h,by simp [hn]⟩
theorem allDig_at (l : List UInt8) (k : Nat) (h : k < l.length) (ha : zdx l = true) : 48 ≤ bt l[k] ∧ bt l[k] ≤ 57:=by
 unfold zdx at ha
 have:=List.all_eq_true.1 ha l[k] (List.getElem_mem h)
 simpa [zhj] using this
theorem zru (l : List UInt8) (h : zcA l = true) : zdx l = true:=by
 unfold zcA at h
 rw [Bool.and_eq_true] at h
 exact h.1
theorem zh7 (c : UInt8) : zbX (zbX c) = zbX c:=by
 unfold zbX
 by_cases h : 65 ≤ c ∧ c ≤ 90
 ·rw [if_pos h,if_neg]
  intro h2
  have h3:=h.1
  have h4:=h.2
  have h5:=h2.2
  rw [UInt8.le_iff_toNat_le] at h3 h4 h5
  rw [UInt8.toNat_add] at h5
  have e1 : (65 : UInt8).toNat = 65:=rfl
  have e2 : (90 : UInt8).toNat = 90:=rfl
  have e3 : (32 : UInt8).toNat = 32:=rfl
  omega
 ·rw [if_neg h,if_neg h]
theorem zfs (l : List UInt8) : zbJ (zbJ l) = zbJ l:=by
 unfold zbJ
 rw [List.map_map]
 apply List.map_congr_left
 intro c _
 exact zh7 c
end Asc
