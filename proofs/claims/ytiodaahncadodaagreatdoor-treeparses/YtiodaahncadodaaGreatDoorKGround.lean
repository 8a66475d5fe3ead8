/- Texts laid as one. -/
import Derived.Test.YtiodaahncadodaaGreatDoorKBase
import Derived.Test.YtiodaahncadodaaGreatDoorKMath
import Derived.Maps.AppendAt
import Derived.Deep.QuietTactic
import Derived.BigQuiet
import Derived.WalkSmall
import Derived.Laws.BitsAllLaws
set_option maxHeartbeats 1000000
namespace Go.Proofs.YtiodaahncadodaaGreatDoor
open Go.RowKit
def zeT (n : Int) : Bool:=decide (n = 9) || decide (n = 10) || decide (n = 12) || decide (n = 13) || decide (n = 32)
theorem zft (c : UInt8) : zeT (c.toNat : Int) = Asc.zbn c:=by
 have h : ∀ m : Nat,m < 256 → decide ((c.toNat : Int) = m) = (c == UInt8.ofNat m):=by
  intro m hm
  rw [Bool.eq_iff_iff]
  simp only [decide_eq_true_eq,beq_iff_eq]
  constructor
  ·intro e
   apply UInt8.toNat_inj.1
   simp
   omega
  ·intro e
   rw [e]
   simp
   omega
 unfold zeT Asc.zbn
 have h9:=h 9 (by omega);have h10:=h 10 (by omega);have h12:=h 12 (by omega);have h13:=h 13 (by omega);have h32:=h 32 (by omega)
 simp only [Int.cast_ofNat_Int] at h9 h10 h12 h13 h32
 rw [h9,h10,h12,h13,h32]
 rfl
theorem zmu (n : Int) (w : World) :
  Calls Tryz.prog 180 #[.int .u8 n] w fun e w'=>e = .returned (.bool (zeT n)) ∧ w' = w:=by
 by_cases h9 : n = 9
 ·subst h9
  go_enter Tryz.func180,Tryz.ntmps180
  go_wp2
  go_ret
  exact ⟨rfl,rfl⟩
 by_cases h10 : n = 10
 ·subst h10
  go_enter Tryz.func180,Tryz.ntmps180
  go_wp2
  go_ret
  exact ⟨rfl,rfl⟩
 by_cases h12 : n = 12
 ·subst h12
  go_enter Tryz.func180,Tryz.ntmps180
  go_wp2
  go_ret
  exact ⟨rfl,rfl⟩
 by_cases h13 : n = 13
 ·subst h13
  go_enter Tryz.func180,Tryz.ntmps180
  go_wp2
  go_ret
  exact ⟨rfl,rfl⟩
 by_cases h32 : n = 32
 ·subst h32
  go_enter Tryz.func180,Tryz.ntmps180
  go_wp2
  go_ret
  exact ⟨rfl,rfl⟩
 have hf : zeT n = false:=by simp [zeT,h9,h10,h12,h13,h32]
 rw [hf]
 go_enter Tryz.func180,Tryz.ntmps180
 go_wp2
 go_ret
 exact ⟨rfl,rfl⟩
theorem zlj (n : Int) (w : World) :
  Calls Tryz.prog 78 #[.int .u8 n] w fun e w'=>e = .returned (.bool (zeT n)) ∧ w' = w:=by
 rcases (show n = 9 ∨ n = 10 ∨ n = 12 ∨ n = 13 ∨ n = 32 ∨ (n ≠ 9 ∧ n ≠ 10 ∧ n ≠ 12 ∧ n ≠ 13 ∧ n ≠ 32) from by omega) with rfl | rfl | rfl | rfl | rfl | ⟨h9,h10,h12,h13,h32⟩
 case inr.inr.inr.inr.inr =>
  have hf : zeT n = false:=by simp [zeT,h9,h10,h12,h13,h32]
  rw [hf]
  go_enter Tryz.func78,Tryz.ntmps78
  go_wp2
  go_ret
  exact ⟨zac (by first | rfl | (simp <;> omega)),rfl⟩
 all_goals
  go_enter Tryz.func78,Tryz.ntmps78
  go_wp2
  go_ret
  exact ⟨zac (by first | rfl | (simp <;> omega)),rfl⟩
def zqR (n : Int) : Bool:=decide (48 ≤ n ∧ n ≤ 57)
def letN (n : Int) : Bool:=decide ((65 ≤ n ∧ n ≤ 90) ∨ (97 ≤ n ∧ n ≤ 122))
theorem zhk {n : Int} (h : 48 ≤ n) (h2 : n ≤ 57) : zqR n = true:=decide_eq_true ⟨h,h2⟩
theorem zdJ {n : Int} (h : n < 48 ∨ 57 < n) : zqR n = false:=decide_eq_false (by omega)
theorem zfd {n : Int} (h : (65 ≤ n ∧ n ≤ 90) ∨ (97 ≤ n ∧ n ≤ 122)) : letN n = true:=decide_eq_true h
theorem zev {n : Int} (h : ¬ ((65 ≤ n ∧ n ≤ 90) ∨ (97 ≤ n ∧ n ≤ 122))) : letN n = false:=decide_eq_false h
theorem zh8 (n : Int) (w : World) :
  Calls Tryz.prog 188 #[.int .u8 n] w fun e w'=>e = .returned (.bool (zqR n)) ∧ w' = w:=by
 rcases (show n < 48 ∨ (48 ≤ n ∧ n ≤ 57) ∨ 57 < n from by omega) with h | ⟨h,h2⟩ | h
 ·rw [zdJ (.inl h)]
  go_enter Tryz.func188,Tryz.ntmps188
  go_wp2
  go_ret
  exact ⟨zac (by first | rfl | (simp <;> omega)),rfl⟩
 ·rw [zhk h h2]
  go_enter Tryz.func188,Tryz.ntmps188
  go_wp2
  go_ret
  exact ⟨zac (by first | rfl | (simp <;> omega)),rfl⟩
 ·rw [zdJ (.inr h)]
  have h3 : 48 ≤ n:=by omega
  go_enter Tryz.func188,Tryz.ntmps188
  go_wp2
  go_ret
  exact ⟨zac (by first | rfl | (simp <;> omega)),rfl⟩
theorem zcD (n : Int) (w : World) :
  Calls Tryz.prog 113 #[.int .u8 n] w fun e w'=>e = .returned (.bool (zqR n)) ∧ w' = w:=by
 rcases (show n < 48 ∨ (48 ≤ n ∧ n ≤ 57) ∨ 57 < n from by omega) with h | ⟨h,h2⟩ | h
 ·rw [zdJ (.inl h)]
  go_enter Tryz.func113,Tryz.ntmps113
  go_wp2
  go_ret
  exact ⟨zac (by first | rfl | (simp <;> omega)),rfl⟩
 ·rw [zhk h h2]
  go_enter Tryz.func113,Tryz.ntmps113
  go_wp2
  go_ret
  exact ⟨zac (by first | rfl | (simp <;> omega)),rfl⟩
 ·rw [zdJ (.inr h)]
  have h3 : 48 ≤ n:=by omega
  go_enter Tryz.func113,Tryz.ntmps113
  go_wp2
  go_ret
  exact ⟨zac (by first | rfl | (simp <;> omega)),rfl⟩
theorem zlk (n : Int) (w : World) :
  Calls Tryz.prog 123 #[.int .u8 n] w fun e w'=>e = .returned (.bool (letN n)) ∧ w' = w:=by
 rcases (show n < 65 ∨ (65 ≤ n ∧ n ≤ 90) ∨ (90 < n ∧ n < 97) ∨ (97 ≤ n ∧ n ≤ 122) ∨ 122 < n from by omega) with h | ⟨h,h2⟩ | ⟨h,h2⟩ | ⟨h,h2⟩ | h
 ·rw [zev (by omega)]
  go_enter Tryz.func123,Tryz.ntmps123
  go_wp2
  go_ret
  exact ⟨zac (by first | rfl | (simp <;> omega)),rfl⟩
 ·rw [zfd (by omega)]
  go_enter Tryz.func123,Tryz.ntmps123
  go_wp2
  go_ret
  exact ⟨zac (by first | rfl | (simp <;> omega)),rfl⟩
 ·rw [zev (by omega)]
  go_enter Tryz.func123,Tryz.ntmps123
  go_wp2
  go_ret
  exact ⟨zac (by first | rfl | (simp <;> omega)),rfl⟩
 ·rw [zfd (by omega)]
  go_enter Tryz.func123,Tryz.ntmps123
  go_wp2
  go_ret
  exact ⟨zac (by first | rfl | (simp <;> omega)),rfl⟩
 ·rw [zev (by omega)]
  go_enter Tryz.func123,Tryz.ntmps123
  go_wp2
  go_ret
  exact ⟨zac (by first | rfl | (simp <;> omega)),rfl⟩
theorem zjn (n : Int) (w : World) :
  Calls Tryz.prog 74 #[.int .u8 n] w fun e w'=>e = .returned (.bool (letN n)) ∧ w' = w:=by
 rcases (show n < 65 ∨ (65 ≤ n ∧ n ≤ 90) ∨ (90 < n ∧ n < 97) ∨ (97 ≤ n ∧ n ≤ 122) ∨ 122 < n from by omega) with h | ⟨h,h2⟩ | ⟨h,h2⟩ | ⟨h,h2⟩ | h
 ·rw [zev (by omega)]
  go_enter Tryz.func74,Tryz.ntmps74
  go_wp2
  go_ret
  exact ⟨zac (by first | rfl | (simp <;> omega)),rfl⟩
 ·rw [zfd (by omega)]
  go_enter Tryz.func74,Tryz.ntmps74
  go_wp2
  go_ret
  exact ⟨zac (by first | rfl | (simp <;> omega)),rfl⟩
 ·rw [zev (by omega)]
  go_enter Tryz.func74,Tryz.ntmps74
  go_wp2
  go_ret
  exact ⟨zac (by first | rfl | (simp <;> omega)),rfl⟩
 ·rw [zfd (by omega)]
  go_enter Tryz.func74,Tryz.ntmps74
  go_wp2
  go_ret
  exact ⟨zac (by first | rfl | (simp <;> omega)),rfl⟩
 ·rw [zev (by omega)]
  go_enter Tryz.func74,Tryz.ntmps74
  go_wp2
  go_ret
  exact ⟨zac (by first | rfl | (simp <;> omega)),rfl⟩
theorem info9 : (Tryz.prog.info? 9).map (fun i=>(i.zero,i.size,i.bytes)) = some (some (.string ByteArray.empty),1,16):=by kernel_rfl
def zcf (l : List UInt8) : Value:=.string ⟨l.toArray⟩
theorem zdK (c : UInt8) (w : World) :
  Calls Tryz.prog 180 #[.int .u8 c.toNat] w fun e w'=>e = .returned (.bool (Asc.zbn c)) ∧ w' = w:=by
 rw [← zft]
 exact zmu _ _
def zaG (w : World) (B : Nat) (v : Value) (ts : List (List UInt8)) : Prop:=w.ownsRow B 9 1 v ts.length (ts.map zcf)
theorem zaG.nil (w : World) (B : Nat) : zaG w B (.slice none 0 0) []:=World.ownsRow_nil _ _ _ _
theorem zaG.of {w : World} {B : Nat} {v : Value} {ts us : List (List UInt8)} {y : List UInt8} {x : Value} (h : us = ts ++ [y]) (hx : zcf y = x) (ho : w.ownsRow B 9 1 v (ts.length + 1) (ts.map zcf ++ [x])) : zaG w B v us:=by
 subst h;subst hx
 unfold zaG
 simpa using ho
def zaw (w : World) (v : Value) (ts : List (List UInt8)) : Prop :=
 (∃ a c,v = .slice a 0 c ∧ ts = []) ∨ ∃ b o c,v = .slice (some ⟨b,o,none⟩) ts.length c ∧ ts.length ≤ c ∧ ∀ (j : Nat) t,ts[j]? = some t → w.cell? ⟨b,o + j,none⟩ = some (zcf t)
theorem zaG.reads {w : World} {B : Nat} {v : Value} {ts : List (List UInt8)} (h : zaG w B v ts) : zaw w v ts:=by
 rcases h.2 with ⟨rfl,h0⟩ | ⟨g,cap,cur,rfl,_,hg,hc,_,hcs,ht⟩
 ·exact .inl ⟨_,_,rfl,List.eq_nil_of_length_eq_zero h0⟩
 ·refine .inr ⟨g,0,cap,rfl,hc,fun j t hj=>?_⟩
  have hlt : j < ts.length:=(List.getElem?_eq_some_iff.1 hj).1
  have:=World.ownsRow.cellAt (w:=w) (base:=B) (e:=9) (size:=1) (g:=g) (cap:=cap) (n:=ts.length) (xs:=ts.map zcf) h j (by omega)
  rw [Nat.zero_add,this,List.getElem?_map,hj]
  rfl
theorem zfu (b : ByteArray) : b.size = b.data.toList.length:=Array.length_toList.symm
theorem zbo {a b c d : Value} (h : a = c) (h2 : b = d) : Ending.returned (.tuple #[a,b]) = .returned (.tuple #[c,d]):=by rw [h,h2]
theorem zcH (n : Int) (w : World) (h0 : 0 ≤ n) (h1 : n ≤ 255) :
  Calls Tryz.prog 175 #[.int .u8 n] w fun e w'=>e = .returned (.int .u8 (Asc.zhg n)) ∧ w' = w:=by
 by_cases h : 65 ≤ n ∧ n ≤ 90
 ·have HN : Hid (Asc.zhg n = n + 32):=by show _ = _;unfold Asc.zhg;rw [if_pos h]
  obtain ⟨ha,hb⟩:=h
  go_enter Tryz.func175,Tryz.ntmps175
  go_wp2
  go_ret
  exact ⟨zaj (by rw [HN.out];omega),rfl⟩
 ·have HN : Hid (Asc.zhg n = n):=by show _ = _;unfold Asc.zhg;rw [if_neg h]
  by_cases ha : 65 ≤ n
  ·have hb : ¬ n ≤ 90:=by omega
   clear h
   go_enter Tryz.func175,Tryz.ntmps175
   go_wp2
   go_ret
   exact ⟨zaj HN.out.symm,rfl⟩
  ·clear h
   go_enter Tryz.func175,Tryz.ntmps175
   go_wp2
   go_ret
   exact ⟨zaj HN.out.symm,rfl⟩
theorem zcY (c : UInt8) : (0 : Int) ≤ (c.toNat : Int) ∧ (c.toNat : Int) ≤ 255:=by have:=c.toNat_lt;omega
theorem zcI (c : UInt8) (w : World) :
  Calls Tryz.prog 175 #[.int .u8 c.toNat] w fun e w'=>e = .returned (.int .u8 (Asc.zbX c).toNat) ∧ w' = w:=by
 rw [← Asc.lowN_byte]
 exact zcH _ _ (zcY c).1 (zcY c).2
theorem zb8 (a : ByteArray) (k : Nat) (h : a.size ≤ k) : a.data.toList.take k = a.data.toList:=List.take_of_length_le (by simpa using h)
theorem zll (n : Int) (w : World) (h0 : 0 ≤ n) (h1 : n ≤ 255) :
  Calls Tryz.prog 204 #[.int .u8 n] w fun e w'=>e = .returned (.tuple #[.int .u32 (Asc.zjm n),.bool (Asc.zfp n)]) ∧ w' = w:=by
 have hbd:=Asc.lowN_bd n h0 h1
 obtain ⟨hb0,hb1⟩:=hbd
 rcases (show (48 ≤ Asc.zhg n ∧ Asc.zhg n ≤ 57) ∨ (97 ≤ Asc.zhg n ∧ Asc.zhg n ≤ 102) ∨ (Asc.zhg n < 48 ∨ (57 < Asc.zhg n ∧ Asc.zhg n < 97) ∨ 102 < Asc.zhg n) from by omega) with ⟨ha,hb⟩ | ⟨ha,hb⟩ | h
 ·have HN : Hid (Asc.zjm n = Asc.zhg n - 48 ∧ Asc.zfp n = true):=Asc.hex_digit n ha hb
  go_enter Tryz.func204,Tryz.ntmps204
  go_wp2_with (first
   | (go_at_call 175;refine (zcH n _ h0 h1).mono ?_;rintro e w1 ⟨rfl,hw⟩;rw [hw];clear hw)
   | go_in)
  go_ret2
  exact ⟨zbo (by rw [HN.out.1];rfl) (by rw [HN.out.2];rfl),rfl⟩
 ·have HN : Hid (Asc.zjm n = Asc.zhg n - 97 + 10 ∧ Asc.zfp n = true):=Asc.hex_letter n ha hb
  go_enter Tryz.func204,Tryz.ntmps204
  go_wp2_with (first
   | (go_at_call 175;refine (zcH n _ h0 h1).mono ?_;rintro e w1 ⟨rfl,hw⟩;rw [hw];clear hw)
   | go_in)
  go_ret2
  exact ⟨zbo (by rw [HN.out.1];rfl) (by rw [HN.out.2];rfl),rfl⟩
 ·have HN : Hid (Asc.zjm n = 0 ∧ Asc.zfp n = false):=Asc.hex_none n h
  rcases h with ha | ⟨ha,hb⟩ | ha
  all_goals
   go_enter Tryz.func204,Tryz.ntmps204
   go_wp2_with (first
    | (go_at_call 175;refine (zcH n _ h0 h1).mono ?_;rintro e w1 ⟨rfl,hw⟩;rw [hw];clear hw)
    | go_in)
   go_ret2
   exact ⟨zbo (by rw [HN.out.1];rfl) (by rw [HN.out.2];rfl),rfl⟩
theorem zcZ (c : UInt8) (w : World) :
  Calls Tryz.prog 204 #[.int .u8 c.toNat] w fun e w'=>e = .returned (.tuple #[.int .u32 (Asc.zjm (Asc.bt c)),.bool (Asc.zfp (Asc.bt c))]) ∧ w' = w:=zll _ _ (zcY c).1 (zcY c).2
theorem zh9 (s : ByteArray) (w : World) (hs : s.size ≤ 1000000000) :
  Calls Tryz.prog 203 #[.string s] w fun e w'=>e = .returned (.bool (Asc.zhi s.data.toList)) ∧ w' = w:=by
 go_enter Tryz.func203,Tryz.ntmps203
 go_wp2
 go_loop [8] (fun i=>∃ k : Nat,k ≤ s.size ∧ i = .int .i64 k ∧ Hid (Asc.zcC (s.data.toList.take k) = true)) (fun i=>s.size - (intOf i).toNat)
 case atStart=>exact ⟨0,Nat.zero_le _,rfl,rfl⟩
 case round =>
  obtain ⟨k,hk,rfl,HE⟩:=hrel
  by_cases hlt : k < s.size
  ·cases hx : Asc.zfp (Asc.bt s[k])
   ·have HN : Hid ((Asc.zhi s.data.toList) = false):=by
     show _ = _
     unfold Asc.zhi
     rw [Asc.allHex_not s.data.toList k hlt hx]
     rfl
    go_wp2_with (first
     | (go_at_call 204;refine (zcZ _ _).mono ?_;rintro e w1 ⟨rfl,hw⟩;rw [hw];clear hw))
    go_ret
    exact ⟨zac HN.out.symm,rfl⟩
   ·have HN : Hid (Asc.zcC (s.data.toList.take (k + 1)) = true):=by
     show _ = _
     rw [Asc.zrq s.data.toList k hlt,HE.out,Bool.true_and]
     exact hx
    go_wp2_with (first
     | (go_at_call 204;refine (zcZ _ _).mono ?_;rintro e w1 ⟨rfl,hw⟩;rw [hw];clear hw))
    go_round
    case rel=>exact ⟨k + 1,by omega,by go_num,HN⟩
    case measure=>simp [intOf];omega
  ·have HN : Hid (Asc.zcC s.data.toList = true):=by
    have:=HE.out
    rwa [zb8 s k (by omega)] at this
   go_wp2
   go_ret
   exact ⟨zac (by unfold Asc.zhi;rw [HN.out,ByteArray.toList_eq];rfl),rfl⟩
theorem or_hex (n d : Int) (h0 : 0 ≤ n) (h1 : n ≤ 268435455) (h2 : 0 ≤ d) (h3 : d ≤ 15) : bits BinOp.or IntKind.u32 (n * 16) d = n * 16 + d:=by
 obtain ⟨a,rfl⟩:=Int.eq_ofNat_of_zero_le h0
 obtain ⟨b,rfl⟩:=Int.eq_ofNat_of_zero_le h2
 rw [u32_or _ _ (by omega) (by omega) (by omega) (by omega)]
 have e : ((a : Int) * 16).toNat = 2 ^ 4 * a:=by omega
 rw [e,Int.toNat_natCast,← Nat.two_pow_add_eq_or_of_lt (show b < 2 ^ 4 by omega)]
 omega
theorem zrv (s : ByteArray) (w : World) (hs : s.size ≤ 1000000000) :
  Calls Tryz.prog 200 #[.string s] w fun e w'=>e = .returned (.tuple #[.int .u32 (Asc.zfq s.data.toList),.int .i64 (Asc.zfr s.data.toList)]) ∧ w' = w:=by
 cases hx : (Asc.zhi s.data.toList)
 ·have HN : Hid (Asc.zfq s.data.toList = 0 ∧ Asc.zfr s.data.toList = 3):=Asc.hex_form _ (Asc.hexForm_no _ hx)
  go_enter Tryz.func200,Tryz.ntmps200
  go_wp2_with (first
   | (go_at_call 203;refine (zh9 s _ hs).mono ?_;rintro e w1 ⟨rfl,hw⟩;rw [hw];clear hw))
  go_ret2
  exact ⟨zbo (by rw [HN.out.1];rfl) (by rw [HN.out.2];rfl),rfl⟩
 ·have HA : Hid (Asc.zcC s.data.toList = true ∧ s.data.toList ≠ []):=Asc.zrr _ hx
  go_enter Tryz.func200,Tryz.ntmps200
  go_wp2_with (first
   | (go_at_call 203;refine (zh9 s _ hs).mono ?_;rintro e w1 ⟨rfl,hw⟩;rw [hw];clear hw))
  clear hx
  go_loop [4,13] (fun m i=>∃ (k : Nat) (n : Int),k ≤ s.size ∧ i = .int .i64 k ∧ m = .int .u32 n ∧ 0 ≤ n ∧ n ≤ 4294967295 ∧ Hid (Asc.zbD n (s.data.toList.drop k) = Asc.zbD 0 s.data.toList)) (fun _ i=>s.size - (intOf i).toNat)
  case atStart=>exact ⟨0,0,Nat.zero_le _,rfl,rfl,by omega,by omega,rfl⟩
  case round =>
   obtain ⟨k,n,hk,rfl,rfl,hn0,hn1,HE⟩:=hrel
   by_cases hlt : k < s.size
   ·by_cases hn : 268435455 < n
    ·have HN : Hid (Asc.zfq s.data.toList = 0 ∧ Asc.zfr s.data.toList = 5):=Asc.zpd _ HA.out (by rw [← HE.out];exact Asc.zqO _ k n hlt hn)
     go_wp2
     go_ret2
     exact ⟨zbo (by rw [HN.out.1];rfl) (by rw [HN.out.2];rfl),rfl⟩
    ·have hv:=Asc.zhh (Asc.bt s[k])
     obtain ⟨hv0,hv1⟩:=hv
     have HN : Hid (Asc.zbD (n * 16 + Asc.zjm (Asc.bt s[k])) (s.data.toList.drop (k + 1)) = Asc.zbD 0 s.data.toList):=by
      show _ = _
      rw [← HE.out]
      exact (Asc.zqN _ k n hlt (by omega)).symm
     go_wp2_with (first
      | (go_at_call 204;refine (zcZ _ _).mono ?_;rintro e w1 ⟨rfl,hw⟩;rw [hw];clear hw))
     go_round
     case rel=>exact ⟨k + 1,n * 16 + Asc.zjm (Asc.bt s[k]),by omega,by go_num,by rw [or_hex n _ hn0 (by omega) hv0 hv1],by omega,by omega,HN⟩
     case measure=>simp [intOf];omega
   ·have HN : Hid (Asc.zfq s.data.toList = n ∧ Asc.zfr s.data.toList = 0):=Asc.hex_ok _ n HA.out (by rw [← HE.out];exact Asc.zrp _ k n (by simpa using Nat.le_of_not_lt hlt))
    go_wp2
    go_ret2
    exact ⟨zbo (by rw [HN.out.1];rfl) (by rw [HN.out.2];rfl),rfl⟩
def zes (n : Int) : Int:=if Asc.zfp n = true then Asc.zjm n else 16
theorem zjo (n : Int) (h : Asc.zfp n = true) : zes n = Asc.zjm n:=if_pos h
theorem nib_no (n : Int) (h : Asc.zfp n = false) : zes n = 16:=by unfold zes;rw [h];rfl
theorem zmv (n : Int) (w : World) (h0 : 0 ≤ n) (h1 : n ≤ 255) :
  Calls Tryz.prog 164 #[.int .u8 n] w fun e w'=>e = .returned (.int .u32 (zes n)) ∧ w' = w:=by
 rcases (show (48 ≤ n ∧ n ≤ 57) ∨ (97 ≤ n ∧ n ≤ 102) ∨ (65 ≤ n ∧ n ≤ 70) ∨ n < 48 ∨ (57 < n ∧ n < 65) ∨ (70 < n ∧ n < 97) ∨ 102 < n from by omega) with ⟨ha,hb⟩ | ⟨ha,hb⟩ | ⟨ha,hb⟩ | ha | ⟨ha,hb⟩ | ⟨ha,hb⟩ | ha
 ·have hd : zqR n = true:=zhk ha hb
  have HN : Hid (zes n = n - 48):=by
   show _ = _
   unfold zes Asc.zfp Asc.zjm
   rw [if_pos (by simp [ha,hb]),if_pos ⟨ha,hb⟩]
  go_enter Tryz.func164,Tryz.ntmps164
  go_wp2_with (first
   | (go_at_call 113;refine (zcD n _).mono ?_;rintro e w1 ⟨rfl,hw⟩;rw [hw];clear hw))
  go_ret
  exact ⟨zaj HN.out.symm,rfl⟩
 ·have hd : zqR n = false:=zdJ (by omega)
  have HN : Hid (zes n = n - 97 + 10):=by
   show _ = _
   unfold zes Asc.zfp Asc.zjm
   rw [if_pos (by simp [ha,hb]),if_neg (by omega),if_pos ⟨ha,hb⟩]
   omega
  go_enter Tryz.func164,Tryz.ntmps164
  go_wp2_with (first
   | (go_at_call 113;refine (zcD n _).mono ?_;rintro e w1 ⟨rfl,hw⟩;rw [hw];clear hw))
  go_ret
  exact ⟨zaj HN.out.symm,rfl⟩
 ·have hd : zqR n = false:=zdJ (by omega)
  have HN : Hid (zes n = n - 65 + 10):=by
   show _ = _
   unfold zes Asc.zfp Asc.zjm
   rw [if_pos (by simp [ha,hb]),if_neg (by omega),if_neg (by omega),if_pos ⟨ha,hb⟩]
   omega
  go_enter Tryz.func164,Tryz.ntmps164
  go_wp2_with (first
   | (go_at_call 113;refine (zcD n _).mono ?_;rintro e w1 ⟨rfl,hw⟩;rw [hw];clear hw))
  go_ret
  exact ⟨zaj HN.out.symm,rfl⟩
 all_goals
  have hd : zqR n = false:=zdJ (by omega)
  have HN : Hid (zes n = 16):=by
   show _ = _
   unfold zes Asc.zfp
   rw [decide_eq_false (by omega),decide_eq_false (by omega),decide_eq_false (by omega)]
   rfl
  go_enter Tryz.func164,Tryz.ntmps164
  go_wp2_with (first
   | (go_at_call 113;refine (zcD n _).mono ?_;rintro e w1 ⟨rfl,hw⟩;rw [hw];clear hw))
  go_ret
  exact ⟨zaj HN.out.symm,rfl⟩
theorem zjp (c : UInt8) (w : World) :
  Calls Tryz.prog 164 #[.int .u8 c.toNat] w fun e w'=>e = .returned (.int .u32 (zes (Asc.bt c))) ∧ w' = w:=zmv _ _ (zcY c).1 (zcY c).2
end Go.Proofs.YtiodaahncadodaaGreatDoor
