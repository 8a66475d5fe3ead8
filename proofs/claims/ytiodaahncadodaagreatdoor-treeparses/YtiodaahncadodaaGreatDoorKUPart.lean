/- The contracts of utf.shape and utf.part. -/
import Derived.Test.YtiodaahncadodaaGreatDoorKBase
import Derived.Test.YtiodaahncadodaaGreatDoorKMath
import Derived.OwnWalk
set_option maxRecDepth 100000
set_option maxHeartbeats 1000000
namespace Utf
def lo' (b : Nat) : Nat:=if sz b ≤ 1 then 0 else lo b
def hi' (b : Nat) : Nat:=if sz b ≤ 1 then 0 else hi b
def zih (b k : Nat) : Nat:=if k = 1 then lo' b else 128
def zeW (b k : Nat) : Nat:=if k = 1 then hi' b else 191
theorem zii (b : Nat) : sz b ≤ 4:=by
 unfold sz
 repeat' split
 all_goals omega
theorem znf {b : Nat} (h : ¬ sz b ≤ 1) : lo' b = lo b ∧ hi' b = hi b:=by unfold lo' hi';rw [if_neg h,if_neg h];exact ⟨rfl,rfl⟩
theorem bad_at (b k x : Nat) (h : 1 < sz b) (hb : x < zih b k ∨ zeW b k < x) : (k = 1 → x < lo b ∨ hi b < x) ∧ (k ≠ 1 → x < 128 ∨ 191 < x):=by
 have e':=znf (b:=b) (by omega)
 unfold zih zeW at hb
 rw [e'.1,e'.2] at hb
 constructor
 ·intro e;rw [if_pos e,if_pos e] at hb;exact hb
 ·intro e;rw [if_neg e,if_neg e] at hb;exact hb
theorem zrQ (b k x : Nat) (h : 1 < sz b) (hb : ¬ (x < zih b k ∨ zeW b k < x)) : (k = 1 → lo b ≤ x ∧ x ≤ hi b) ∧ (k ≠ 1 → 128 ≤ x ∧ x ≤ 191):=by
 have e':=znf (b:=b) (by omega)
 unfold zih zeW at hb
 rw [e'.1,e'.2] at hb
 constructor
 ·intro e;rw [if_pos e,if_pos e] at hb;omega
 ·intro e;rw [if_neg e,if_neg e] at hb;omega
theorem zng (l : List UInt8) (k : Nat) (h1 : 1 ≤ k) (hk : k ≤ (zbs l).1) (hs : k < sz (at' l 0)) (hb : at' l k < zih (at' l 0) k ∨ zeW (at' l 0) k < at' l k) : zbs l = (k,false):=by
 have hs4:=zii (at' l 0)
 obtain ⟨b1,b2⟩:=bad_at _ _ _ (by omega) hb
 clear hb
 have h3 : k = 1 ∨ k = 2 ∨ k = 3:=by omega
 unfold zbs zbm at *
 revert hk
 rcases h3 with rfl | rfl | rfl
 ·have:=b1 rfl
  repeat' split
  all_goals intro hk
  all_goals first | rfl | (exfalso;omega)
 ·have:=b2 (by omega)
  repeat' split
  all_goals intro hk
  all_goals dsimp only at hk
  all_goals first | rfl | (exfalso;omega)
 ·have:=b2 (by omega)
  repeat' split
  all_goals intro hk
  all_goals dsimp only at hk
  all_goals first | rfl | (exfalso;omega)
theorem znh (l : List UInt8) (k : Nat) (h1 : 1 ≤ k) (hk : k ≤ (zbs l).1) (hs : k < sz (at' l 0)) (hl : k < l.length) (hb : ¬ (at' l k < zih (at' l 0) k ∨ zeW (at' l 0) k < at' l k)) : k + 1 ≤ (zbs l).1:=by
 have hs4:=zii (at' l 0)
 obtain ⟨b1,b2⟩:=zrQ _ _ _ (by omega) hb
 clear hb
 have h3 : k = 1 ∨ k = 2 ∨ k = 3:=by omega
 unfold zbs zbm at *
 revert hk
 rcases h3 with rfl | rfl | rfl
 ·have:=b1 rfl
  repeat' split
  all_goals intro hk
  all_goals dsimp only at hk ⊢
  all_goals omega
 ·have:=b2 (by omega)
  repeat' split
  all_goals intro hk
  all_goals dsimp only at hk ⊢
  all_goals omega
 ·have:=b2 (by omega)
  repeat' split
  all_goals intro hk
  all_goals dsimp only at hk ⊢
  all_goals omega
theorem zpx (l : List UInt8) (k : Nat) (h : l ≠ []) (h1 : 1 ≤ k) (hk : k ≤ (zbs l).1) (hs : ¬ (k < sz (at' l 0) ∧ k < l.length)) : zbs l = (k,decide (k = sz (at' l 0))):=by
 have h4:=zhd l
 have hn:=zfo h
 have hs4:=zii (at' l 0)
 have hk4 : k ≤ 4:=by omega
 unfold zbs zbm at *
 revert hk
 repeat' split
 all_goals intro hk
 all_goals dsimp only at hk
 all_goals first | (exfalso;omega) | skip
 all_goals rw [Prod.mk.injEq]
 all_goals refine ⟨by omega,?_⟩
 all_goals symm
 all_goals first | (apply decide_eq_true;omega) | (apply decide_eq_false;omega)
end Utf
namespace Go.Proofs.YtiodaahncadodaaGreatDoor
open Go.RowKit
theorem zeX (s : ByteArray) (k : Nat) (h : k < s.size) : s[k].toNat = Utf.at' s.data.toList k:=by
 unfold Utf.at'
 rw [List.getD_eq_getElem?_getD,List.getElem?_eq_getElem (show k < s.data.toList.length from h)]
 rfl
theorem zni (a b : Nat) : ((a : Int) == (b : Int)) = decide (a = b):=by
 rw [Bool.eq_iff_iff,beq_iff_eq,decide_eq_true_iff]
 omega
theorem zbk {w wr : World} (h : ∃ m,wr = w.drewN m) (n : Nat) : ∃ m,wr.drewN n = w.drewN m:=by
 obtain ⟨m,rfl⟩:=h
 exact ⟨m + n,World.drewN_drewN _ _ _⟩
theorem znj (b : Nat) (hb : b < 256) (w : World) :
  Calls Tryz.prog 143 #[.int .u8 b] w fun e w'=>e = .returned (.tuple #[.int .i64 (Utf.sz b : Nat),.int .u8 (Utf.lo' b : Nat),.int .u8 (Utf.hi' b : Nat)]) ∧ w' = w:=by
 go_enter Tryz.func143,Tryz.ntmps143
 go_wp2
 all_goals go_ret3
 all_goals refine ⟨?_,rfl⟩
 all_goals simp only [beq_iff_eq,beq_eq_false_iff_ne,ne_eq] at *
 all_goals unfold Utf.lo' Utf.hi' Utf.sz Utf.lo Utf.hi
 all_goals repeat' split
 all_goals first | rfl | (exfalso;omega)
theorem zpy (s : ByteArray) (l : List UInt8) (hl : s.data.toList = l) (h : l ≠ []) (w : World) (hz : s.size ≤ 9223372036854775800) :
  Calls Tryz.prog 116 #[.string s] w fun e w'=>e = .returned (.tuple #[.int .i64 ((Utf.zbs l).1 : Nat),.bool (Utf.zbs l).2]) ∧ ∃ n,w' = w.drewN n:=by
 have hlen : s.size = l.length:=by rw [← hl];rfl
 have hn:=Utf.zfo h
 have hb0:=Utf.zdI l 0
 have HL : Hid (s.data.toList = l):=hl
 have h0 : 0 < s.size:=by omega
 have g0 : s[0].toNat = Utf.at' l 0:=by rw [zeX s 0 h0,hl]
 have hs4:=Utf.zii (Utf.at' l 0)
 clear hl
 go_enter Tryz.func116,Tryz.ntmps116
 go_wp2_with (go_at_call 143;refine (znj _ hb0 _).mono ?_;rintro e w1 ⟨rfl,hw⟩;rw [hw];clear hw)
 go_loopw [2,5,6] (fun i lw hg wr=>∃ k : Nat,1 ≤ k ∧ k ≤ (Utf.zbs l).1 ∧ i = .int .i64 k ∧ lw = .int .u8 (Utf.zih (Utf.at' l 0) k : Nat) ∧ hg = .int .u8 (Utf.zeW (Utf.at' l 0) k : Nat) ∧ Hid (∃ m,wr = w.drewN m)) (fun i _ _ _=>5 - (intOf i).toNat)
 case atStart=>exact ⟨1,Nat.le_refl _,Utf.zdh l,rfl,rfl,rfl,0,rfl⟩
 case round =>
  obtain ⟨k,hk1,hk,rfl,rfl,rfl,HW⟩:=hrel
  have hk4:=Utf.zhd l
  have hi64 : (k : Int) + 1 ≤ 9223372036854775807:=by omega
  by_cases hlt : k < Utf.sz (Utf.at' l 0) ∧ k < l.length
  ·obtain ⟨q1,q2⟩:=hlt
   have hk2 : k < s.size:=by omega
   have gk : s[k].toNat = Utf.at' l k:=by rw [zeX s k hk2,HL.out]
   by_cases c1 : Utf.at' l k < Utf.zih (Utf.at' l 0) k
   ·have HN : Hid (Utf.zbs l = (k,false)):=Utf.zng l k hk1 hk q1 (.inl c1)
    by_cases hq : l.length < Utf.sz (Utf.at' l 0)
    all_goals go_wp2
    all_goals go_ret2
    all_goals exact ⟨by rw [HN.out];rfl,HW.out⟩
   by_cases c2 : Utf.zeW (Utf.at' l 0) k < Utf.at' l k
   ·have HN : Hid (Utf.zbs l = (k,false)):=Utf.zng l k hk1 hk q1 (.inr c2)
    by_cases hq : l.length < Utf.sz (Utf.at' l 0)
    all_goals go_wp2
    all_goals go_ret2
    all_goals exact ⟨by rw [HN.out];rfl,HW.out⟩
   have HN : Hid (k + 1 ≤ (Utf.zbs l).1):=Utf.znh l k hk1 hk q1 q2 (by omega)
   have HV : Hid (Utf.zih (Utf.at' l 0) (k + 1) = 128 ∧ Utf.zeW (Utf.at' l 0) (k + 1) = 191):=by
    show _ ∧ _
    unfold Utf.zih Utf.zeW
    rw [if_neg (by omega),if_neg (by omega)]
    exact ⟨rfl,rfl⟩
   by_cases hq : l.length < Utf.sz (Utf.at' l 0)
   all_goals go_wp2
   all_goals go_roundw
   all_goals first
    | exact ⟨k + 1,by omega,HN.out,by go_num,by rw [HV.out.1];rfl,by rw [HV.out.2];rfl,HW⟩
    | (simp [intOf];omega)
  ·have HN : Hid (Utf.zbs l = (k,decide (k = Utf.sz (Utf.at' l 0)))):=Utf.zpx l k h hk1 hk hlt
   by_cases hq : l.length < Utf.sz (Utf.at' l 0)
   ·have q3 : ¬ k < l.length:=by omega
    clear hlt
    go_wp2
    go_ret2
    exact ⟨by rw [HN.out];simp [zni],HW.out⟩
   ·have q3 : ¬ k < Utf.sz (Utf.at' l 0):=by omega
    clear hlt
    go_wp2
    go_ret2
    exact ⟨by rw [HN.out];simp [zni],HW.out⟩
end Go.Proofs.YtiodaahncadodaaGreatDoor
