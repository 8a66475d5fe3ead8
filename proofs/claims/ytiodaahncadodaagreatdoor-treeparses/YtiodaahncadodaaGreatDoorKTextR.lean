/- Texts laid as one. -/
import Derived.Test.YtiodaahncadodaaGreatDoorKRefA
import Derived.Test.YtiodaahncadodaaGreatDoorKURepair
set_option maxRecDepth 100000
set_option maxHeartbeats 2000000
namespace Utf
def zdy (l : List UInt8) (k : Nat) : Bool:=decide (k < sz (at' l 0)) && decide (k < l.length) && zoP (at' l 0) k (at' l k)
theorem goes_on (l : List UInt8) (k : Nat) (h1 : 1 ≤ k) (hk : k ≤ (zbs l).1) (h : zdy l k = true) : k + 1 ≤ (zbs l).1:=by
 unfold zdy at h
 simp only [Bool.and_eq_true,decide_eq_true_eq] at h
 refine znh l k h1 hk h.1.1 h.1.2 ?_
 intro hb
 have:=(zla (at' l 0) k (at' l k) (by omega)).2 hb
 rw [h.2] at this
 cases this
theorem stops (l : List UInt8) (k : Nat) (hl : l ≠ []) (h1 : 1 ≤ k) (hk : k ≤ (zbs l).1) (h : zdy l k = false) : zbs l = (k,decide (k = sz (at' l 0))):=by
 by_cases hs : k < sz (at' l 0) ∧ k < l.length
 ·unfold zdy at h
  rw [decide_eq_true hs.1,decide_eq_true hs.2,Bool.true_and,Bool.true_and] at h
  rw [zng l k h1 hk hs.1 ((zla (at' l 0) k (at' l k) (by omega)).1 h),decide_eq_false (by omega)]
 ·exact zpx l k hl h1 hk hs
theorem part_le_sz (l : List UInt8) (h : sz (at' l 0) ≠ 0) : (zbs l).1 ≤ sz (at' l 0):=by
 unfold zbs zbm
 repeat' split
 all_goals dsimp only
 all_goals omega
def why (l : List UInt8) : Int:=if (zbs l).2 then 0 else 9
theorem why_bad {l : List UInt8} (h : (zbs l).2 = false) : why l = 9:=by unfold why;rw [h];rfl
theorem why_ok {l : List UInt8} (h : (zbs l).2 = true) : why l = 0:=by unfold why;rw [h];rfl
theorem part_sz (l : List UInt8) (h : sz (at' l 0) = 0) : zbs l = (1,false):=by
 unfold zbs zbm
 rw [if_neg (by omega),if_pos h]
end Utf
namespace Go.Proofs.YtiodaahncadodaaGreatDoor
open Go.RowKit
theorem zo4 (s : ByteArray) (l : List UInt8) (hl : s.data.toList = l) (h : l ≠ []) (w : World) (hz : s.size ≤ 9223372036854775800) :
  Calls Tryz.prog 105 #[.string s] w fun e w'=>e = .returned (.tuple #[.int .i32 ((Utf.dec l).1 : Nat),.int .i64 ((Utf.zbs l).1 : Nat),.int .i64 (Utf.why l)]) ∧ ∃ n,w' = w.drewN n:=by
 have hlen : s.size = l.length:=by rw [← hl];rfl
 have hn:=Utf.zfo h
 have hb0:=Utf.zdI l 0
 have HL : Hid (s.data.toList = l):=hl
 have h0 : 0 < s.size:=by omega
 have g0 : s[0].toNat = Utf.at' l 0:=by rw [zeX s 0 h0,hl]
 have hs4:=Utf.zii (Utf.at' l 0)
 have hemp : s.toList.isEmpty = false:=by
  rw [ByteArray.toList_eq,hl]
  cases l with
  | nil=>exact absurd rfl h
  | cons _ _=>rfl
 clear hl
 by_cases hsz : Utf.sz (Utf.at' l 0) = 0
 ·have HP : Hid (Utf.zbs l = (1,false)):=Utf.part_sz l hsz
  have HD : Hid (Utf.dec l = (65533,1)):=Utf.zhe l h (by rw [HP.out])
  have hq : ((Utf.sz (Utf.at' l 0) : Int) == 0) = true:=by rw [hsz];rfl
  clear hsz
  go_enter Tryz.func105,Tryz.ntmps105
  go_wp2_with (go_at_call 134;refine (zlb _ _).mono ?_;rintro e w1 ⟨rfl,hw⟩;rw [hw];clear hw)
  go_ret3
  exact ⟨by rw [Utf.why_bad (by rw [HP.out]),HP.out,HD.out];rfl,0,rfl⟩
 have hq : ((Utf.sz (Utf.at' l 0) : Int) == 0) = false:=by rw [beq_eq_false_iff_ne];omega
 go_enter Tryz.func105,Tryz.ntmps105
 go_wp2_with (go_at_call 134;refine (zlb _ _).mono ?_;rintro e w1 ⟨rfl,hw⟩;rw [hw];clear hw)
 go_loopw [6] (fun i wr=>∃ k : Nat,1 ≤ k ∧ k ≤ (Utf.zbs l).1 ∧ i = .int .i64 k ∧ Hid (∃ m,wr = w.drewN m)) (fun i _=>5 - (intOf i).toNat)
 case atStart=>exact ⟨1,Nat.le_refl _,Utf.zdh l,rfl,0,rfl⟩
 case round =>
  obtain ⟨k,hk1,hk,rfl,HW⟩:=hrel
  have hk4:=Utf.zhd l
  have hbk:=Utf.zdI l k
  by_cases q1 : k < Utf.sz (Utf.at' l 0)
  ·by_cases q2 : k < l.length
   ·have hk2 : k < s.size:=by omega
    have gk : s[k].toNat = Utf.at' l k:=by rw [zeX s k hk2,HL.out]
    cases hg : Utf.zoP (Utf.at' l 0) k (Utf.at' l k)
    ·have HS : Hid (Utf.zbs l = (k,decide (k = Utf.sz (Utf.at' l 0)))):=Utf.stops l k h hk1 hk (by unfold Utf.zdy;rw [hg,Bool.and_false])
     have HD : Hid (Utf.dec l = (65533,1)):=Utf.zhe l h (by rw [HS.out];exact decide_eq_false (by omega))
     go_wp2
     go_quiet ((go_at_call 135;exact Calls.quiet_of_same (zlc _ _ _ _)))
     go_wp2
     go_ret3
     exact ⟨by rw [Utf.why_bad (by rw [HS.out];exact decide_eq_false (by omega)),HS.out,HD.out];rfl,zbk HW.out nq⟩
    ·have HN : Hid (k + 1 ≤ (Utf.zbs l).1):=Utf.goes_on l k hk1 hk (by unfold Utf.zdy;rw [hg,decide_eq_true q1,decide_eq_true q2];rfl)
     go_wp2
     go_quiet ((go_at_call 135;exact Calls.quiet_of_same (zlc _ _ _ _)))
     go_wp2
     go_roundw
     case rel=>exact ⟨k + 1,by omega,HN.out,by go_num,zbk HW.out nq⟩
     case measure=>simp [intOf];omega
   ·have HS : Hid (Utf.zbs l = (k,decide (k = Utf.sz (Utf.at' l 0)))):=Utf.stops l k h hk1 hk (by unfold Utf.zdy;rw [decide_eq_false q2,Bool.and_false];rfl)
    have HD : Hid (Utf.dec l = (65533,1)):=Utf.zhe l h (by rw [HS.out];exact decide_eq_false (by omega))
    go_wp2
    go_quiet (fail)
    go_wp2
    go_ret3
    exact ⟨by rw [Utf.why_bad (by rw [HS.out];exact decide_eq_false (by omega)),HS.out,HD.out];rfl,zbk HW.out nq⟩
  ·have hks : k = Utf.sz (Utf.at' l 0):=by have:=Utf.part_le_sz l hsz;omega
   have HS : Hid (Utf.zbs l = (k,true)):=by
    show _ = _
    rw [Utf.stops l k h hk1 hk (by unfold Utf.zdy;rw [decide_eq_false q1];rfl),decide_eq_true hks]
   have hw : (Utf.zbs l).2 = true:=by rw [HS.out]
   have hval:=Utf.val_end l h hw
   have hbd:=Utf.zqT l hw
   have HK : Hid (k = Utf.sz (Utf.at' l 0)):=hks
   clear hks
   have HC : Hid (Utf.sz (Utf.at' l 0) ≤ s.size):=by
    show _ ≤ _
    have:=Utf.zko l h
    rw [HS.out] at this
    have:=HK.out
    omega
   have HB : Hid (∀ i,1 ≤ i → i < Utf.sz (Utf.at' l 0) → 0 ≤ Utf.zgA l (Utf.off (Utf.sz (Utf.at' l 0))) i ∧ Utf.zgA l (Utf.off (Utf.sz (Utf.at' l 0))) i ≤ 30000):=hbd
   have HV : Hid (Utf.zgA l (Utf.off (Utf.sz (Utf.at' l 0))) (Utf.sz (Utf.at' l 0)) = ((Utf.dec l).1 : Int)):=hval
   have HWH : Hid ((Utf.zbs l).2 = true):=hw
   clear hbd hval hw
   rcases Utf.zgF (Utf.at' l 0) hsz with q | q | q | q
   ·have t2 : ((Utf.sz (Utf.at' l 0) : Int) == 2) = false:=by rw [q.1];rfl
    have t3 : ((Utf.sz (Utf.at' l 0) : Int) == 3) = false:=by rw [q.1];rfl
    have t4 : ((Utf.sz (Utf.at' l 0) : Int) == 4) = false:=by rw [q.1];rfl
    have HO : Hid (Utf.off (Utf.sz (Utf.at' l 0)) = 0):=by show _ = _;rw [q.1];rfl
    have q':=q.2
    clear q
    go_wp2
    go_quiet (fail)
    go_wp2
    go_loopw [7,8] (fun c i wr2=>∃ j : Nat,1 ≤ j ∧ j ≤ Utf.sz (Utf.at' l 0) ∧ i = .int .i64 j ∧ c = .int .i32 (Utf.zgA l (Utf.off (Utf.sz (Utf.at' l 0))) j) ∧ wr2 = wr.drewN nq) (fun _ i _=>5 - (intOf i).toNat)
    case atStart=>exact ⟨1,Nat.le_refl _,by omega,rfl,by rw [Utf.zgB,HO.out];simp,rfl⟩
    case round =>
     obtain ⟨j,hj1,hj,rfl,rfl,rfl⟩:=hrel
     by_cases hjl : j < Utf.sz (Utf.at' l 0)
     ·have hj2 : j < s.size:=by have:=HC.out;omega
      have hj3 : j < l.length:=by omega
      have gj : s[j].toNat = Utf.at' l j:=by rw [zeX s j hj2,HL.out]
      have hbj:=Utf.zdI l j
      have hvb:=HB.out j hj1 hjl
      have HN : Hid (Utf.zgA l (Utf.off (Utf.sz (Utf.at' l 0))) (j + 1) = Utf.zgA l (Utf.off (Utf.sz (Utf.at' l 0))) j * 64 + (Utf.at' l j : Int) - 128):=Utf.zi9 l _ j hj1
      go_wp2
      go_roundw
      case rel=>exact ⟨j + 1,by omega,by omega,by go_num,by rw [HN.out],by trivial⟩
      case measure=>simp [intOf];omega
     ·have HJ : Hid (j = Utf.sz (Utf.at' l 0)):=by show _ = _;omega
      go_wp2
      go_ret3
      exact ⟨by rw [Utf.why_ok HWH.out,← HV.out,← HJ.out,HS.out,HK.out,← HJ.out];rfl,zbk HW.out nq⟩
   ·have t2 : ((Utf.sz (Utf.at' l 0) : Int) == 2) = true:=by rw [q.1];rfl
    have t3 : ((Utf.sz (Utf.at' l 0) : Int) == 3) = false:=by rw [q.1];rfl
    have t4 : ((Utf.sz (Utf.at' l 0) : Int) == 4) = false:=by rw [q.1];rfl
    have HO : Hid (Utf.off (Utf.sz (Utf.at' l 0)) = 192):=by show _ = _;rw [q.1];rfl
    have q':=q.2
    clear q
    go_wp2
    go_quiet (fail)
    go_wp2
    go_loopw [7,8] (fun c i wr2=>∃ j : Nat,1 ≤ j ∧ j ≤ Utf.sz (Utf.at' l 0) ∧ i = .int .i64 j ∧ c = .int .i32 (Utf.zgA l (Utf.off (Utf.sz (Utf.at' l 0))) j) ∧ wr2 = wr.drewN nq) (fun _ i _=>5 - (intOf i).toNat)
    case atStart=>exact ⟨1,Nat.le_refl _,by omega,rfl,by rw [Utf.zgB,HO.out],rfl⟩
    case round =>
     obtain ⟨j,hj1,hj,rfl,rfl,rfl⟩:=hrel
     by_cases hjl : j < Utf.sz (Utf.at' l 0)
     ·have hj2 : j < s.size:=by have:=HC.out;omega
      have hj3 : j < l.length:=by omega
      have gj : s[j].toNat = Utf.at' l j:=by rw [zeX s j hj2,HL.out]
      have hbj:=Utf.zdI l j
      have hvb:=HB.out j hj1 hjl
      have HN : Hid (Utf.zgA l (Utf.off (Utf.sz (Utf.at' l 0))) (j + 1) = Utf.zgA l (Utf.off (Utf.sz (Utf.at' l 0))) j * 64 + (Utf.at' l j : Int) - 128):=Utf.zi9 l _ j hj1
      go_wp2
      go_roundw
      case rel=>exact ⟨j + 1,by omega,by omega,by go_num,by rw [HN.out],by trivial⟩
      case measure=>simp [intOf];omega
     ·have HJ : Hid (j = Utf.sz (Utf.at' l 0)):=by show _ = _;omega
      go_wp2
      go_ret3
      exact ⟨by rw [Utf.why_ok HWH.out,← HV.out,← HJ.out,HS.out,HK.out,← HJ.out];rfl,zbk HW.out nq⟩
   ·have t2 : ((Utf.sz (Utf.at' l 0) : Int) == 2) = false:=by rw [q.1];rfl
    have t3 : ((Utf.sz (Utf.at' l 0) : Int) == 3) = true:=by rw [q.1];rfl
    have t4 : ((Utf.sz (Utf.at' l 0) : Int) == 4) = false:=by rw [q.1];rfl
    have HO : Hid (Utf.off (Utf.sz (Utf.at' l 0)) = 224):=by show _ = _;rw [q.1];rfl
    have q':=q.2
    clear q
    go_wp2
    go_quiet (fail)
    go_wp2
    go_loopw [7,8] (fun c i wr2=>∃ j : Nat,1 ≤ j ∧ j ≤ Utf.sz (Utf.at' l 0) ∧ i = .int .i64 j ∧ c = .int .i32 (Utf.zgA l (Utf.off (Utf.sz (Utf.at' l 0))) j) ∧ wr2 = wr.drewN nq) (fun _ i _=>5 - (intOf i).toNat)
    case atStart=>exact ⟨1,Nat.le_refl _,by omega,rfl,by rw [Utf.zgB,HO.out],rfl⟩
    case round =>
     obtain ⟨j,hj1,hj,rfl,rfl,rfl⟩:=hrel
     by_cases hjl : j < Utf.sz (Utf.at' l 0)
     ·have hj2 : j < s.size:=by have:=HC.out;omega
      have hj3 : j < l.length:=by omega
      have gj : s[j].toNat = Utf.at' l j:=by rw [zeX s j hj2,HL.out]
      have hbj:=Utf.zdI l j
      have hvb:=HB.out j hj1 hjl
      have HN : Hid (Utf.zgA l (Utf.off (Utf.sz (Utf.at' l 0))) (j + 1) = Utf.zgA l (Utf.off (Utf.sz (Utf.at' l 0))) j * 64 + (Utf.at' l j : Int) - 128):=Utf.zi9 l _ j hj1
      go_wp2
      go_roundw
      case rel=>exact ⟨j + 1,by omega,by omega,by go_num,by rw [HN.out],by trivial⟩
      case measure=>simp [intOf];omega
     ·have HJ : Hid (j = Utf.sz (Utf.at' l 0)):=by show _ = _;omega
      go_wp2
      go_ret3
      exact ⟨by rw [Utf.why_ok HWH.out,← HV.out,← HJ.out,HS.out,HK.out,← HJ.out];rfl,zbk HW.out nq⟩
   ·have t2 : ((Utf.sz (Utf.at' l 0) : Int) == 2) = false:=by rw [q.1];rfl
    have t3 : ((Utf.sz (Utf.at' l 0) : Int) == 3) = false:=by rw [q.1];rfl
    have t4 : ((Utf.sz (Utf.at' l 0) : Int) == 4) = true:=by rw [q.1];rfl
    have HO : Hid (Utf.off (Utf.sz (Utf.at' l 0)) = 240):=by show _ = _;rw [q.1];rfl
    have q':=q.2
    clear q
    go_wp2
    go_quiet (fail)
    go_wp2
    go_loopw [7,8] (fun c i wr2=>∃ j : Nat,1 ≤ j ∧ j ≤ Utf.sz (Utf.at' l 0) ∧ i = .int .i64 j ∧ c = .int .i32 (Utf.zgA l (Utf.off (Utf.sz (Utf.at' l 0))) j) ∧ wr2 = wr.drewN nq) (fun _ i _=>5 - (intOf i).toNat)
    case atStart=>exact ⟨1,Nat.le_refl _,by omega,rfl,by rw [Utf.zgB,HO.out],rfl⟩
    case round =>
     obtain ⟨j,hj1,hj,rfl,rfl,rfl⟩:=hrel
     by_cases hjl : j < Utf.sz (Utf.at' l 0)
     ·have hj2 : j < s.size:=by have:=HC.out;omega
      have hj3 : j < l.length:=by omega
      have gj : s[j].toNat = Utf.at' l j:=by rw [zeX s j hj2,HL.out]
      have hbj:=Utf.zdI l j
      have hvb:=HB.out j hj1 hjl
      have HN : Hid (Utf.zgA l (Utf.off (Utf.sz (Utf.at' l 0))) (j + 1) = Utf.zgA l (Utf.off (Utf.sz (Utf.at' l 0))) j * 64 + (Utf.at' l j : Int) - 128):=Utf.zi9 l _ j hj1
      go_wp2
      go_roundw
      case rel=>exact ⟨j + 1,by omega,by omega,by go_num,by rw [HN.out],by trivial⟩
      case measure=>simp [intOf];omega
     ·have HJ : Hid (j = Utf.sz (Utf.at' l 0)):=by show _ = _;omega
      go_wp2
      go_ret3
      exact ⟨by rw [Utf.why_ok HWH.out,← HV.out,← HJ.out,HS.out,HK.out,← HJ.out];rfl,zbk HW.out nq⟩
def lenOf : Value → Nat
 | .string s=>s.size
 | _=>0
end Go.Proofs.YtiodaahncadodaaGreatDoor
