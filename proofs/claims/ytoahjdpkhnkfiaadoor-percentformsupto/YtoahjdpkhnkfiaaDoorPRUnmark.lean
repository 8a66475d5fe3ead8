/- The contracts of the reference's Nibble and Unmark. -/
import Derived.Test.YtoahjdpkhnkfiaaDoorPNib
import Derived.Test.YtoahjdpkhnkfiaaDoorPUnmark
import Derived.Test.YtoahjdpkhnkfiaaDoorURPut
import Derived.Test.YtoahjdpkhnkfiaaDoorPSplit
import Derived.Deep.RegionHeldLaw
import Derived.Deep.Cut
import Derived.Deep.AppendLies
namespace Pct
theorem getD_drop (l : List UInt8) (k j : Nat) : (l.drop k).getD j 0 = l.getD (k + j) 0 := by
  rw [List.getD_eq_getElem?_getD, List.getD_eq_getElem?_getD, List.getElem?_drop]
theorem first_one (l : List UInt8) (k : Nat) (h : ¬ (l.getD k 0 = 37 ∧ k + 3 ≤ l.length ∧ Asc.hexOk (Asc.bt (l.getD (k + 1) 0)) = true ∧ Asc.hexOk (Asc.bt (l.getD (k + 2) 0)) = true)) : first (l.drop k) = (l.getD k 0, 1) := by
  unfold first
  rw [getD_drop, getD_drop, getD_drop, List.length_drop, if_neg]
  · rfl
  · rintro ⟨h1, h2, h3⟩
    exact h ⟨h1, by omega, h3⟩
theorem first_three (l : List UInt8) (k : Nat) (h : l.getD k 0 = 37 ∧ k + 3 ≤ l.length ∧ Asc.hexOk (Asc.bt (l.getD (k + 1) 0)) = true ∧ Asc.hexOk (Asc.bt (l.getD (k + 2) 0)) = true) : first (l.drop k) = (UInt8.ofNat (Asc.hexV (Asc.bt (l.getD (k + 1) 0)) * 16 + Asc.hexV (Asc.bt (l.getD (k + 2) 0))).toNat, 3) := by
  unfold first
  rw [getD_drop, getD_drop, getD_drop, List.length_drop, if_pos ⟨h.1, by omega, h.2.2⟩]
end Pct
namespace Go.Proofs.YtoahjdpkhnkfiaaDoor
open Go.RowKit
theorem RNibble_any (c : UInt8) (w : World) :
    Calls Tryd.prog 35 #[.int .u8 c.toNat] w fun e w' => e = .returned (.int .u32 (nibV (Asc.bt c))) ∧ w' = w := by
  go_enter Tryd.func35, Tryd.ntmps35
  go_wp2_with (go_at_call 51; refine (Rnibble_any _ _).mono ?_; rintro e w1 ⟨rfl, rfl⟩)
  go_ret
  exact ⟨rfl, rfl⟩
theorem ownsB_of {w : World} {B : Nat} {v x : Value} {l : List UInt8} {c : UInt8} (hx : x = .int .u8 c.toNat) (ho : w.ownsRow B 5 1 v (l.length + 1) (cellsB l ++ [x])) : OwnsBytes w B v (l ++ [c]) := by
  subst hx
  unfold OwnsBytes
  rw [List.length_append]
  simpa [cellsB] using ho
theorem unmark_one (s : ByteArray) (k : Nat) (acc : List UInt8) (hlt : k < s.size) (h : ¬ (s[k] = 37 ∧ k + 3 ≤ s.size ∧ Asc.hexOk (Asc.bt (s.data.toList.getD (k + 1) 0)) = true ∧ Asc.hexOk (Asc.bt (s.data.toList.getD (k + 2) 0)) = true)) (he : acc ++ Pct.unmark (s.data.toList.drop k) = Pct.unmark s.data.toList) : acc ++ [s[k]] ++ Pct.unmark (s.data.toList.drop (k + 1)) = Pct.unmark s.data.toList := by
  have hf := Pct.first_one s.data.toList k (by rw [getD_at s k hlt, ← size_data0]; exact h)
  rw [getD_at s k hlt] at hf
  rw [← he, Pct.unmark_at _ k (by rw [← size_data0]; exact hlt), hf]
  simp
theorem unmark_three (s : ByteArray) (k : Nat) (acc : List UInt8) (hlt : k + 2 < s.size) (h : s[k] = 37) (h1 : Asc.hexOk (Asc.bt s[k + 1]) = true) (h2 : Asc.hexOk (Asc.bt s[k + 2]) = true) (he : acc ++ Pct.unmark (s.data.toList.drop k) = Pct.unmark s.data.toList) : acc ++ [UInt8.ofNat (Asc.hexV (Asc.bt s[k + 1]) * 16 + Asc.hexV (Asc.bt s[k + 2])).toNat] ++ Pct.unmark (s.data.toList.drop (k + 3)) = Pct.unmark s.data.toList := by
  have hf := Pct.first_three s.data.toList k (by rw [getD_at s k (by omega), getD_at s (k + 1) (by omega), getD_at s (k + 2) (by omega), ← size_data0]; exact ⟨h, by omega, h1, h2⟩)
  rw [getD_at s (k + 1) (by omega), getD_at s (k + 2) (by omega)] at hf
  rw [← he, Pct.unmark_at _ k (by rw [← size_data0]; omega), hf]
  simp
set_option maxHeartbeats 2000000 in
set_option maxRecDepth 100000 in
theorem RUnmark_any (s : ByteArray) (w : World) (hs : s.size ≤ 1000000000) :
    Calls Tryd.prog 14 #[.string s] w fun e w' => e = .returned (.string (str (Pct.unmark s.data.toList))) ∧ Below w.heap.size w w' := by
  obtain ⟨i0, hi, hz0, hz1, hz2⟩ := info_parts infoByte
  go_enter Tryd.func14, Tryd.ntmps14
  go_wp2
  go_loopw [3, 4] (fun v i wr => ∃ (k : Nat) (acc : List UInt8), k ≤ s.size ∧ i = .int .i64 k ∧ OwnsBytes wr w.heap.size v acc ∧ acc.length ≤ k ∧ Hid (acc ++ Pct.unmark (s.data.toList.drop k) = Pct.unmark s.data.toList) ∧ Below w.heap.size w wr) (fun _ i _ => s.size - (intOf i).toNat)
  case atStart => exact ⟨0, [], Nat.zero_le _, rfl, OwnsBytes.nil _ _, Nat.le_refl _, rfl, Below.refl _ _⟩
  case round =>
    obtain ⟨k, acc, hk, rfl, hown, hal, HE, hbel⟩ := hrel
    have hsz := hbel.size
    by_cases hlt : k < s.size
    · by_cases hp : s[k] = 37
      case neg =>
        have HN : Hid _ := unmark_one s k acc hlt (fun h => hp h.1) HE.out
        have hq : (((s[k].toNat : Nat) : Int) == 37) = false := by
          rw [beq_eq_false_iff_ne]
          intro e
          exact hp (UInt8.toNat_inj.1 (by have : (37 : UInt8).toNat = 37 := rfl; omega))
        clear hp
        go_wp2_with (first | (at_builtin; refine wpList_append_own _ rfl _ _ 54 rfl w.heap.size 5 i0 (.int .u8 0) 1 1 Tryd.underlying54 hi hz0 hz1 hz2 rfl (by decide) _ _ _ rfl (World.ownsRow.alloc hown _) ⟨wr.heap.size, 0, none⟩ 1 1 [.int .u8 s[k].toNat] rfl rfl (cell_one_new _ _ _) (fun x hx => by simp at hx; subst hx; rfl) (by unfold maxLen; omega) (by omega) (by simp; omega) ?_; intro v' w3 hown' hgrow3 hnil3))
        go_roundw
        case rel => exact ⟨k + 1, acc ++ [s[k]], by omega, by go_num, ownsB_of rfl hown', by rw [List.length_append, List.length_singleton]; omega, HN, (hbel.alloc hsz _).grown hgrow3 (by simp; omega) (fun q hq => (World.ownsRow.lt hown q hq).1)⟩
        case measure => simp [intOf]; omega
      have hq : (((s[k].toNat : Nat) : Int) == 37) = true := by rw [hp]; rfl
      by_cases h3 : k + 2 < s.size
      case neg =>
        have HN : Hid _ := unmark_one s k acc hlt (fun h => h3 (by omega)) HE.out
        clear hp
        go_wp2_with (first | (at_builtin; refine wpList_append_own _ rfl _ _ 54 rfl w.heap.size 5 i0 (.int .u8 0) 1 1 Tryd.underlying54 hi hz0 hz1 hz2 rfl (by decide) _ _ _ rfl (World.ownsRow.alloc hown _) ⟨wr.heap.size, 0, none⟩ 1 1 [.int .u8 s[k].toNat] rfl rfl (cell_one_new _ _ _) (fun x hx => by simp at hx; subst hx; rfl) (by unfold maxLen; omega) (by omega) (by simp; omega) ?_; intro v' w3 hown' hgrow3 hnil3))
        go_roundw
        case rel => exact ⟨k + 1, acc ++ [s[k]], by omega, by go_num, ownsB_of rfl hown', by rw [List.length_append, List.length_singleton]; omega, HN, (hbel.alloc hsz _).grown hgrow3 (by simp; omega) (fun q hq => (World.ownsRow.lt hown q hq).1)⟩
        case measure => simp [intOf]; omega
      have hb1 := byte_bd s[k + 1]
      have hb2 := byte_bd s[k + 2]
      cases hx1 : Asc.hexOk (Asc.bt s[k + 1])
      case false =>
        have HN : Hid _ := unmark_one s k acc hlt (fun h => by have := h.2.2.1; rw [getD_at s (k + 1) (by omega), hx1] at this; cases this) HE.out
        have hn1 := nib_no _ hx1
        clear hp
        go_wp2_with (first | (go_at_call 35; refine (RNibble_any _ _).mono ?_; rintro e w1 ⟨rfl, hw⟩; rw [hw]; clear hw; first | rw [hn1]) | (at_builtin; refine wpList_append_own _ rfl _ _ 54 rfl w.heap.size 5 i0 (.int .u8 0) 1 1 Tryd.underlying54 hi hz0 hz1 hz2 rfl (by decide) _ _ _ rfl (World.ownsRow.alloc hown _) ⟨wr.heap.size, 0, none⟩ 1 1 [.int .u8 s[k].toNat] rfl rfl (cell_one_new _ _ _) (fun x hx => by simp at hx; subst hx; rfl) (by unfold maxLen; omega) (by omega) (by simp; omega) ?_; intro v' w3 hown' hgrow3 hnil3))
        go_roundw
        case rel => exact ⟨k + 1, acc ++ [s[k]], by omega, by go_num, ownsB_of rfl hown', by rw [List.length_append, List.length_singleton]; omega, HN, (hbel.alloc hsz _).grown hgrow3 (by simp; omega) (fun q hq => (World.ownsRow.lt hown q hq).1)⟩
        case measure => simp [intOf]; omega
      cases hx2 : Asc.hexOk (Asc.bt s[k + 2])
      case false =>
        have HN : Hid _ := unmark_one s k acc hlt (fun h => by have := h.2.2.2; rw [getD_at s (k + 2) (by omega), hx2] at this; cases this) HE.out
        have hn1 := nib_yes _ hx1
        have hn2 := nib_no _ hx2
        have hv1 := Asc.hexV_bd (Asc.bt s[k + 1])
        obtain ⟨hv1a, hv1b⟩ := hv1
        clear hp
        go_wp2_with (first | (go_at_call 35; refine (RNibble_any _ _).mono ?_; rintro e w1 ⟨rfl, hw⟩; rw [hw]; clear hw; first | rw [hn1] | rw [hn2]) | (at_builtin; refine wpList_append_own _ rfl _ _ 54 rfl w.heap.size 5 i0 (.int .u8 0) 1 1 Tryd.underlying54 hi hz0 hz1 hz2 rfl (by decide) _ _ _ rfl (World.ownsRow.alloc hown _) ⟨wr.heap.size, 0, none⟩ 1 1 [.int .u8 s[k].toNat] rfl rfl (cell_one_new _ _ _) (fun x hx => by simp at hx; subst hx; rfl) (by unfold maxLen; omega) (by omega) (by simp; omega) ?_; intro v' w3 hown' hgrow3 hnil3))
        go_roundw
        case rel => exact ⟨k + 1, acc ++ [s[k]], by omega, by go_num, ownsB_of rfl hown', by rw [List.length_append, List.length_singleton]; omega, HN, (hbel.alloc hsz _).grown hgrow3 (by simp; omega) (fun q hq => (World.ownsRow.lt hown q hq).1)⟩
        case measure => simp [intOf]; omega
      have HN : Hid _ := unmark_three s k acc h3 hp hx1 hx2 HE.out
      have hn1 := nib_yes _ hx1
      have hn2 := nib_yes _ hx2
      obtain ⟨hv1a, hv1b⟩ := Asc.hexV_bd (Asc.bt s[k + 1])
      obtain ⟨hv2a, hv2b⟩ := Asc.hexV_bd (Asc.bt s[k + 2])
      clear hp
      go_upto_region 6 with (go_at_call 35; refine (RNibble_any _ _).mono ?_; rintro e w1 ⟨rfl, hw⟩; rw [hw]; clear hw; first | rw [hn1] | rw [hn2])
      have hW1 : IntKind.i64.wrap ((k : Int) + 1) = (k : Int) + 1 := by rw [IntKind.wrap_i64]; omega
      have hW2 : IntKind.i64.wrap ((k : Int) + 2) = (k : Int) + 2 := by rw [IntKind.wrap_i64]; omega
      have hT1 : ((k : Int) + 1).toNat = k + 1 := by omega
      have hT2 : ((k : Int) + 2).toNat = k + 2 := by omega
      have hI1 : 0 ≤ (k : Int) + 1 ∧ (k : Int) + 1 < (s.size : Int) := by omega
      have hI2 : 0 ≤ (k : Int) + 2 ∧ (k : Int) + 2 < (s.size : Int) := by omega
      have hU1 : IntKind.u32.wrap (Asc.hexV (Asc.bt s[k + 1]) * 16) = Asc.hexV (Asc.bt s[k + 1]) * 16 := by rw [IntKind.wrap_u32]; omega
      have hU2 : IntKind.u32.wrap (Asc.hexV (Asc.bt s[k + 1]) * 16 + Asc.hexV (Asc.bt s[k + 2])) = Asc.hexV (Asc.bt s[k + 1]) * 16 + Asc.hexV (Asc.bt s[k + 2]) := by rw [IntKind.wrap_u32]; omega
      have hU3 : IntKind.u8.wrap (Asc.hexV (Asc.bt s[k + 1]) * 16 + Asc.hexV (Asc.bt s[k + 2])) = Asc.hexV (Asc.bt s[k + 1]) * 16 + Asc.hexV (Asc.bt s[k + 2]) := by rw [IntKind.wrap_u8]; omega
      have hod := World.ownsRow.drew hown
      have HV : Hid (Value.int .u8 (Asc.hexV (Asc.bt s[k + 1]) * 16 + Asc.hexV (Asc.bt s[k + 2])) = .int .u8 ((UInt8.ofNat (Asc.hexV (Asc.bt s[k + 1]) * 16 + Asc.hexV (Asc.bt s[k + 2])).toNat).toNat : Int)) := by
        show _ = _
        congr 1
        simp
        omega
      go_region_held_law (fun _ => True) (exact trivial) (first
        | (go_at_call 35; refine (RNibble_any _ _).mono ?_; rintro e w1 ⟨rfl, hw⟩; rw [hw]; clear hw; first | rw [hn1] | rw [hn2])
        | (refine step_append_lies _ rfl (.tmp 38) (.tmp 52) 54 rfl w.heap.size 5 i0 (.int .u8 0) 1 1 Tryd.underlying54 hi hz0 hz1 hz2 rfl (by decide) _ _ _ rfl (World.ownsRow.alloc hod _) ⟨wr.heap.size, 0, none⟩ 1 1 [.int .u8 (Asc.hexV (Asc.bt s[k + 1]) * 16 + Asc.hexV (Asc.bt s[k + 2]))] rfl rfl (cell_one_new _ _ _) (fun x hx => by simp at hx; subst hx; rfl) (by decide) (by unfold maxLen; omega) (by omega) (by simp; omega) _ rfl ?_; intro g cap w3 hown' hgrow3 hat hglt))
      all_goals go_wp2
      all_goals go_roundw
      all_goals first
        | exact ⟨k + 3, acc ++ [UInt8.ofNat (Asc.hexV (Asc.bt s[k + 1]) * 16 + Asc.hexV (Asc.bt s[k + 2])).toNat], by omega, by go_num, ownsB_of HV.out hown', by rw [List.length_append, List.length_singleton]; omega, HN, (hbel.drew.alloc hsz _).grown hgrow3 (by simp; omega) (fun q hq => (World.ownsRow.lt hown q hq).1)⟩
        | (simp [intOf]; omega)
    · have HN : Hid (acc = Pct.unmark s.data.toList) := by
        have := HE.out
        rw [List.drop_of_length_le (by rw [← size_data0]; omega), Pct.unmark_nil, List.append_nil] at this
        exact this
      have hcv := conv_owned hown
      go_wp2
      go_ret
      exact ⟨by rw [← HN.out]; rfl, hbel⟩
end Go.Proofs.YtoahjdpkhnkfiaaDoor
