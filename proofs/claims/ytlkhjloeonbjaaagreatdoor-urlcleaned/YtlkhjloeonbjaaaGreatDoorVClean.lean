/- What the walks of package url are told of the library's variables; the contract of url.Clean. -/
import Derived.Test.YtlkhjloeonbjaaaGreatDoorVIndex
import Derived.Test.YtlkhjloeonbjaaaGreatDoorUrlMath
import Derived.Test.YtlkhjloeonbjaaaGreatDoorPForm
import Derived.Test.YtlkhjloeonbjaaaGreatDoorQText
namespace Go.Proofs.YtlkhjloeonbjaaaGreatDoor
open Go.RowKit
def Tabs (w : World) : Prop := Lib.Utf8Tabs 1 2 w
theorem Tabs.below {w w' : World} (h : Tabs w) (hb : Below w.heap.size w w') : Tabs w' := Utf8Tabs_below h hb
/-- The library's tables lie as laid; its MaxLen is a whole number. -/
def Env (w : World) : Prop := Pow w ∧ MaxL w ∧ Tabs w
theorem Env.below {w w' : World} (h : Env w) (hb : Below w.heap.size w w') : Env w' := ⟨h.1.below hb, h.2.1.below hb, h.2.2.below hb⟩
theorem Env.pow {w : World} (h : Env w) : Pow w := h.1
theorem Env.max {w : World} (h : Env w) : MaxL w := h.2.1
theorem Env.tab {w : World} (h : Env w) : Tabs w := h.2.2
theorem lowR_n (n : Int) (w : World) :
    Calls Tryz.prog 42 #[.int .i32 n] w fun e w' => e = .returned (.bool (decide (n ≤ 32))) ∧ w' = w := by
  go_enter Tryz.func42, Tryz.ntmps42
  go_wp2
  go_ret
  exact ⟨rfl, rfl⟩
theorem lowR_at (w : World) : PredAt Tryz.prog 42 #[] encR Url.lowR w := by
  intro W x _
  refine (lowR_n (x : Int) W).mono ?_
  rintro e w' ⟨rfl, rfl⟩
  refine ⟨ret_bool ?_, 0, rfl⟩
  unfold Url.lowR
  rw [decide_eq_decide]
  omega
theorem TrimFunc_any (l : List UInt8) (w : World) (hE : Env w) (hz : l.length ≤ 1000000000) :
    Calls Tryz.prog 41 #[.string (str l), .func (.func 42) #[] #[]] w fun e w' => e = .returned (.string (str (Url.ends l))) ∧ Below w.heap.size w w' := by
  refine (Tryz.strings_TrimFunc 42 #[] (enters_of Tryz.func42 (by kernel_rfl) rfl) Url.lowR (str l) w (by rw [str_size]; omega) hE.tab (lowR_at w)).mono ?_
  rintro e w' ⟨rfl, hb⟩
  refine ⟨ret_text ?_, hb⟩
  rw [Url.trimF_ends, str_data]
theorem filter_next (l : List UInt8) (k : Nat) (h : k < l.length) : (l.take (k + 1)).filter Url.inner = (l.take k).filter Url.inner ++ (if Url.inner l[k] = true then [l[k]] else []) := by
  rw [Asc.take_snoc l k h, List.filter_append]
  cases hi : Url.inner l[k] <;> simp [hi]
theorem inner_no {c : UInt8} (h : (c.toNat : Int) = 9 ∨ (c.toNat : Int) = 10 ∨ (c.toNat : Int) = 13) : Url.inner c = false := by
  have h9 : ∀ m : UInt8, (c.toNat : Int) = m.toNat → c = m := fun m e => UInt8.toNat_inj.1 (by omega)
  rcases h with h | h | h
  · rw [h9 9 h]; rfl
  · rw [h9 10 h]; rfl
  · rw [h9 13 h]; rfl
theorem inner_yes {c : UInt8} (h9 : ¬ (c.toNat : Int) = 9) (h10 : ¬ (c.toNat : Int) = 10) (h13 : ¬ (c.toNat : Int) = 13) : Url.inner c = true := by
  unfold Url.inner
  have a9 : (c == 9) = false := beq_eq_false_iff_ne.2 (by rintro rfl; exact h9 rfl)
  have a10 : (c == 10) = false := beq_eq_false_iff_ne.2 (by rintro rfl; exact h10 rfl)
  have a13 : (c == 13) = false := beq_eq_false_iff_ne.2 (by rintro rfl; exact h13 rfl)
  rw [a9, a10, a13]
  rfl
set_option maxHeartbeats 2000000 in
set_option maxRecDepth 100000 in
theorem Clean_any (l : List UInt8) (w : World) (hE : Env w) (hz : l.length ≤ 1000000000) :
    Calls Tryz.prog 17 #[.string (str l)] w fun e w' => e = .returned (.string (str (Url.clean l))) ∧ Below w.heap.size w w' := by
  have hel := Url.ends_len l
  have hsz := str_size (Url.ends l)
  go_enter Tryz.func17, Tryz.ntmps17
  go_wp2_with (go_at_call 41; refine (TrimFunc_any l _ hE hz).mono ?_; rintro e W ⟨rfl, hb0⟩)
  have hn0 := hb0.size
  go_loopw [9] (fun i wr => ∃ k : Nat, k ≤ (Url.ends l).length ∧ i = .int .i64 k ∧ Lib.IsBuilderF 55 5 W.heap.size W.heap.size (Lib.byteCells (((Url.ends l).take k).filter Url.inner)) wr ∧ Below W.heap.size W wr) (fun i _ => (Url.ends l).length - (intOf i).toNat)
  case atStart => exact ⟨0, Nat.zero_le _, rfl, Lib.IsBuilderF.of (Lib.fresh_isBuilder 55 5 W), (Below.refl _ W).alloc (Nat.le_refl _) _⟩
  case round =>
    obtain ⟨k, hk, rfl, hI, hbw⟩ := hrel
    by_cases hlt : k < (Url.ends l).length
    · have hat : ∀ h : k < (str (Url.ends l)).size, (str (Url.ends l))[k]'h = (Url.ends l)[k] := fun _ => rfl
      have hfn := filter_next _ k hlt
      have hfl : (((Url.ends l).take k).filter Url.inner).length ≤ k := Nat.le_trans (List.length_filter_le _ _) (by rw [List.length_take]; omega)
      have hwz := hbw.size
      obtain ⟨c, hc⟩ : ∃ c, (Url.ends l)[k] = c := ⟨_, rfl⟩
      rw [hc] at hfn
      have hat2 : ∀ h : k < (str (Url.ends l)).size, (str (Url.ends l))[k]'h = c := fun h => (hat h).trans hc
      clear hat hc
      have HF : Hid _ := hfn
      clear hfn
      rcases (show (c.toNat : Int) = 9 ∨ (c.toNat : Int) = 10 ∨ (c.toNat : Int) = 13 ∨ (¬ (c.toNat : Int) = 9 ∧ ¬ (c.toNat : Int) = 10 ∧ ¬ (c.toNat : Int) = 13) from by omega) with h | h | h | ⟨h9, h10, h13⟩
      case inr.inr.inr =>
        have HI : Hid (Url.inner c = true) := inner_yes h9 h10 h13
        have a9 : ((c.toNat : Int) == 9) = false := beq_eq_false_iff_ne.2 h9
        have a10 : ((c.toNat : Int) == 10) = false := beq_eq_false_iff_ne.2 h10
        have a13 : ((c.toNat : Int) == 13) = false := beq_eq_false_iff_ne.2 h13
        go_wp2_with (go_at_call 43; refine (WriteByte_k W.heap.size W.heap.size _ _ _ hI (by rw [Lib.byteCells_length]; omega) hwz).mono ?_; rintro e W1 ⟨rfl, h1, b1, k1⟩)
        go_roundw
        case rel => exact ⟨k + 1, by omega, by go_num, by rw [HF.out, if_pos HI.out, Lib.byteCells_append]; exact .inr h1, hbw.trans b1⟩
        case measure => simp [intOf]; omega
      all_goals
        have HI : Hid (Url.inner c = false) := inner_no (by omega)
        go_wp2
        go_roundw
        case rel => exact ⟨k + 1, by omega, by go_num, by rw [HF.out, if_neg (by rw [HI.out]; decide), List.append_nil]; exact hI, hbw⟩
        case measure => simp [intOf]; omega
    · have HN : Hid (((Url.ends l).take k).filter Url.inner = Url.clean l) := by
        show _ = _
        rw [List.take_of_length_le (by omega)]
        rfl
      have hwz := hbw.size
      go_wp2_with (go_at_call 44; refine (Tryz.Builder_String_any_k W.heap.size W.heap.size _ _ hI hwz).mono ?_; rintro e W1 ⟨rfl, _, b1, _⟩)
      go_ret
      exact ⟨by rw [← HN.out]; rfl, hb0.trans ((hbw.trans b1).mono hn0)⟩
end Go.Proofs.YtlkhjloeonbjaaaGreatDoor
