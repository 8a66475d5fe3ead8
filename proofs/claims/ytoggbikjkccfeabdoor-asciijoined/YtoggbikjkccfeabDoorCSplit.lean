/- Contracts of Split, the program's and the reference's. -/
import Derived.Test.YtoggbikjkccfeabDoorCBel
import Derived.Test.YtoggbikjkccfeabDoorAscSplit
import Derived.Lib.SmallJoins
import Derived.RegionTactic
namespace Go.Proofs.YtoggbikjkccfeabDoor
open Go.RowKit
theorem byte_eq_yes {a b : UInt8} (h : a = b) : ((a.toNat : Int) == (b.toNat : Int)) = true := by rw [h]; simp
theorem byte_eq_no {a b : UInt8} (h : ¬ a = b) : ((a.toNat : Int) == (b.toNat : Int)) = false := by
  rw [beq_eq_false_iff_ne]
  intro e
  exact h (UInt8.toNat_inj.1 (by omega))
set_option maxHeartbeats 400000 in
theorem Split_any (s : ByteArray) (c : UInt8) (w : World) (hs : s.size ≤ 1000000000) :
    Calls Tryd.prog 13 #[.string s, .int .u8 c.toNat] w fun e w' => ∃ v, e = .returned v ∧ OwnsTexts w' w.heap.size v (Asc.split s.data.toList c) ∧ Below w.heap.size w w' := by
  obtain ⟨i0, hi, hz0, hz1, hz2⟩ := info_parts info9
  go_enter Tryd.func13, Tryd.ntmps13
  go_wp2
  go_loopw [5, 6, 10] (fun v fr i wr => ∃ k f : Nat, k ≤ s.size ∧ i = .int .i64 k ∧ fr = .int .i64 f ∧ f ≤ k ∧ Hid ((Asc.sst c (s.data.toList.take k)).2 = (s.data.toList.take k).drop f) ∧
    OwnsTexts wr w.heap.size v (Asc.sst c (s.data.toList.take k)).1 ∧ Below w.heap.size w wr) (fun _ _ i _ => s.size - (intOf i).toNat)
  case atStart => exact ⟨0, 0, Nat.zero_le _, rfl, rfl, Nat.le_refl _, by show _ = _; simp [Asc.sst], OwnsTexts.nil _ _, Below.refl _ _⟩
  case round =>
    obtain ⟨k, f, hk, rfl, rfl, hf, HC, hown, hbel⟩ := hrel
    have hwl := (Asc.sst_len c (s.data.toList.take k)).1
    have htl : (s.data.toList.take k).length = k := by rw [List.length_take]; exact Nat.min_eq_left hk
    rw [htl] at hwl
    clear htl
    by_cases hlt : k < s.size
    · by_cases hb : s[k] = c
      · have hq := byte_eq_yes hb
        have HN : Hid (Asc.sst c (s.data.toList.take (k + 1)) = ((Asc.sst c (s.data.toList.take k)).1 ++ [(s.data.toList.take k).drop f], [])) := Asc.split_cut c _ k f hlt hb HC.out
        clear hb
        go_wp2_with (first
          | (at_builtin; refine wpList_append_own _ rfl _ _ 24 rfl w.heap.size 9 i0 (.string ByteArray.empty) 1 16 Tryd.underlying24 hi hz0 hz1 hz2 rfl (by decide) _ _ _ rfl (World.ownsRow.alloc hown _) ⟨wr.heap.size, 0, none⟩ 1 1 [.string (s.extract f k)] rfl rfl (cell_one_new _ _ _) (fun x hx => by simp at hx; subst hx; rfl) (by unfold maxLen; omega) (by omega) (by have := hbel.size; simp; omega) ?_; intro v' w3 hown' hgrow3 hnil3))
        go_roundw
        case rel => exact ⟨k + 1, k + 1, by omega, by go_num, by go_num, by omega, by show _ = _; rw [HN.out]; simp, OwnsTexts.of (congrArg Prod.fst HN.out) (strV_cut s f k) hown', (hbel.alloc hbel.size _).grown hgrow3 (by have := hbel.size; simp; omega) (fun q hq => (World.ownsRow.lt hown q hq).1)⟩
        case measure => simp [intOf]; omega
      · have hq := byte_eq_no hb
        have HN : Hid (Asc.sst c (s.data.toList.take (k + 1)) = ((Asc.sst c (s.data.toList.take k)).1, (s.data.toList.take (k + 1)).drop f)) := Asc.split_on c _ k f hlt hb hf HC.out
        clear hb
        go_wp2
        go_roundw
        case rel => exact ⟨k + 1, f, by omega, by go_num, rfl, by omega, by show _ = _; rw [HN.out], by rw [HN.out]; exact hown, hbel⟩
        case measure => simp [intOf]; omega
    · have HN : Hid (Asc.split s.data.toList c = (Asc.sst c (s.data.toList.take k)).1 ++ [(s.data.toList.take s.size).drop f]) := by
        show _ = _
        have h1 := HC.out
        rw [take_all s k (by omega)] at h1 ⊢
        rw [take_all s s.size (Nat.le_refl _), Asc.split, h1]
      go_wp2_with (first
        | (at_builtin; refine wpList_append_own _ rfl _ _ 24 rfl w.heap.size 9 i0 (.string ByteArray.empty) 1 16 Tryd.underlying24 hi hz0 hz1 hz2 rfl (by decide) _ _ _ rfl (World.ownsRow.alloc hown _) ⟨wr.heap.size, 0, none⟩ 1 1 [.string (s.extract f s.size)] rfl rfl (cell_one_new _ _ _) (fun x hx => by simp at hx; subst hx; rfl) (by unfold maxLen; omega) (by omega) (by have := hbel.size; simp; omega) ?_; intro v' w3 hown' hgrow3 hnil3))
      go_ret
      exact ⟨_, rfl, OwnsTexts.of HN.out (strV_cut s f s.size) hown', (hbel.alloc hbel.size _).grown hgrow3 (by have := hbel.size; simp; omega) (fun q hq => (World.ownsRow.lt hown q hq).1)⟩
end Go.Proofs.YtoggbikjkccfeabDoor
