/- Contracts of Split, the program's and the reference's. -/
import Derived.Test.YtlkhjloeonbjaaaGreatDoorPHex
import Derived.Test.YtlkhjloeonbjaaaGreatDoorAscSplit
import Derived.Lib.SmallJoins
import Derived.RegionTactic
namespace Go.Proofs.YtlkhjloeonbjaaaGreatDoor
open Go.RowKit
theorem byte_eq_yes {a b : UInt8} (h : a = b) : ((a.toNat : Int) == (b.toNat : Int)) = true := by rw [h]; simp
theorem byte_eq_no {a b : UInt8} (h : ¬ a = b) : ((a.toNat : Int) == (b.toNat : Int)) = false := by
  rw [beq_eq_false_iff_ne]
  intro e
  exact h (UInt8.toNat_inj.1 (by omega))
set_option maxHeartbeats 400000 in
theorem Split_any (s : ByteArray) (c : UInt8) (w : World) (hs : s.size ≤ 1000000000) :
    Calls Tryz.prog 47 #[.string s, .int .u8 c.toNat] w fun e w' => ∃ v, e = .returned v ∧ OwnsTexts w' w.heap.size v (Asc.split s.data.toList c) ∧ Below w.heap.size w w' := by
  obtain ⟨i0, hi, hz0, hz1, hz2⟩ := info_parts info9
  go_enter Tryz.func47, Tryz.ntmps47
  go_wp2
  go_loopw [5, 6, 10] (fun v fr i wr => ∃ k f : Nat, k ≤ s.size ∧ i = .int .i64 k ∧ fr = .int .i64 f ∧ f ≤ k ∧ Hid ((Asc.sst c (s.data.toList.take k)).2 = (s.data.toList.take k).drop f) ∧
    OwnsTexts wr w.heap.size v (Asc.sst c (s.data.toList.take k)).1 ∧ Below w.heap.size w wr) (fun _ _ i _ => s.size - (intOf i).toNat)
  case atStart => exact ⟨0, 0, Nat.zero_le _, rfl, rfl, Nat.le_refl _, by show _ = _; simp [Asc.sst], OwnsTexts.nil _ _, Below.refl _ _⟩
  case round =>
    obtain ⟨k, f, hk, rfl, rfl, hf, HC, hown, hbel⟩ := hrel
    have hwl := (Asc.sst_len c (s.data.toList.take k)).1
    have htl : (s.data.toList.take k).length = k := by rw [List.length_take]; exact Nat.min_eq_left hk
    rw [htl] at hwl
    clear htl
    by_cases hlt : k < s.size
    · by_cases hb : s[k] = c
      · have hq := byte_eq_yes hb
        have HN : Hid (Asc.sst c (s.data.toList.take (k + 1)) = ((Asc.sst c (s.data.toList.take k)).1 ++ [(s.data.toList.take k).drop f], [])) := Asc.split_cut c _ k f hlt hb HC.out
        clear hb
        go_wp2_with (first
          | (at_builtin; refine wpList_append_own _ rfl _ _ 61 rfl w.heap.size 9 i0 (.string ByteArray.empty) 1 16 Tryz.underlying61 hi hz0 hz1 hz2 rfl (by decide) _ _ _ rfl (World.ownsRow.alloc hown _) ⟨wr.heap.size, 0, none⟩ 1 1 [.string (s.extract f k)] rfl rfl (cell_one_new _ _ _) (fun x hx => by simp at hx; subst hx; rfl) (by unfold maxLen; omega) (by omega) (by have := hbel.size; simp; omega) ?_; intro v' w3 hown' hgrow3 hnil3))
        go_roundw
        case rel => exact ⟨k + 1, k + 1, by omega, by go_num, by go_num, by omega, by show _ = _; rw [HN.out]; simp, OwnsTexts.of (congrArg Prod.fst HN.out) (strV_cut s f k) hown', (hbel.alloc hbel.size _).grown hgrow3 (by have := hbel.size; simp; omega) (fun q hq => (World.ownsRow.lt hown q hq).1)⟩
        case measure => simp [intOf]; omega
      · have hq := byte_eq_no hb
        have HN : Hid (Asc.sst c (s.data.toList.take (k + 1)) = ((Asc.sst c (s.data.toList.take k)).1, (s.data.toList.take (k + 1)).drop f)) := Asc.split_on c _ k f hlt hb hf HC.out
        clear hb
        go_wp2
        go_roundw
        case rel => exact ⟨k + 1, f, by omega, by go_num, rfl, by omega, by show _ = _; rw [HN.out], by rw [HN.out]; exact hown, hbel⟩
        case measure => simp [intOf]; omega
    · have HN : Hid (Asc.split s.data.toList c = (Asc.sst c (s.data.toList.take k)).1 ++ [(s.data.toList.take s.size).drop f]) := by
        show _ = _
        have h1 := HC.out
        rw [take_all s k (by omega)] at h1 ⊢
        rw [take_all s s.size (Nat.le_refl _), Asc.split, h1]
      go_wp2_with (first
        | (at_builtin; refine wpList_append_own _ rfl _ _ 61 rfl w.heap.size 9 i0 (.string ByteArray.empty) 1 16 Tryz.underlying61 hi hz0 hz1 hz2 rfl (by decide) _ _ _ rfl (World.ownsRow.alloc hown _) ⟨wr.heap.size, 0, none⟩ 1 1 [.string (s.extract f s.size)] rfl rfl (cell_one_new _ _ _) (fun x hx => by simp at hx; subst hx; rfl) (by unfold maxLen; omega) (by omega) (by have := hbel.size; simp; omega) ?_; intro v' w3 hown' hgrow3 hnil3))
      go_ret
      exact ⟨_, rfl, OwnsTexts.of HN.out (strV_cut s f s.size) hown', (hbel.alloc hbel.size _).grown hgrow3 (by have := hbel.size; simp; omega) (fun q hq => (World.ownsRow.lt hown q hq).1)⟩
theorem cut_size (b : ByteArray) (f t : Nat) (h : t ≤ b.size) : (b.extract f t).size = t - f := by
  rw [size_data, data_cut, List.length_drop, List.length_take, ← size_data]
  omega
theorem cut_one (s : ByteArray) (k : Nat) (h : k < s.size) : (s.extract k (k + 1)).data.toList = [s[k]] := by
  rw [data_cut, List.take_succ_eq_append_getElem (show k < s.data.toList.length from by rw [← size_data]; exact h), List.drop_append_of_le_length (by rw [List.length_take, ← size_data]; omega), List.drop_eq_nil_of_le (by rw [List.length_take]; omega)]
  rfl
theorem sst_cut (s : ByteArray) (c : UInt8) (k : Nat) (h : k < s.size) (hb : s[k] = c) : Asc.sst c (s.data.toList.take (k + 1)) = ((Asc.sst c (s.data.toList.take k)).1 ++ [(Asc.sst c (s.data.toList.take k)).2], []) := by
  have e : Asc.sst c (s.data.toList.take (k + 1)) = Asc.sstep c (Asc.sst c (s.data.toList.take k)) s[k] := Asc.sst_next c s.data.toList k h
  rw [e, Asc.sstep, if_pos hb]
theorem sst_on (s : ByteArray) (c : UInt8) (k : Nat) (h : k < s.size) (hb : ¬ s[k] = c) : Asc.sst c (s.data.toList.take (k + 1)) = ((Asc.sst c (s.data.toList.take k)).1, (Asc.sst c (s.data.toList.take k)).2 ++ [s[k]]) := by
  have e : Asc.sst c (s.data.toList.take (k + 1)) = Asc.sstep c (Asc.sst c (s.data.toList.take k)) s[k] := Asc.sst_next c s.data.toList k h
  rw [e, Asc.sstep, if_neg hb]
theorem owns_first (w : World) : OwnsTexts (w.alloc (.cells #[.string ⟨#[]⟩] 9)) w.heap.size (.slice (some ⟨w.heap.size, 0, none⟩) 1 1) [[]] :=
  ⟨rfl, .inr ⟨w.heap.size, 1, #[.string ⟨#[]⟩], rfl, Nat.le_refl _, heap_alloc_new w _, Nat.le_refl _, by decide, rfl, rfl⟩⟩
/-- What the row holds at the loop's head: the parts that are whole, and n bytes of the one under way. -/
theorem last_cell (ts : List (List UInt8)) (t : List UInt8) : ((ts ++ [t]).map strV)[ts.length]? = some (.string (str t)) := by
  rw [List.map_append, List.getElem?_append_right (by simp)]
  simp [strV, str]
theorem last_set (ts : List (List UInt8)) (t u : List UInt8) : ((ts ++ [t]).map strV).set ts.length (.string (str u)) = (ts ++ [u]).map strV := by
  rw [List.map_append, List.set_append_right _ _ (by simp)]
  simp [strV, str]
theorem owns_same {W : World} {B g cap : Nat} {ts : List (List UInt8)} {t u : List UInt8} (h : W.ownsRow B 9 1 (.slice (some ⟨g, 0, none⟩) (ts ++ [t]).length cap) (ts ++ [t]).length ((ts ++ [u]).map strV)) : OwnsTexts W.drew B (.slice (some ⟨g, 0, none⟩) (ts ++ [t]).length cap) (ts ++ [u]) := by
  unfold OwnsTexts
  rw [show (ts ++ [u]).length = (ts ++ [t]).length from by simp]
  exact h.drew
set_option maxHeartbeats 1000000 in
theorem RSplit_any (s : ByteArray) (c : UInt8) (w : World) (hs : s.size ≤ 1000000000) :
    Calls Tryz.prog 74 #[.string s, .int .u8 c.toNat] w fun e w' => ∃ v, e = .returned v ∧ OwnsTexts w' w.heap.size v (Asc.split s.data.toList c) ∧ Below w.heap.size w w' := by
  obtain ⟨i0, hi, hz0, hz1, hz2⟩ := info_parts info9
  go_enter Tryz.func74, Tryz.ntmps74
  go_wp2
  go_loopw [5, 6] (fun v i wr => ∃ (k : Nat) (ts : List (List UInt8)) (t : List UInt8), k ≤ s.size ∧ i = .int .i64 k ∧ ts.length ≤ k ∧ t.length ≤ k ∧ Hid (Asc.sst c (s.data.toList.take k) = (ts, t)) ∧ OwnsTexts wr w.heap.size v (ts ++ [t]) ∧ Below w.heap.size w wr) (fun _ i _ => s.size - (intOf i).toNat)
  case atStart => exact ⟨0, [], [], Nat.zero_le _, rfl, Nat.le_refl _, Nat.le_refl _, rfl, owns_first w, (Below.refl _ _).alloc (Nat.le_refl _) _⟩
  case round =>
    obtain ⟨k, ts, t, hk, rfl, htk, htl, HR, hown, hbel⟩ := hrel
    have hlen : (ts ++ [t]).length = ts.length + 1 := by simp
    by_cases hlt : k < s.size
    · by_cases hb : s[k] = c
      · have hq := byte_eq_yes hb
        have HN : Hid (Asc.sst c (s.data.toList.take (k + 1)) = (ts ++ [t], [])) := by
          show _ = _
          rw [sst_cut s c k hlt hb, HR.out]
        have HL : Hid ((ts ++ [t]).length = ts.length + 1) := hlen
        have hl2 : (ts ++ [t]).length ≤ 1000000001 := by omega
        clear hb hlen
        go_wp2_with (first
          | (at_builtin; refine wpList_append_own _ rfl _ _ 61 rfl w.heap.size 9 i0 (.string ByteArray.empty) 1 16 Tryz.underlying61 hi hz0 hz1 hz2 rfl (by decide) _ _ _ rfl (World.ownsRow.alloc hown _) ⟨wr.heap.size, 0, none⟩ 1 1 [.string ⟨#[]⟩] rfl rfl (cell_one_new _ _ _) (fun x hx => by simp at hx; subst hx; rfl) (by unfold maxLen; omega) (by omega) (by have := hbel.size; simp; omega) ?_; intro v' w3 hown' hgrow3 hnil3))
        go_roundw
        case rel => exact ⟨k + 1, ts ++ [t], [], by omega, by go_num, by have := HL.out; omega, Nat.zero_le _, HN, OwnsTexts.of rfl rfl hown', (hbel.alloc hbel.size _).grown hgrow3 (by have := hbel.size; simp; omega) (fun q hq => (World.ownsRow.lt hown q hq).1)⟩
        case measure => simp [intOf]; omega
      · have hq := byte_eq_no hb
        obtain ⟨g, cap, rfl⟩ := Joins.ownsRow_form hown (by omega)
        have hcell : wr.cell? ⟨g, ts.length, none⟩ = some (.string (str t)) := (World.ownsRow.cellAt (w := wr) hown ts.length (by omega)).trans (last_cell ts t)
        have hfr := World.ownsRow.frozenAt (w := wr) hown ts.length
        have hz : (str t ++ s.extract k (k + 1)) = str (t ++ [s[k]]) := str_eq (by rw [ByteArray.data_append, Array.toList_append, str_data, cut_one s k hlt])
        have hst := World.ownsRow.stored (w := wr) hown ts.length (.string (str (t ++ [s[k]])))
        rw [last_set] at hst
        have HS := show Hid _ from hst
        have HZ : Hid (str t ++ s.extract k (k + 1) = str (t ++ [s[k]])) := hz
        have HN : Hid (Asc.sst c (s.data.toList.take (k + 1)) = (ts, t ++ [s[k]])) := by
          show _ = _
          rw [sst_on s c k hlt hb, HR.out]
        have hts : (str t).size ≤ 1000000000 := by rw [str_size]; omega
        have hcz : (s.extract k (k + 1)).size ≤ 1 := by rw [cut_size s k (k + 1) (by omega)]; omega
        have hl1 : ((ts ++ [t]).length : Int) - 1 = (ts.length : Int) := by omega
        have HG : Hid (w.heap.size ≤ g) := (World.ownsRow.lt hown g rfl).1
        have HL : Hid ((ts ++ [t]).length = ts.length + 1) := hlen
        clear hlen
        clear hb hst hz hown
        go_wp2
        go_region
        rw [HZ.out]
        go_wp2
        go_roundw
        case rel => exact ⟨k + 1, ts, t ++ [s[k]], by omega, by go_num, by omega, by rw [List.length_append]; simp; omega, HN, owns_same HS.out.1, (hbel.setCell HG.out _).drew⟩
        case measure => simp [intOf]; omega
    · have HN : Hid (Asc.split s.data.toList c = ts ++ [t]) := by
        have h1 := HR.out
        rw [take_all s k (by omega)] at h1
        show _ = _
        rw [Asc.split, h1]
      go_wp2
      go_ret
      exact ⟨_, rfl, by rw [HN.out]; exact hown, hbel⟩
end Go.Proofs.YtlkhjloeonbjaaaGreatDoor
