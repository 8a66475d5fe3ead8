/- The contract of the program's Words: the slice that comes back owns the words of the text, in new memory. -/
import Derived.Test.YtoggbikjkccfeabDoorCSmall
import Derived.Maps.AppendAt
namespace Go.Proofs.YtoggbikjkccfeabDoor
open Go.RowKit
theorem info9 : (Tryd.prog.info? 9).map (fun i => (i.zero, i.size, i.bytes)) = some (some (.string ByteArray.empty), 1, 16) := by kernel_rfl
def strV (l : List UInt8) : Value := .string ⟨l.toArray⟩
theorem strV_data (s : ByteArray) : strV s.data.toList = .string s := by simp [strV]
theorem data_cut (s : ByteArray) (f k : Nat) : (s.extract f k).data.toList = (s.data.toList.take k).drop f := by
  rw [ByteArray.data_extract, Array.toList_extract, List.extract_eq_take_drop, List.drop_take]
theorem strV_cut (s : ByteArray) (f k : Nat) : strV ((s.data.toList.take k).drop f) = .string (s.extract f k) := by
  rw [← data_cut, strV_data]
theorem IsBlank_any (c : UInt8) (w : World) :
    Calls Tryd.prog 17 #[.int .u8 c.toNat] w fun e w' => e = .returned (.bool (Asc.isBlank c)) ∧ w' = w := by
  rw [← blankN_byte]
  exact IsBlank_n _ _
/-- The slice owns these texts, in memory from 'B' on. -/
def OwnsTexts (w : World) (B : Nat) (v : Value) (ts : List (List UInt8)) : Prop := w.ownsRow B 9 1 v ts.length (ts.map strV)
theorem OwnsTexts.nil (w : World) (B : Nat) : OwnsTexts w B (.slice none 0 0) [] := World.ownsRow_nil _ _ _ _
theorem OwnsTexts.of {w : World} {B : Nat} {v : Value} {ts us : List (List UInt8)} {y : List UInt8} {x : Value} (h : us = ts ++ [y]) (hx : strV y = x) (ho : w.ownsRow B 9 1 v (ts.length + 1) (ts.map strV ++ [x])) : OwnsTexts w B v us := by
  subst h; subst hx
  unfold OwnsTexts
  simpa using ho
set_option maxHeartbeats 400000 in
theorem Words_any (s : ByteArray) (w : World) (hs : s.size ≤ 1000000000) :
    Calls Tryd.prog 7 #[.string s] w fun e w' => ∃ v, e = .returned v ∧ OwnsTexts w' w.heap.size v (Asc.words s.data.toList) ∧ Below w.heap.size w w' := by
  obtain ⟨i0, hi, hz0, hz1, hz2⟩ := info_parts info9
  go_enter Tryd.func7, Tryd.ntmps7
  go_wp2
  go_loopw [3, 4, 8] (fun v fr i wr => ∃ k f : Nat, k ≤ s.size ∧ i = .int .i64 k ∧ fr = .int .i64 f ∧ f ≤ k ∧ Hid ((Asc.wst (s.data.toList.take k)).2 = (s.data.toList.take k).drop f) ∧
    OwnsTexts wr w.heap.size v (Asc.wst (s.data.toList.take k)).1 ∧ Below w.heap.size w wr) (fun _ _ i _ => s.size - (intOf i).toNat)
  case atStart => exact ⟨0, 0, Nat.zero_le _, rfl, rfl, Nat.le_refl _, by show _ = _; simp [Asc.wst], OwnsTexts.nil _ _, Below.refl _ _⟩
  case round =>
    obtain ⟨k, f, hk, rfl, rfl, hf, HC, hown, hbel⟩ := hrel
    have hwl := Asc.wst_len (s.data.toList.take k)
    have htl : (s.data.toList.take k).length = k := by rw [List.length_take]; exact Nat.min_eq_left hk
    rw [htl] at hwl
    clear htl
    by_cases hlt : k < s.size
    · cases hb : Asc.isBlank s[k]
      · have HN : Hid (Asc.wst (s.data.toList.take (k + 1)) = ((Asc.wst (s.data.toList.take k)).1, (s.data.toList.take (k + 1)).drop f)) := Asc.word_on _ k f hlt hb hf HC.out
        go_wp2_with (first
          | (go_at_call 17; refine (IsBlank_any _ _).mono ?_; rintro e w1 ⟨rfl, hw⟩; rw [hw]; clear hw))
        go_roundw
        case rel => exact ⟨k + 1, f, by omega, by go_num, rfl, by omega, by show _ = _; rw [HN.out], by rw [HN.out]; exact hown, hbel⟩
        case measure => simp [intOf]; omega
      · by_cases hfk : f < k
        · have HN : Hid (Asc.wst (s.data.toList.take (k + 1)) = ((Asc.wst (s.data.toList.take k)).1 ++ [(s.data.toList.take k).drop f], [])) := Asc.word_blank _ k f hlt hb hfk HC.out
          go_wp2_with (first
            | (go_at_call 17; refine (IsBlank_any _ _).mono ?_; rintro e w1 ⟨rfl, hw⟩; rw [hw]; clear hw)
            | (at_builtin; refine wpList_append_own _ rfl _ _ 24 rfl w.heap.size 9 i0 (.string ByteArray.empty) 1 16 Tryd.underlying24 hi hz0 hz1 hz2 rfl (by decide) _ _ _ rfl (World.ownsRow.alloc hown _) ⟨wr.heap.size, 0, none⟩ 1 1 [.string (s.extract f k)] rfl rfl (cell_one_new _ _ _) (fun x hx => by simp at hx; subst hx; rfl) (by unfold maxLen; omega) (by omega) (by have := hbel.size; simp; omega) ?_; intro v' w3 hown' hgrow3 hnil3))
          go_roundw
          case rel => exact ⟨k + 1, k + 1, by omega, by go_num, by go_num, by omega, by show _ = _; rw [HN.out]; simp, OwnsTexts.of (congrArg Prod.fst HN.out) (strV_cut s f k) hown', (hbel.alloc hbel.size _).grown hgrow3 (by have := hbel.size; simp; omega) (fun q hq => (World.ownsRow.lt hown q hq).1)⟩
          case measure => simp [intOf]; omega
        · have HN : Hid (Asc.wst (s.data.toList.take (k + 1)) = ((Asc.wst (s.data.toList.take k)).1, [])) := Asc.word_gap _ k f hlt hb hfk HC.out
          go_wp2_with (first
            | (go_at_call 17; refine (IsBlank_any _ _).mono ?_; rintro e w1 ⟨rfl, hw⟩; rw [hw]; clear hw))
          go_roundw
          case rel => exact ⟨k + 1, k + 1, by omega, by go_num, by go_num, by omega, by show _ = _; rw [HN.out]; simp, by rw [HN.out]; exact hown, hbel⟩
          case measure => simp [intOf]; omega
    · by_cases hfk : f < s.size
      · have HN : Hid (Asc.words s.data.toList = (Asc.wst (s.data.toList.take k)).1 ++ [(s.data.toList.take s.size).drop f]) := Asc.words_more _ k f hlt hk hfk HC.out
        go_wp2_with (first
            | (at_builtin; refine wpList_append_own _ rfl _ _ 24 rfl w.heap.size 9 i0 (.string ByteArray.empty) 1 16 Tryd.underlying24 hi hz0 hz1 hz2 rfl (by decide) _ _ _ rfl (World.ownsRow.alloc hown _) ⟨wr.heap.size, 0, none⟩ 1 1 [.string (s.extract f s.size)] rfl rfl (cell_one_new _ _ _) (fun x hx => by simp at hx; subst hx; rfl) (by unfold maxLen; omega) (by omega) (by have := hbel.size; simp; omega) ?_; intro v' w3 hown' hgrow3 hnil3))
        go_ret
        exact ⟨_, rfl, OwnsTexts.of HN.out (strV_cut s f s.size) hown', (hbel.alloc hbel.size _).grown hgrow3 (by have := hbel.size; simp; omega) (fun q hq => (World.ownsRow.lt hown q hq).1)⟩
      · have HN : Hid (Asc.words s.data.toList = (Asc.wst (s.data.toList.take k)).1) := Asc.words_done _ k f hlt hk hfk HC.out
        go_wp2
        go_ret
        exact ⟨_, rfl, by rw [HN.out]; exact hown, hbel⟩
end Go.Proofs.YtoggbikjkccfeabDoor
