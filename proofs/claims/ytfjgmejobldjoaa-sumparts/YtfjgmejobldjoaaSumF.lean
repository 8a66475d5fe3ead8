/- The contracts of the program's Mark of texts and of the document's Marks. -/
import Derived.Test.YtfjgmejobldjoaaSumE
set_option linter.unusedVariables false
set_option linter.unusedSimpArgs false
namespace Go.Proofs.Ytfjgmejobldjoaa
open Go.RowKit
def cellsS (ts : List (List UInt8)) : List Value := ts.map fun t => .string (str t)
theorem cellsS_length (ts : List (List UInt8)) : (cellsS ts).length = ts.length := by simp [cellsS]
theorem cellsS_at (ts : List (List UInt8)) (j : Nat) (h : j < ts.length) : (cellsS ts)[j]? = some (.string (str ts[j])) := by
  unfold cellsS
  rw [List.getElem?_map, List.getElem?_eq_getElem h]
  rfl
/-- The bytes whose mark is asked: each text, and a byte 0 behind it. -/
def flat (ts : List (List UInt8)) : List UInt8 := (ts.map (· ++ [0])).flatten
theorem flat_snoc (ts : List (List UInt8)) (t : List UInt8) : flat (ts ++ [t]) = flat ts ++ t ++ [0] := by unfold flat; simp
set_option maxHeartbeats 2000000 in
set_option maxRecDepth 100000 in
theorem Mark_any (ts : List (List UInt8)) (v : Value) (w : World) (hv : ReadsCells w v (cellsS ts)) (hl : ts.length ≤ 1000000000) (hz : ∀ t ∈ ts, t.length ≤ 1000000000) :
    Calls Try.prog 17 #[v] w fun e w' => e = .returned (.string (str (Sm.hexA 16 (Sm.markL G (flat ts)).toNat []))) ∧ Below w.heap.size w w' := by
  obtain ⟨a, cp, rfl⟩ := hv.form
  rw [cellsS_length] at hv ⊢
  obtain ⟨X, HX⟩ : ∃ X, Hid (X = Sm.hexA 16 (Sm.markL G (flat ts)).toNat []) := ⟨_, rfl⟩
  rw [← HX.out]
  go_enter Try.func17, Try.ntmps17
  go_wp2
  go_loopw [3, 9] (fun y i wr => ∃ j : Nat, j ≤ ts.length ∧ i = .int .i64 j ∧ y = .int .u64 ((Sm.markL G (flat (ts.take j))).toNat : Int) ∧ w = wr) (fun _ i _ => ts.length - (intOf i).toNat)
  case atStart => exact ⟨0, Nat.zero_le _, rfl, rfl, rfl⟩
  case round =>
    obtain ⟨j, hj, rfl, rfl, rfl⟩ := hrel
    by_cases hlt : j < ts.length
    · obtain ⟨hq, hc, b, o, rfl, hcell⟩ := hv.at (cellsS_at ts j hlt)
      clear hq
      have HC : Hid (Sm.markL G (flat (ts.take (j + 1))) = Sm.mk (Sm.markL (Sm.markL G (flat (ts.take j))) ts[j]) 0) := by
        show Sm.markL G (flat (ts.take (j + 1))) = _
        rw [List.take_succ_eq_append_getElem hlt, flat_snoc, Sm.markL_app, Sm.markL_app]
        rfl
      have hl2 := hz _ (List.getElem_mem hlt)
      have hsz := str_size ts[j]
      generalize ts[j] = t at *
      generalize Sm.markL G (flat (ts.take j)) = c2 at *
      have CZ := markOn_any (Sm.markL c2 t) 0
      go_wp2
      go_loopw [3, 15] (fun y k wr2 => ∃ i : Nat, i ≤ t.length ∧ k = .int .i64 i ∧ y = .int .u64 ((Sm.markL c2 (t.take i)).toNat : Int) ∧ w = wr2) (fun _ i _ => t.length - (intOf i).toNat)
      case atStart => exact ⟨0, Nat.zero_le _, rfl, rfl, rfl⟩
      case round =>
        obtain ⟨i, hi, rfl, rfl, rfl⟩ := hrel
        by_cases hi2 : i < t.length
        · have HC2 : Hid (Sm.markL c2 (t.take (i + 1)) = Sm.mk (Sm.markL c2 (t.take i)) t[i]) := by
            show Sm.markL c2 (t.take (i + 1)) = _
            rw [List.take_succ_eq_append_getElem hi2, Sm.markL_app]; rfl
          have C1 := markOn_any (Sm.markL c2 (t.take i)) t[i]
          have hat : ((str t)[i]'(by rw [str_size]; exact hi2)) = t[i] := rfl
          generalize Sm.markL c2 (t.take i) = c3 at *
          clear CZ
          go_wp2_with (go_at_call 20; refine (C1 _).mono ?_; rintro e w2 ⟨rfl, he⟩; replace he := he.symm; subst he)
          exact ⟨⟨i + 1, by omega, by go_num, by rw [HC2.out], trivial⟩, by simp [intOf]; omega⟩
        · have hjl : t.take i = t := List.take_of_length_le (by omega)
          rw [hjl]
          go_wp2_with (go_at_call 20; refine (CZ _).mono ?_; rintro e w2 ⟨rfl, he⟩; replace he := he.symm; subst he)
          exact ⟨⟨j + 1, by omega, by go_num, by rw [HC.out], trivial⟩, by simp [intOf]; omega⟩
    · have hjl : ts.take j = ts := List.take_of_length_le (by omega)
      rw [hjl]
      have C := fun W => Hex_any (Sm.markL G (flat ts)).toNat 16 W (Sm.markL G (flat ts)).isLt (by decide)
      rw [show digs 16 = 16 from rfl, ← HX.out] at C
      generalize Sm.markL G (flat ts) = y at *
      go_wp2_with (go_at_call 14; refine (C _).mono ?_; rintro e w2 ⟨rfl, hB⟩)
      go_ret
      exact ⟨rfl, hB⟩
theorem strCells_B (t : List UInt8) : Lib.strCells (str t) = cellsB t := by
  unfold cellsB Lib.strCells
  rw [str_data]
set_option maxHeartbeats 2000000 in
set_option maxRecDepth 100000 in
theorem Marks_any (ts : List (List UInt8)) (v : Value) (w : World) (hv : ReadsCells w v (cellsS ts)) (hl : ts.length ≤ 1000000000) (hz : (flat ts).length ≤ 1000000000) :
    Calls Try.prog 18 #[v] w fun e w' => e = .returned (.string (str (Sm.hexA 16 (Sm.markL G (flat ts)).toNat []))) ∧ Below w.heap.size w w' := by
  obtain ⟨a, cp, rfl⟩ := hv.form
  rw [cellsS_length] at hv ⊢
  obtain ⟨X, HX⟩ : ∃ X, Hid (X = Sm.hexA 16 (Sm.markL G (flat ts)).toNat []) := ⟨_, rfl⟩
  rw [← HX.out]
  obtain ⟨i0, hi0, hz0, hz1, hz2⟩ := info_parts infoByte
  go_enter Try.func18, Try.ntmps18
  go_wp2
  go_loopw [3, 4] (fun y i wr => ∃ j : Nat, j ≤ ts.length ∧ i = .int .i64 j ∧ OwnsBytes wr w.heap.size y (flat (ts.take j)) ∧ Below w.heap.size w wr) (fun _ i _ => ts.length - (intOf i).toNat)
  case atStart => exact ⟨0, Nat.zero_le _, rfl, OwnsBytes.nil _ _, Below.refl _ _⟩
  case round =>
    obtain ⟨j, hj, rfl, hO, hB⟩ := hrel
    by_cases hlt : j < ts.length
    · obtain ⟨hq, hc, b, o, rfl, hcell⟩ := (ReadsCells.below hv hB).at (cellsS_at ts j hlt)
      clear hq
      have HC : Hid (flat (ts.take (j + 1)) = flat (ts.take j) ++ ts[j] ++ [0]) := by
        show flat (ts.take (j + 1)) = _
        rw [List.take_succ_eq_append_getElem hlt, flat_snoc]
      have hle : (flat (ts.take j)).length + ts[j].length + 1 ≤ 1000000000 := by
        have h1 := congrArg List.length HC.out
        have h2 : (flat (ts.take (j + 1))).length ≤ (flat ts).length := by
          conv => rhs; rw [← List.take_append_drop (j + 1) ts]
          unfold flat
          rw [List.map_append, List.flatten_append, List.length_append]
          omega
        rw [List.length_append, List.length_append] at h1
        simp at h1
        omega
      have hsz := str_size ts[j]
      generalize ts[j] = t at *
      generalize flat (ts.take j) = f at *
      go_wp2_with (first
        | (at_builtin; refine Lib.wpList_append_own_string _ rfl _ _ 22 9 rfl w.heap.size 5 i0 Try.underlying22 Try.underlying9 hi0 hz0 hz1 hz2 _ _ _ rfl hO (str t) rfl (by rw [str_size]; unfold maxLen; omega) (by rw [str_size]; omega) hB.size ?_; intro v2 w2 hO2 hG2 _; rw [strCells_B, ← cellsB_app, str_size, ← List.length_append] at hO2; have hB2 := hB.grown hG2 hB.size (fun q hq => (World.ownsRow.lt hO q hq).1))
        | (at_builtin; refine wpList_append_RB rfl _ _ rfl w.heap.size _ (f ++ t) rfl (World.ownsRow.alloc hO2 _) _ [0] rfl (RB.new w2 [0] _ rfl _ _ _ rfl) (by simp; omega) (by have := hB2.size; simp; omega) ?_; intro v3 w3 hO3 hG3))
      exact ⟨⟨j + 1, by omega, by go_num, by rw [HC.out]; exact hO3, (hB2.alloc hB2.size _).grown hG3 (by have := hB2.size; simp; omega) (fun q hq => (World.ownsRow.lt hO2 q hq).1)⟩, by simp [intOf]; omega⟩
    · have hjl : ts.take j = ts := List.take_of_length_le (by omega)
      rw [hjl] at hO
      have C := fun W => RHex_any (Sm.markL G (flat ts)).toNat 16 W (Sm.markL G (flat ts)).isLt (by decide)
      rw [show digs 16 = 16 from rfl, ← HX.out] at C
      have C2 := RMark_any (flat ts) _ wr hO.reads hz
      generalize Sm.markL G (flat ts) = z at *
      go_wp2_with (first
        | (go_at_call 13; refine C2.mono ?_; rintro e w2 ⟨rfl, he⟩; replace he := he.symm; subst he)
        | (go_at_call 15; refine (C _).mono ?_; rintro e w2 ⟨rfl, he⟩; replace he := he.symm; subst he))
      go_ret
      exact ⟨rfl, hB⟩
end Go.Proofs.Ytfjgmejobldjoaa
