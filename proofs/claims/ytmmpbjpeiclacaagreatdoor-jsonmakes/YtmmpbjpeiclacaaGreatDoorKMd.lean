/- Texts laid as one. -/
import Derived.Test.YtmmpbjpeiclacaaGreatDoorKJson
import Derived.Lib.ItoaNum
import Derived.Test.YtmmpbjpeiclacaaGreatDoorKShelf
import Derived.Test.YtmmpbjpeiclacaaGreatDoorKMabc
import Derived.Lib.ItoaLen
import Derived.Lib.LaidTab
import Derived.PlainAid
import Derived.Laws.BytesArg
/- Plain mathematics: a whole number's text is a number. -/
namespace Jsn
open Go Go.Lib
theorem dg_of (d : Nat) (h : d < 10) : dgB (UInt8.ofNat (48 + d)) = true := by
  rcases (by omega : d = 0 ∨ d = 1 ∨ d = 2 ∨ d = 3 ∨ d = 4 ∨ d = 5 ∨ d = 6 ∨ d = 7 ∨ d = 8 ∨ d = 9) with rfl | rfl | rfl | rfl | rfl | rfl | rfl | rfl | rfl | rfl <;> decide
theorem low_dg (c : UInt8) : dgB c = true → c.toNat < 128 := by revert c; apply byte_all; decide +kernel
theorem nul_of (d : Nat) (h : d < 10) (h0 : 0 < d) : isNul (UInt8.ofNat (48 + d)) = false := by
  rcases (by omega : d = 1 ∨ d = 2 ∨ d = 3 ∨ d = 4 ∨ d = 5 ∨ d = 6 ∨ d = 7 ∨ d = 8 ∨ d = 9) with rfl | rfl | rfl | rfl | rfl | rfl | rfl | rfl | rfl <;> decide
theorem decs (u : Nat) : decDigits u ≠ [] ∧ (decDigits u).all dgB = true ∧ (0 < u → starts isNul (decDigits u) = false) := by
  induction u using Nat.strongRecOn with
  | ind u ih =>
    rw [decDigits]
    by_cases h : u < 10
    · rw [dif_pos h]
      exact ⟨by simp, by rw [List.all_cons, dg_of u h]; rfl, fun h0 => nul_of u h h0⟩
    · rw [dif_neg h]
      obtain ⟨h1, h2, h3⟩ := ih (u / 10) (by omega)
      refine ⟨by simp, by rw [List.all_append, h2]; rw [List.all_cons, dg_of (u % 10) (by omega)]; rfl, fun _ => ?_⟩
      have := h3 (by omega)
      cases hd : decDigits (u / 10) with
      | nil => exact absurd hd h1
      | cons c r =>
        rw [hd] at this
        unfold starts at this ⊢
        simpa using this
theorem digs_int (u : Nat) : IntP (decDigits u) := by
  by_cases h : u = 0
  · subst h
    left
    rw [decDigits]
    rfl
  · right
    exact ⟨⟨(decs u).1, (decs u).2.1⟩, (decs u).2.2 (by omega)⟩
theorem itoa_num (n : Int) : isNum (itoa n) = true := by
  rw [isNum_iff]
  unfold itoa
  split
  · exact ⟨[45], decDigits n.natAbs, [], [], .inr rfl, digs_int _, .inl rfl, .inl rfl, by simp⟩
  · exact ⟨[], decDigits n.toNat, [], [], .inl rfl, digs_int _, .inl rfl, .inl rfl, by simp⟩
theorem itoa_text (n : Int) : Utf.isText (itoa n) = true := by
  have h : ∀ u, ∀ d ∈ decDigits u, d.toNat < 128 := fun u d hd => low_dg d (List.all_eq_true.1 (decs u).2.1 d hd)
  have h2 : ∀ d ∈ itoa n, d.toNat < 128 := by
    unfold itoa
    split
    · intro d hd
      rcases List.mem_cons.1 hd with rfl | hd
      · decide
      · exact h _ d hd
    · exact h _
  have := low_text (itoa n) [] h2
  rw [List.append_nil] at this
  rw [this, Utf.isText_nil]
end Jsn
/- The contract of json.Ints. -/
set_option linter.unusedVariables false
set_option linter.unusedSimpArgs false
namespace Go.Proofs.YtmmpbjpeiclacaaGreatDoor
open Go.RowKit
theorem gPow : Tryz.prog.globalNamed "internal/strconv.uint64pow10" = some 0 := by kernel_rfl
/-- What the walks are told of strconv's table of powers of ten. -/
def Pow (w : World) : Prop := Lib.TabIs Tryz.prog w "internal/strconv.uint64pow10" .u64 Lib.pow10Tab
theorem Pow.lt {w : World} (h : Pow w) : 0 < w.heap.size := by
  have := Lib.TabIs.cell h gPow 0 (by decide)
  unfold World.cell? at this
  simp at this
  by_cases hs : 0 < w.heap.size
  · exact hs
  · rw [Array.getElem?_eq_none (by omega)] at this
    simp at this
theorem Pow.below {w w' : World} (h : Pow w) (hb : Below w.heap.size w w') : Pow w' := var?_below hb gPow h.lt h
theorem below_growS {w : World} (k : Nat) (os : Array Obj) : Below w.heap.size w (Go.Sort.grow (w.drewN k) os) := by
  refine ⟨rfl, rfl, rfl, ?_, ?_⟩
  · simp [Go.Sort.grow]
  · intro j hj
    show (w.heap ++ os)[j]? = _
    rw [Array.getElem?_append_left hj]
set_option maxHeartbeats 400000 in
theorem AText_any (n : Int) (w : World) (h0 : -9223372036854775808 ≤ n) (h1 : n ≤ 9223372036854775807) (hT : Pow w) :
    Calls Tryz.prog 39 #[.int .i64 n] w fun e w' => e = .returned (.string (str (Lib.itoa n))) ∧ Below w.heap.size w w' := by
  go_enter Tryz.func39, Tryz.ntmps39
  go_wp2_with (first
    | (go_at_call 60; refine (Tryz.strconv_FormatInt_10 n h0 h1 w hT).mono ?_; rintro e w1 ⟨rfl, k, os, rfl⟩))
  go_ret
  exact ⟨rfl, below_growS k os⟩
set_option maxHeartbeats 4000000 in
set_option maxRecDepth 100000 in
theorem Ints_any (n : Int) (w : World) (h0 : -9223372036854775808 ≤ n) (h1 : n ≤ 9223372036854775807) (hT : Pow w) :
    Calls Tryz.prog 16 #[.int .i64 n] w fun e w' => e = .returned (vv (.int .i64 3) (.string (str (Lib.itoa n))) (.slice none 0 0) (.slice none 0 0)) ∧ Below w.heap.size w w' := by
  have hB1 : Below w.heap.size w (w.alloc (.cells #[.int .i64 0, .string ⟨#[]⟩, .slice none 0 0, .slice none 0 0] 27)) := (Below.refl _ w).alloc (Nat.le_refl _) _
  have hV1 : VAt (w.alloc (.cells #[.int .i64 0, .string ⟨#[]⟩, .slice none 0 0, .slice none 0 0] 27)) w.heap.size (.int .i64 0) (.string ⟨#[]⟩) (.slice none 0 0) (.slice none 0 0) := val_new w _
  have CR := hideP (AText_any n _ h0 h1 (hT.below hB1))
  clear hT
  go_enter Tryz.func16, Tryz.ntmps16
  go_upto_region 1 with fail
  generalize w.alloc (.cells #[.int .i64 0, .string ⟨#[]⟩, .slice none 0 0, .slice none 0 0] 27) = w1 at *
  go_wp2_with (first
    | (go_at_call 39; refine CR.out.mono ?_; rintro e w2 ⟨rfl, hB2⟩; have hV2 := VAtb hV1 hB2)
    | ((with_reducible show wpList _ _ _ ({ op := Op.store 27 _ _, .. } :: _) _ _); refine wpList_store_V _ _ rfl rfl _ _ _ _ _ rfl rfl hV2 (ones_mk _ _ _ _ _ _ _ _) ?_))
  refine ret_V rfl rfl rfl (setRow_V hV2 _ _ _ _) ⟨rfl, ?_⟩
  exact setRow_below (bel hB1 hB2) (Nat.le_refl _)
end Go.Proofs.YtmmpbjpeiclacaaGreatDoor
