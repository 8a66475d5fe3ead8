/- Contracts of escape and Quote. -/
import Derived.Test.YtmmpbjpeiclacaaGreatDoorKZB
import Derived.Test.YtmmpbjpeiclacaaGreatDoorKYW
set_option linter.unusedVariables false
set_option linter.unusedSimpArgs false
namespace Go.Proofs.YtmmpbjpeiclacaaGreatDoor
open Go.RowKit
/-- What a byte is told as; nothing where it stands as it is. -/
def escS (c : UInt8) : List UInt8 := if Jsn.escB c = [c] then [] else Jsn.escB c
theorem esc_ctl (c : UInt8) (h : c < 32 ∨ c = 127) (h1 : ¬ (c = 34 ∨ c = 92 ∨ c = 8 ∨ c = 9 ∨ c = 10 ∨ c = 12 ∨ c = 13)) : escS c = [92, 117, 48, 48, Jsn.hexC (c.toNat / 16), Jsn.hexC (c.toNat % 16)] := by
  simp only [not_or] at h1
  obtain ⟨c34, c92, c8, c9, c10, c12, c13⟩ := h1
  unfold escS Jsn.escB
  rw [if_neg c34, if_neg c92, if_neg c8, if_neg c9, if_neg c10, if_neg c12, if_neg c13, if_pos h]
  rw [if_neg (by intro e; exact absurd (congrArg List.length e) (by simp))]
theorem ne_u8 {c d : UInt8} (h : ¬ c = d) : ((c.toNat : Int) == (d.toNat : Int)) = false := by
  rw [beq_eq_false_iff_ne]
  intro e
  exact h (UInt8.toNat_inj.1 (by omega))
theorem hexE : ∀ n, n < 16 → ((⟨#[48, 49, 50, 51, 52, 53, 54, 55, 56, 57, 97, 98, 99, 100, 101, 102]⟩ : ByteArray).extract n (n + 1)).data.toList = [Jsn.hexC n] := by decide
set_option maxHeartbeats 4000000 in
set_option maxRecDepth 100000 in
theorem escape_any (c : UInt8) (w : World) :
    Calls Tryz.prog 25 #[.int .u8 c.toNat] w fun e w' => e = .returned (.string (str (escS c))) ∧ Below w.heap.size w w' := by
  by_cases c34 : c = 34
  · subst c34
    go_enter Tryz.func25, Tryz.ntmps25
    go_wp2
    go_ret
    exact ⟨rfl, Below.refl _ _⟩
  by_cases c92 : c = 92
  · subst c92
    go_enter Tryz.func25, Tryz.ntmps25
    go_wp2
    go_ret
    exact ⟨rfl, Below.refl _ _⟩
  by_cases c8 : c = 8
  · subst c8
    go_enter Tryz.func25, Tryz.ntmps25
    go_wp2
    go_ret
    exact ⟨rfl, Below.refl _ _⟩
  by_cases c9 : c = 9
  · subst c9
    go_enter Tryz.func25, Tryz.ntmps25
    go_wp2
    go_ret
    exact ⟨rfl, Below.refl _ _⟩
  by_cases c10 : c = 10
  · subst c10
    go_enter Tryz.func25, Tryz.ntmps25
    go_wp2
    go_ret
    exact ⟨rfl, Below.refl _ _⟩
  by_cases c12 : c = 12
  · subst c12
    go_enter Tryz.func25, Tryz.ntmps25
    go_wp2
    go_ret
    exact ⟨rfl, Below.refl _ _⟩
  by_cases c13 : c = 13
  · subst c13
    go_enter Tryz.func25, Tryz.ntmps25
    go_wp2
    go_ret
    exact ⟨rfl, Below.refl _ _⟩
  have n34 : ((c.toNat : Int) == 34) = false := ne_u8 c34
  have n92 : ((c.toNat : Int) == 92) = false := ne_u8 c92
  have n8 : ((c.toNat : Int) == 8) = false := ne_u8 c8
  have n9 : ((c.toNat : Int) == 9) = false := ne_u8 c9
  have n10 : ((c.toNat : Int) == 10) = false := ne_u8 c10
  have n12 : ((c.toNat : Int) == 12) = false := ne_u8 c12
  have n13 : ((c.toNat : Int) == 13) = false := ne_u8 c13
  by_cases hct : c < 32 ∨ c = 127
  · have hE := esc_ctl c hct (by rintro (h | h | h | h | h | h | h) <;> contradiction)
    have HE := show Hid _ from hE
    clear hE
    by_cases h32 : c < 32
    · have i32 : ((c.toNat : Int) < 32) := by have := UInt8.lt_iff_toNat_lt.1 h32; simp at this; omega
      clear hct c34 c92 c8 c9 c10 c12 c13
      go_enter Tryz.func25, Tryz.ntmps25
      go_wp2
      go_region
      go_wp2
      go_ret
      refine ⟨ret_text ?_, (Below.refl _ _).drew⟩
      rw [HE.out]
      simp only [ByteArray.data_append, Array.toList_append]
      rw [hexE _ (by omega), hexE _ (by omega)]
      rfl
    · have h127 : c = 127 := hct.resolve_left h32
      subst h127
      clear hct c34 c92 c8 c9 c10 c12 c13 n34 n92 n8 n9 n10 n12 n13
      go_enter Tryz.func25, Tryz.ntmps25
      go_wp2
      go_region
      go_wp2
      go_ret
      refine ⟨ret_text ?_, (Below.refl _ _).drew⟩
      rw [HE.out]
      rfl
  · have hE : escS c = [] := by
      unfold escS Jsn.escB
      simp [c34, c92, c8, c9, c10, c12, c13, hct]
    have i32 : ¬ ((c.toNat : Int) < 32) := by have : ¬ c < 32 := fun h => hct (.inl h); rw [UInt8.lt_iff_toNat_lt] at this; simp at this; omega
    have n127 : ((c.toNat : Int) == 127) = false := ne_u8 (fun h => hct (.inr h))
    rw [hE]
    clear hct c34 c92 c8 c9 c10 c12 c13 hE
    go_enter Tryz.func25, Tryz.ntmps25
    go_wp2
    go_ret
    exact ⟨rfl, Below.refl _ _⟩
theorem escS_yes {c : UInt8} (h : escS c = []) : Jsn.escB c = [c] := by
  by_cases he : Jsn.escB c = [c]
  · exact he
  · unfold escS at h
    rw [if_neg he] at h
    have := Jsn.esc_pos c
    rw [h] at this
    exact absurd this (by decide)
theorem escS_no {c : UInt8} (h : ¬ escS c = []) : Jsn.escB c = escS c := by
  by_cases he : Jsn.escB c = [c]
  · unfold escS at h
    rw [if_pos he] at h
    exact absurd rfl h
  · unfold escS
    rw [if_neg he]
theorem escS_len (c : UInt8) : (Jsn.escB c).length ≤ 6 := by
  exact Jsn.esc_len_le c
theorem bc_len (a : List UInt8) : (Lib.byteCells a).length = a.length := by
  unfold Lib.byteCells
  exact List.length_map _
theorem bc_app (a c : List UInt8) : Lib.byteCells (a ++ c) = Lib.byteCells a ++ Lib.byteCells c := by
  unfold Lib.byteCells
  exact List.map_append
set_option maxHeartbeats 4000000 in
set_option maxRecDepth 100000 in
theorem Quote_any (l : List UInt8) (w : World) (hz : l.length ≤ 1000000000) :
    Calls Tryz.prog 6 #[.string (str l)] w fun e w' => e = .returned (.string (str (Jsn.quoteJ (Utf.rep l)))) ∧ Below w.heap.size w w' := by
  have hR := Repair_any l w hz
  have hrl : (Utf.rep l).length ≤ 3 * l.length := Utf.rep_len l
  generalize Utf.rep l = r at hR hrl ⊢
  have hrz := str_size r
  have hX : Jsn.quoteJ r = [34] ++ (r.flatMap Jsn.escB ++ [34]) := rfl
  generalize Jsn.quoteJ r = X at hX ⊢
  have HX := show Hid _ from hX
  clear hX
  go_enter Tryz.func6, Tryz.ntmps6
  go_wp2_with (first
    | (go_at_call 23; refine hR.mono ?_; rintro e w1 ⟨rfl, hB1⟩; have hs1 := hB1.size; have hI := Lib.IsBuilderF.of (Lib.fresh_isBuilder 53 5 w1); have hB2 := hB1.trans (((Below.refl w1.heap.size w1).alloc (o := .cells #[.pointer none, .slice none 0 0] 53) (Nat.le_refl _)).mono hs1))
    | (go_at_call 24; refine (WriteByte_k w1.heap.size w1.heap.size (Lib.byteCells []) 34 _ hI (by decide) (by simp)).mono ?_; rintro e w2 ⟨rfl, hI2, hB3, _⟩; clear hI; have hB4 := hB2.trans (hB3.mono hs1)))
  have hB := hB4
  clear hB2 hB3 hB1 hR
  go_loopw [11] (fun i wr => ∃ (j : Nat) (acc : List UInt8), i = .int .i64 j ∧ j ≤ r.length ∧ Lib.IsBuilderF 53 5 w1.heap.size w1.heap.size (Lib.byteCells acc) wr ∧ Below w.heap.size w wr ∧ w1.heap.size ≤ wr.heap.size ∧ acc.length ≤ 1 + 6 * j ∧ Hid (X = acc ++ ((r.drop j).flatMap Jsn.escB ++ [34]))) (fun i _ => r.length - (intOf i).toNat)
  case atStart =>
    exact ⟨0, [34], rfl, Nat.zero_le _, .inr hI2, hB, Nat.le_of_lt hI2.lt, by simp, HX⟩
  case round =>
    obtain ⟨j, acc, rfl, hj, hI, hB, hs, hac, HE⟩ := hrel
    clear hB4 hI2 HX
    by_cases hlt : j < r.length
    · have hix : ∀ (W : World), (Instr.index 9 (.string (str r)) (.int .i64 (j : Int))).run Tryz.prog W = .ok (.int .u8 r[j].toNat) W := fun W => run_index_str r j hlt W
      have hE := HE.out
      rw [List.drop_eq_getElem_cons hlt, List.flatMap_cons] at hE
      generalize r[j] = c at hix hE
      have hL := escS_len c
      by_cases hes : escS c = []
      · rw [escS_yes hes] at hE
        have HY : Hid (X = (acc ++ [c]) ++ ((r.drop (j + 1)).flatMap Jsn.escB ++ [34])) := by show _ = _; rw [hE]; simp
        have hsc := fun w => escape_any c w
        rw [hes] at hsc
        have e0 : (str ([] : List UInt8)).toList.isEmpty = true := empty_yes
        clear hE HE
        go_wp2_with (first
          | (go_at_call 25; refine (hsc _).mono ?_; rintro e w3 ⟨rfl, hB3⟩; clear hsc; have hI3 := builder_keep hI (fun k hk hlt => hB3.block k hlt); have hs3 := hB3.size)
          | (go_at_call 24; refine (WriteByte_k w1.heap.size w1.heap.size (Lib.byteCells acc) c.toNat _ hI3 (by rw [bc_len]; omega) (by omega)).mono ?_; rintro e w4 ⟨rfl, hI4, hB4, _⟩))
        have hs4 := hB4.size
        go_roundw
        case rel => exact ⟨j + 1, acc ++ [c], by go_num, by omega, .inr (by rw [bc_app]; exact hI4), (bel hB hB3).trans (hB4.mono hs1), by omega, by simp; omega, HY⟩
        case measure => simp [intOf]; omega
      · rw [escS_no hes] at hE hL
        have HY : Hid (X = (acc ++ escS c) ++ ((r.drop (j + 1)).flatMap Jsn.escB ++ [34])) := by show _ = _; rw [hE]; simp
        have hsc := fun w => escape_any c w
        generalize escS c = t at hsc HY hL hes
        have ht1 : (str t).toList.isEmpty = false := by rw [empty_is]; cases t with | nil => exact absurd rfl hes | cons _ _ => rfl
        have htz := str_size t
        clear hE HE
        go_wp2_with (first
          | (go_at_call 25; refine (hsc _).mono ?_; rintro e w3 ⟨rfl, hB3⟩; clear hsc; have hI3 := builder_keep hI (fun k hk hlt => hB3.block k hlt); have hs3 := hB3.size)
          | (go_at_call 26; refine (WriteString_k w1.heap.size w1.heap.size (Lib.byteCells acc) (str t) _ hI3 (by rw [bc_len]; omega) (by omega)).mono ?_; rintro e w4 ⟨rfl, hI4, hB4, _⟩))
        have hs4 := hB4.size
        go_roundw
        case rel => exact ⟨j + 1, acc ++ t, by go_num, by omega, .inr (by rw [bc_app]; exact hI4), (bel hB hB3).trans (hB4.mono hs1), by omega, by simp; omega, HY⟩
        case measure => simp [intOf]; omega
    · have HY : Hid (X = acc ++ [34]) := by show _ = _; rw [HE.out, List.drop_of_length_le (by omega)]; simp
      clear HE
      go_wp2_with (first
        | (go_at_call 24; refine (WriteByte_k w1.heap.size w1.heap.size (Lib.byteCells acc) 34 _ hI (by rw [bc_len]; omega) (by omega)).mono ?_; rintro e w4 ⟨rfl, hI4, hB4, _⟩; have hI5 : Lib.IsBuilderF 53 5 w1.heap.size w1.heap.size (Lib.byteCells (acc ++ [34])) w4 := .inr (by rw [bc_app]; exact hI4))
        | (go_at_call 27; refine (Tryz.Builder_String_any_k w1.heap.size w1.heap.size (acc ++ [34]) _ hI5 (by have := hB4.size; omega)).mono ?_; rintro e w5 ⟨rfl, _, hb5, _⟩))
      go_ret
      refine ⟨?_, (hB.trans (hB4.mono hs1)).trans (hb5.mono hs1)⟩
      rw [HY.out]
      rfl
end Go.Proofs.YtmmpbjpeiclacaaGreatDoor
