/- The contracts of package url's String, place, Bare, Origin. -/
import Derived.Test.YtlkhjloeonbjaaaGreatDoorVTail
namespace Go.Proofs.YtlkhjloeonbjaaaGreatDoor
open Go.RowKit
/-- A URL whose texts are not too long. -/
def Fits (u : Url.U) : Prop := u.sch.length ≤ 100000000 ∧ u.host.length ≤ 100000000 ∧ u.path.length ≤ 100000000 ∧ u.query.length ≤ 100000000 ∧ u.frag.length ≤ 100000000 ∧ -9223372036854775808 ≤ u.port ∧ u.port ≤ 9223372036854775807
def UAt (w : World) (b : Nat) (u : Url.U) : Prop := w.heap[b]? = some (.cells (uCells u) 25 (0, 0))
theorem UAt.cell {w : World} {b : Nat} {u : Url.U} (h : UAt w b u) (i : Nat) : w.cell? ⟨b, i, none⟩ = (uCells u)[i]? := Lib.cell_of_heap h i
theorem UAt.below {w w' : World} {b : Nat} {u : Url.U} (h : UAt w b u) (hb : Below w.heap.size w w') : UAt w' b u :=
  (hb.block b (Array.getElem?_eq_some_iff.1 h).1).trans h
theorem itoa_len (n : Int) (h0 : -9223372036854775808 ≤ n) (h1 : n ≤ 9223372036854775807) : (Lib.itoa n).length ≤ 100 := by
  have := Lib.itoa_length_le n h0 (by omega)
  omega
set_option maxHeartbeats 4000000 in
set_option maxRecDepth 100000 in
theorem String_any (u : Url.U) (w : World) (hE : Env w) (hu : Fits u) :
    Calls Tryz.prog 22 #[uVal u] w fun e w' => e = .returned (.string (str (Url.str u))) ∧ Below w.heap.size w w' := by
  obtain ⟨us, uh, up, upa, uq, uf, uhq, uhf⟩ := u
  obtain ⟨h1, h2, h3, h4, h5, h6, h7⟩ := hu
  simp only at h1 h2 h3 h4 h5 h6 h7
  have hU : UAt (w.alloc (.cells (uCells ⟨us, uh, up, upa, uq, uf, uhq, uhf⟩) 25)) w.heap.size ⟨us, uh, up, upa, uq, uf, uhq, uhf⟩ := heap_alloc_last _ _
  have hb0 : Below w.heap.size w (w.alloc (.cells (uCells ⟨us, uh, up, upa, uq, uf, uhq, uhf⟩) 25)) := (Below.refl _ w).alloc (Nat.le_refl _) _
  have hpow := (hE.below hb0).pow
  unfold uVal
  unfold uCells at hb0 hU hpow ⊢
  simp only at hb0 hU hpow ⊢
  have z1 : (str us).size ≤ 100000000 := by rw [str_size]; exact h1
  have z2 : (str uh).size ≤ 100000000 := by rw [str_size]; exact h2
  have z3 : (str upa).size ≤ 100000000 := by rw [str_size]; exact h3
  have z4 : (str uq).size ≤ 100000000 := by rw [str_size]; exact h4
  have z5 : (str uf).size ≤ 100000000 := by rw [str_size]; exact h5
  have z58 : (⟨#[58, 47, 47]⟩ : ByteArray).size = 3 := rfl
  obtain ⟨l1, hl1⟩ : ∃ l1, us ++ [58, 47, 47] = l1 := ⟨_, rfl⟩
  have hc1 : str us ++ (⟨#[58, 47, 47]⟩ : ByteArray) = str l1 := by rw [← hl1]; exact str_add us [58, 47, 47]
  have hs1 : (str l1).size ≤ 100000003 := by rw [← hc1, ByteArray.size_append, z58]; omega
  obtain ⟨l2, hl2⟩ : ∃ l2, l1 ++ uh = l2 := ⟨_, rfl⟩
  have hc2 : str l1 ++ str uh = str l2 := by rw [str_add, hl2]
  have hs2 : (str l2).size ≤ 200000003 := by rw [← hc2, ByteArray.size_append]; omega
  have HL2 : Hid (us ++ [58, 47, 47] ++ uh = l2) := by rw [hl1]; exact hl2
  clear hl1 hl2
  by_cases hport : up = 0
  · have hp0 : (up != 0) = false := by rw [hport]; rfl
    have HP : Hid ((if up ≠ 0 then 58 :: Lib.itoa up else []) = []) := if_neg (fun h => h hport)
    have HL3 : Hid (l2 ++ (if up ≠ 0 then 58 :: Lib.itoa up else []) = l2) := by rw [HP.out, List.append_nil]; rfl
    obtain ⟨l4, hl4⟩ : ∃ l4, l2 ++ upa = l4 := ⟨_, rfl⟩
    have hc4 : str l2 ++ str upa = str l4 := by rw [str_add, hl4]
    have hs4 : (str l4).size ≤ 400000200 := by rw [← hc4, ByteArray.size_append]; omega
    have HL4 : Hid (l2 ++ upa = l4) := hl4
    clear hl4
    clear hport
    cases uhq
    · have HQ : Hid ((if false = true then 63 :: uq else []) = []) := rfl
      have HL5 : Hid (l4 ++ [] = l4) := List.append_nil _
      cases uhf
      · have HL6 : Hid (Url.str ⟨us, uh, up, upa, uq, uf, false, false⟩ = l4) := by
          show us ++ [58, 47, 47] ++ uh ++ (if up ≠ 0 then 58 :: Lib.itoa up else []) ++ upa ++ [] ++ [] = l4
          rw [HL2.out, HL3.out, HL4.out, List.append_nil]
          exact HL5.out
        go_enter Tryz.func22, Tryz.ntmps22
        go_wp2
        go_ret
        exact ⟨by rw [HL6.out]; rfl, hb0⟩
      · have hc35 : (⟨#[35]⟩ : ByteArray) ++ str uf = str (35 :: uf) := str_add [35] _
        have hs35 : (str (35 :: uf)).size ≤ 100000001 := by rw [str_size, List.length_cons]; omega
        have hz35 : (⟨#[35]⟩ : ByteArray).size = 1 := rfl
        obtain ⟨l6, hl6⟩ : ∃ l6, l4 ++ 35 :: uf = l6 := ⟨_, rfl⟩
        have hc6 : str l4 ++ str (35 :: uf) = str l6 := by rw [str_add, hl6]
        have HL6 : Hid (Url.str ⟨us, uh, up, upa, uq, uf, false, true⟩ = l6) := by
          show us ++ [58, 47, 47] ++ uh ++ (if up ≠ 0 then 58 :: Lib.itoa up else []) ++ upa ++ [] ++ (35 :: uf) = l6
          rw [HL2.out, HL3.out, HL4.out, HL5.out]
          exact hl6
        clear hl6
        go_enter Tryz.func22, Tryz.ntmps22
        go_wp2
        go_ret
        exact ⟨by rw [HL6.out]; rfl, hb0⟩
    · have HQ : Hid ((if true = true then 63 :: uq else []) = 63 :: uq) := rfl
      have hc63 : (⟨#[63]⟩ : ByteArray) ++ str uq = str (63 :: uq) := str_add [63] _
      have hs63 : (str (63 :: uq)).size ≤ 100000001 := by rw [str_size, List.length_cons]; omega
      have hz63 : (⟨#[63]⟩ : ByteArray).size = 1 := rfl
      obtain ⟨l5, hl5⟩ : ∃ l5, l4 ++ 63 :: uq = l5 := ⟨_, rfl⟩
      have hc5 : str l4 ++ str (63 :: uq) = str l5 := by rw [str_add, hl5]
      have hs5 : (str l5).size ≤ 500000300 := by rw [← hc5, ByteArray.size_append]; omega
      have HL5 : Hid (l4 ++ 63 :: uq = l5) := hl5
      clear hl5
      cases uhf
      · have HL6 : Hid (Url.str ⟨us, uh, up, upa, uq, uf, true, false⟩ = l5) := by
          show us ++ [58, 47, 47] ++ uh ++ (if up ≠ 0 then 58 :: Lib.itoa up else []) ++ upa ++ (63 :: uq) ++ [] = l5
          rw [HL2.out, HL3.out, HL4.out, List.append_nil]
          exact HL5.out
        go_enter Tryz.func22, Tryz.ntmps22
        go_wp2
        go_ret
        exact ⟨by rw [HL6.out]; rfl, hb0⟩
      · have hc35 : (⟨#[35]⟩ : ByteArray) ++ str uf = str (35 :: uf) := str_add [35] _
        have hs35 : (str (35 :: uf)).size ≤ 100000001 := by rw [str_size, List.length_cons]; omega
        have hz35 : (⟨#[35]⟩ : ByteArray).size = 1 := rfl
        obtain ⟨l6, hl6⟩ : ∃ l6, l5 ++ 35 :: uf = l6 := ⟨_, rfl⟩
        have hc6 : str l5 ++ str (35 :: uf) = str l6 := by rw [str_add, hl6]
        have HL6 : Hid (Url.str ⟨us, uh, up, upa, uq, uf, true, true⟩ = l6) := by
          show us ++ [58, 47, 47] ++ uh ++ (if up ≠ 0 then 58 :: Lib.itoa up else []) ++ upa ++ (63 :: uq) ++ (35 :: uf) = l6
          rw [HL2.out, HL3.out, HL4.out, HL5.out]
          exact hl6
        clear hl6
        go_enter Tryz.func22, Tryz.ntmps22
        go_wp2
        go_ret
        exact ⟨by rw [HL6.out]; rfl, hb0⟩
  · have hp0 : (up != 0) = true := by rw [bne_iff_ne]; exact hport
    have HP : Hid ((if up ≠ 0 then 58 :: Lib.itoa up else []) = 58 :: Lib.itoa up) := if_pos hport
    have hil := itoa_len up h6 h7
    have hsi : (str (Lib.itoa up)).size ≤ 100 := by rw [str_size]; exact hil
    have hc58 : (⟨#[58]⟩ : ByteArray) ++ str (Lib.itoa up) = str (58 :: Lib.itoa up) := str_add [58] _
    have hs58 : (str (58 :: Lib.itoa up)).size ≤ 101 := by rw [str_size, List.length_cons]; omega
    have hz58 : (⟨#[58]⟩ : ByteArray).size = 1 := rfl
    obtain ⟨l3, hl3⟩ : ∃ l3, l2 ++ 58 :: Lib.itoa up = l3 := ⟨_, rfl⟩
    have hc3 : str l2 ++ str (58 :: Lib.itoa up) = str l3 := by rw [str_add, hl3]
    have hs3 : (str l3).size ≤ 300000200 := by rw [← hc3, ByteArray.size_append]; omega
    have HL3 : Hid (l2 ++ (if up ≠ 0 then 58 :: Lib.itoa up else []) = l3) := by rw [HP.out]; exact hl3
    clear hl3
    obtain ⟨l4, hl4⟩ : ∃ l4, l3 ++ upa = l4 := ⟨_, rfl⟩
    have hc4 : str l3 ++ str upa = str l4 := by rw [str_add, hl4]
    have hs4 : (str l4).size ≤ 400000200 := by rw [← hc4, ByteArray.size_append]; omega
    have HL4 : Hid (l3 ++ upa = l4) := hl4
    clear hl4
    clear hport
    cases uhq
    · have HQ : Hid ((if false = true then 63 :: uq else []) = []) := rfl
      have HL5 : Hid (l4 ++ [] = l4) := List.append_nil _
      cases uhf
      · have HL6 : Hid (Url.str ⟨us, uh, up, upa, uq, uf, false, false⟩ = l4) := by
          show us ++ [58, 47, 47] ++ uh ++ (if up ≠ 0 then 58 :: Lib.itoa up else []) ++ upa ++ [] ++ [] = l4
          rw [HL2.out, HL3.out, HL4.out, List.append_nil]
          exact HL5.out
        go_enter Tryz.func22, Tryz.ntmps22
        go_wp2_with (go_at_call 55; refine (Text_str up _ h6 h7 hpow).mono ?_; rintro e w2 ⟨rfl, hb2⟩; have hb3 := bel hb0 hb2; have hU2 := UAt.below hU hb2; have d0 := hU2.cell 0; have d1 := hU2.cell 1; have d2 := hU2.cell 2; have d3 := hU2.cell 3; have d4 := hU2.cell 4; have d5 := hU2.cell 5; have d6 := hU2.cell 6; have d7 := hU2.cell 7; simp only [uCells] at d0 d1 d2 d3 d4 d5 d6 d7)
        go_ret
        exact ⟨by rw [HL6.out]; rfl, hb3⟩
      · have hc35 : (⟨#[35]⟩ : ByteArray) ++ str uf = str (35 :: uf) := str_add [35] _
        have hs35 : (str (35 :: uf)).size ≤ 100000001 := by rw [str_size, List.length_cons]; omega
        have hz35 : (⟨#[35]⟩ : ByteArray).size = 1 := rfl
        obtain ⟨l6, hl6⟩ : ∃ l6, l4 ++ 35 :: uf = l6 := ⟨_, rfl⟩
        have hc6 : str l4 ++ str (35 :: uf) = str l6 := by rw [str_add, hl6]
        have HL6 : Hid (Url.str ⟨us, uh, up, upa, uq, uf, false, true⟩ = l6) := by
          show us ++ [58, 47, 47] ++ uh ++ (if up ≠ 0 then 58 :: Lib.itoa up else []) ++ upa ++ [] ++ (35 :: uf) = l6
          rw [HL2.out, HL3.out, HL4.out, HL5.out]
          exact hl6
        clear hl6
        go_enter Tryz.func22, Tryz.ntmps22
        go_wp2_with (go_at_call 55; refine (Text_str up _ h6 h7 hpow).mono ?_; rintro e w2 ⟨rfl, hb2⟩; have hb3 := bel hb0 hb2; have hU2 := UAt.below hU hb2; have d0 := hU2.cell 0; have d1 := hU2.cell 1; have d2 := hU2.cell 2; have d3 := hU2.cell 3; have d4 := hU2.cell 4; have d5 := hU2.cell 5; have d6 := hU2.cell 6; have d7 := hU2.cell 7; simp only [uCells] at d0 d1 d2 d3 d4 d5 d6 d7)
        go_ret
        exact ⟨by rw [HL6.out]; rfl, hb3⟩
    · have HQ : Hid ((if true = true then 63 :: uq else []) = 63 :: uq) := rfl
      have hc63 : (⟨#[63]⟩ : ByteArray) ++ str uq = str (63 :: uq) := str_add [63] _
      have hs63 : (str (63 :: uq)).size ≤ 100000001 := by rw [str_size, List.length_cons]; omega
      have hz63 : (⟨#[63]⟩ : ByteArray).size = 1 := rfl
      obtain ⟨l5, hl5⟩ : ∃ l5, l4 ++ 63 :: uq = l5 := ⟨_, rfl⟩
      have hc5 : str l4 ++ str (63 :: uq) = str l5 := by rw [str_add, hl5]
      have hs5 : (str l5).size ≤ 500000300 := by rw [← hc5, ByteArray.size_append]; omega
      have HL5 : Hid (l4 ++ 63 :: uq = l5) := hl5
      clear hl5
      cases uhf
      · have HL6 : Hid (Url.str ⟨us, uh, up, upa, uq, uf, true, false⟩ = l5) := by
          show us ++ [58, 47, 47] ++ uh ++ (if up ≠ 0 then 58 :: Lib.itoa up else []) ++ upa ++ (63 :: uq) ++ [] = l5
          rw [HL2.out, HL3.out, HL4.out, List.append_nil]
          exact HL5.out
        go_enter Tryz.func22, Tryz.ntmps22
        go_wp2_with (go_at_call 55; refine (Text_str up _ h6 h7 hpow).mono ?_; rintro e w2 ⟨rfl, hb2⟩; have hb3 := bel hb0 hb2; have hU2 := UAt.below hU hb2; have d0 := hU2.cell 0; have d1 := hU2.cell 1; have d2 := hU2.cell 2; have d3 := hU2.cell 3; have d4 := hU2.cell 4; have d5 := hU2.cell 5; have d6 := hU2.cell 6; have d7 := hU2.cell 7; simp only [uCells] at d0 d1 d2 d3 d4 d5 d6 d7)
        go_ret
        exact ⟨by rw [HL6.out]; rfl, hb3⟩
      · have hc35 : (⟨#[35]⟩ : ByteArray) ++ str uf = str (35 :: uf) := str_add [35] _
        have hs35 : (str (35 :: uf)).size ≤ 100000001 := by rw [str_size, List.length_cons]; omega
        have hz35 : (⟨#[35]⟩ : ByteArray).size = 1 := rfl
        obtain ⟨l6, hl6⟩ : ∃ l6, l5 ++ 35 :: uf = l6 := ⟨_, rfl⟩
        have hc6 : str l5 ++ str (35 :: uf) = str l6 := by rw [str_add, hl6]
        have HL6 : Hid (Url.str ⟨us, uh, up, upa, uq, uf, true, true⟩ = l6) := by
          show us ++ [58, 47, 47] ++ uh ++ (if up ≠ 0 then 58 :: Lib.itoa up else []) ++ upa ++ (63 :: uq) ++ (35 :: uf) = l6
          rw [HL2.out, HL3.out, HL4.out, HL5.out]
          exact hl6
        clear hl6
        go_enter Tryz.func22, Tryz.ntmps22
        go_wp2_with (go_at_call 55; refine (Text_str up _ h6 h7 hpow).mono ?_; rintro e w2 ⟨rfl, hb2⟩; have hb3 := bel hb0 hb2; have hU2 := UAt.below hU hb2; have d0 := hU2.cell 0; have d1 := hU2.cell 1; have d2 := hU2.cell 2; have d3 := hU2.cell 3; have d4 := hU2.cell 4; have d5 := hU2.cell 5; have d6 := hU2.cell 6; have d7 := hU2.cell 7; simp only [uCells] at d0 d1 d2 d3 d4 d5 d6 d7)
        go_ret
        exact ⟨by rw [HL6.out]; rfl, hb3⟩
end Go.Proofs.YtlkhjloeonbjaaaGreatDoor
