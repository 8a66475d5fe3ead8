/- Texts laid as one. -/
import Derived.Test.YtnmkhbelmdokmaaGreatDoorKUrlA
import Derived.Deep.MidRow
import Derived.Laws.StructEq
import Derived.Test.YtnmkhbelmdokmaaGreatDoorKMath
import Derived.Test.YtnmkhbelmdokmaaGreatDoorRows
import Derived.Test.YtnmkhbelmdokmaaGreatDoorTie
import Derived.Test.YtnmkhbelmdokmaaGreatDoorCards
import Derived.WalkKit
import Derived.ProofKit
import Derived.LaidMore
import Derived.OpenShut
import Derived.Stop.Joined
import Derived.Stop.LaidErr
import Derived.Lib.LaidU8T
import Derived.Lib.LaidTab
import Derived.Lib.ItoaNum
import Derived.Lay
import Derived.SevenTiedAt
import Derived.SizedLaws
import Derived.SliceStrings
/- The contracts of package url's String, place, Bare, Origin. -/
namespace Go.Proofs.YtnmkhbelmdokmaaGreatDoor
open Go.RowKit
/-- A URL whose texts are not too long. -/
def Fits (u : Url.U) : Prop := u.sch.length ≤ 140737488351232 ∧ u.host.length ≤ 140737488351232 ∧ u.path.length ≤ 140737488351232 ∧ u.query.length ≤ 140737488351232 ∧ u.frag.length ≤ 140737488351232 ∧ -9223372036854775808 ≤ u.port ∧ u.port ≤ 9223372036854775807
def UAt (w : World) (b : Nat) (u : Url.U) : Prop := w.heap[b]? = some (.cells (uCells u) 25 (0, 0))
theorem UAt.cell {w : World} {b : Nat} {u : Url.U} (h : UAt w b u) (i : Nat) : w.cell? ⟨b, i, none⟩ = (uCells u)[i]? := Lib.cell_of_heap h i
theorem UAt.below {w w' : World} {b : Nat} {u : Url.U} (h : UAt w b u) (hb : Below w.heap.size w w') : UAt w' b u :=
  (hb.block b (Array.getElem?_eq_some_iff.1 h).1).trans h
theorem itoa_len (n : Int) (h0 : -9223372036854775808 ≤ n) (h1 : n ≤ 9223372036854775807) : (Lib.itoa n).length ≤ 100 := by
  have := Lib.itoa_length_le n h0 (by omega)
  omega
set_option maxHeartbeats 4000000 in
set_option maxRecDepth 100000 in
theorem String_any (u : Url.U) (w : World) (hE : Env w) (hu : Fits u) :
    Calls Tryz.prog 14 #[uVal u] w fun e w' => e = .returned (.string (str (Url.str u))) ∧ Below w.heap.size w w' := by
  obtain ⟨us, uh, up, upa, uq, uf, uhq, uhf⟩ := u
  obtain ⟨h1, h2, h3, h4, h5, h6, h7⟩ := hu
  simp only at h1 h2 h3 h4 h5 h6 h7
  have hU : UAt (w.alloc (.cells (uCells ⟨us, uh, up, upa, uq, uf, uhq, uhf⟩) 25)) w.heap.size ⟨us, uh, up, upa, uq, uf, uhq, uhf⟩ := heap_alloc_last _ _
  have hb0 : Below w.heap.size w (w.alloc (.cells (uCells ⟨us, uh, up, upa, uq, uf, uhq, uhf⟩) 25)) := (Below.refl _ w).alloc (Nat.le_refl _) _
  have hpow := (hE.below hb0).pow
  unfold uVal
  unfold uCells at hb0 hU hpow ⊢
  simp only at hb0 hU hpow ⊢
  have z1 : (str us).size ≤ 140737488351232 := by rw [str_size]; exact h1
  have z2 : (str uh).size ≤ 140737488351232 := by rw [str_size]; exact h2
  have z3 : (str upa).size ≤ 140737488351232 := by rw [str_size]; exact h3
  have z4 : (str uq).size ≤ 140737488351232 := by rw [str_size]; exact h4
  have z5 : (str uf).size ≤ 140737488351232 := by rw [str_size]; exact h5
  have z58 : (⟨#[58, 47, 47]⟩ : ByteArray).size = 3 := rfl
  obtain ⟨l1, hl1⟩ : ∃ l1, us ++ [58, 47, 47] = l1 := ⟨_, rfl⟩
  have hc1 : str us ++ (⟨#[58, 47, 47]⟩ : ByteArray) = str l1 := by rw [← hl1]; exact str_add us [58, 47, 47]
  have hs1 : (str l1).size ≤ 140737488351235 := by rw [← hc1, ByteArray.size_append, z58]; omega
  obtain ⟨l2, hl2⟩ : ∃ l2, l1 ++ uh = l2 := ⟨_, rfl⟩
  have hc2 : str l1 ++ str uh = str l2 := by rw [str_add, hl2]
  have hs2 : (str l2).size ≤ 281474976702467 := by rw [← hc2, ByteArray.size_append]; omega
  have HL2 : Hid (us ++ [58, 47, 47] ++ uh = l2) := by rw [hl1]; exact hl2
  clear hl1 hl2
  by_cases hport : up = 0
  · have hp0 : (up != 0) = false := by rw [hport]; rfl
    have HP : Hid ((if up ≠ 0 then 58 :: Lib.itoa up else []) = []) := if_neg (fun h => h hport)
    have HL3 : Hid (l2 ++ (if up ≠ 0 then 58 :: Lib.itoa up else []) = l2) := by rw [HP.out, List.append_nil]; rfl
    obtain ⟨l4, hl4⟩ : ∃ l4, l2 ++ upa = l4 := ⟨_, rfl⟩
    have hc4 : str l2 ++ str upa = str l4 := by rw [str_add, hl4]
    have hs4 : (str l4).size ≤ 422212465054000 := by rw [← hc4, ByteArray.size_append]; omega
    have HL4 : Hid (l2 ++ upa = l4) := hl4
    clear hl4
    clear hport
    cases uhq
    · have HQ : Hid ((if false = true then 63 :: uq else []) = []) := rfl
      have HL5 : Hid (l4 ++ [] = l4) := List.append_nil _
      cases uhf
      · have HL6 : Hid (Url.str ⟨us, uh, up, upa, uq, uf, false, false⟩ = l4) := by
          show us ++ [58, 47, 47] ++ uh ++ (if up ≠ 0 then 58 :: Lib.itoa up else []) ++ upa ++ [] ++ [] = l4
          rw [HL2.out, HL3.out, HL4.out, List.append_nil]
          exact HL5.out
        go_enter Tryz.func14, Tryz.ntmps14
        go_wp2
        go_ret
        exact ⟨by rw [HL6.out]; rfl, hb0⟩
      · have hc35 : (⟨#[35]⟩ : ByteArray) ++ str uf = str (35 :: uf) := str_add [35] _
        have hs35 : (str (35 :: uf)).size ≤ 140737488351233 := by rw [str_size, List.length_cons]; omega
        have hz35 : (⟨#[35]⟩ : ByteArray).size = 1 := rfl
        obtain ⟨l6, hl6⟩ : ∃ l6, l4 ++ 35 :: uf = l6 := ⟨_, rfl⟩
        have hc6 : str l4 ++ str (35 :: uf) = str l6 := by rw [str_add, hl6]
        have HL6 : Hid (Url.str ⟨us, uh, up, upa, uq, uf, false, true⟩ = l6) := by
          show us ++ [58, 47, 47] ++ uh ++ (if up ≠ 0 then 58 :: Lib.itoa up else []) ++ upa ++ [] ++ (35 :: uf) = l6
          rw [HL2.out, HL3.out, HL4.out, HL5.out]
          exact hl6
        clear hl6
        go_enter Tryz.func14, Tryz.ntmps14
        go_wp2
        go_ret
        exact ⟨by rw [HL6.out]; rfl, hb0⟩
    · have HQ : Hid ((if true = true then 63 :: uq else []) = 63 :: uq) := rfl
      have hc63 : (⟨#[63]⟩ : ByteArray) ++ str uq = str (63 :: uq) := str_add [63] _
      have hs63 : (str (63 :: uq)).size ≤ 140737488351233 := by rw [str_size, List.length_cons]; omega
      have hz63 : (⟨#[63]⟩ : ByteArray).size = 1 := rfl
      obtain ⟨l5, hl5⟩ : ∃ l5, l4 ++ 63 :: uq = l5 := ⟨_, rfl⟩
      have hc5 : str l4 ++ str (63 :: uq) = str l5 := by rw [str_add, hl5]
      have hs5 : (str l5).size ≤ 562949953406000 := by rw [← hc5, ByteArray.size_append]; omega
      have HL5 : Hid (l4 ++ 63 :: uq = l5) := hl5
      clear hl5
      cases uhf
      · have HL6 : Hid (Url.str ⟨us, uh, up, upa, uq, uf, true, false⟩ = l5) := by
          show us ++ [58, 47, 47] ++ uh ++ (if up ≠ 0 then 58 :: Lib.itoa up else []) ++ upa ++ (63 :: uq) ++ [] = l5
          rw [HL2.out, HL3.out, HL4.out, List.append_nil]
          exact HL5.out
        go_enter Tryz.func14, Tryz.ntmps14
        go_wp2
        go_ret
        exact ⟨by rw [HL6.out]; rfl, hb0⟩
      · have hc35 : (⟨#[35]⟩ : ByteArray) ++ str uf = str (35 :: uf) := str_add [35] _
        have hs35 : (str (35 :: uf)).size ≤ 140737488351233 := by rw [str_size, List.length_cons]; omega
        have hz35 : (⟨#[35]⟩ : ByteArray).size = 1 := rfl
        obtain ⟨l6, hl6⟩ : ∃ l6, l5 ++ 35 :: uf = l6 := ⟨_, rfl⟩
        have hc6 : str l5 ++ str (35 :: uf) = str l6 := by rw [str_add, hl6]
        have HL6 : Hid (Url.str ⟨us, uh, up, upa, uq, uf, true, true⟩ = l6) := by
          show us ++ [58, 47, 47] ++ uh ++ (if up ≠ 0 then 58 :: Lib.itoa up else []) ++ upa ++ (63 :: uq) ++ (35 :: uf) = l6
          rw [HL2.out, HL3.out, HL4.out, HL5.out]
          exact hl6
        clear hl6
        go_enter Tryz.func14, Tryz.ntmps14
        go_wp2
        go_ret
        exact ⟨by rw [HL6.out]; rfl, hb0⟩
  · have hp0 : (up != 0) = true := by rw [bne_iff_ne]; exact hport
    have HP : Hid ((if up ≠ 0 then 58 :: Lib.itoa up else []) = 58 :: Lib.itoa up) := if_pos hport
    have hil := itoa_len up h6 h7
    have hsi : (str (Lib.itoa up)).size ≤ 100 := by rw [str_size]; exact hil
    have hc58 : (⟨#[58]⟩ : ByteArray) ++ str (Lib.itoa up) = str (58 :: Lib.itoa up) := str_add [58] _
    have hs58 : (str (58 :: Lib.itoa up)).size ≤ 101 := by rw [str_size, List.length_cons]; omega
    have hz58 : (⟨#[58]⟩ : ByteArray).size = 1 := rfl
    obtain ⟨l3, hl3⟩ : ∃ l3, l2 ++ 58 :: Lib.itoa up = l3 := ⟨_, rfl⟩
    have hc3 : str l2 ++ str (58 :: Lib.itoa up) = str l3 := by rw [str_add, hl3]
    have hs3 : (str l3).size ≤ 281474976702700 := by rw [← hc3, ByteArray.size_append]; omega
    have HL3 : Hid (l2 ++ (if up ≠ 0 then 58 :: Lib.itoa up else []) = l3) := by rw [HP.out]; exact hl3
    clear hl3
    obtain ⟨l4, hl4⟩ : ∃ l4, l3 ++ upa = l4 := ⟨_, rfl⟩
    have hc4 : str l3 ++ str upa = str l4 := by rw [str_add, hl4]
    have hs4 : (str l4).size ≤ 422212465054000 := by rw [← hc4, ByteArray.size_append]; omega
    have HL4 : Hid (l3 ++ upa = l4) := hl4
    clear hl4
    clear hport
    cases uhq
    · have HQ : Hid ((if false = true then 63 :: uq else []) = []) := rfl
      have HL5 : Hid (l4 ++ [] = l4) := List.append_nil _
      cases uhf
      · have HL6 : Hid (Url.str ⟨us, uh, up, upa, uq, uf, false, false⟩ = l4) := by
          show us ++ [58, 47, 47] ++ uh ++ (if up ≠ 0 then 58 :: Lib.itoa up else []) ++ upa ++ [] ++ [] = l4
          rw [HL2.out, HL3.out, HL4.out, List.append_nil]
          exact HL5.out
        go_enter Tryz.func14, Tryz.ntmps14
        go_wp2_with (go_at_call 43; refine (Text_str up _ h6 h7 hpow).mono ?_; rintro e w2 ⟨rfl, hb2⟩; have hb3 := bel hb0 hb2; have hU2 := UAt.below hU hb2; have d0 := hU2.cell 0; have d1 := hU2.cell 1; have d2 := hU2.cell 2; have d3 := hU2.cell 3; have d4 := hU2.cell 4; have d5 := hU2.cell 5; have d6 := hU2.cell 6; have d7 := hU2.cell 7; simp only [uCells] at d0 d1 d2 d3 d4 d5 d6 d7)
        go_ret
        exact ⟨by rw [HL6.out]; rfl, hb3⟩
      · have hc35 : (⟨#[35]⟩ : ByteArray) ++ str uf = str (35 :: uf) := str_add [35] _
        have hs35 : (str (35 :: uf)).size ≤ 140737488351233 := by rw [str_size, List.length_cons]; omega
        have hz35 : (⟨#[35]⟩ : ByteArray).size = 1 := rfl
        obtain ⟨l6, hl6⟩ : ∃ l6, l4 ++ 35 :: uf = l6 := ⟨_, rfl⟩
        have hc6 : str l4 ++ str (35 :: uf) = str l6 := by rw [str_add, hl6]
        have HL6 : Hid (Url.str ⟨us, uh, up, upa, uq, uf, false, true⟩ = l6) := by
          show us ++ [58, 47, 47] ++ uh ++ (if up ≠ 0 then 58 :: Lib.itoa up else []) ++ upa ++ [] ++ (35 :: uf) = l6
          rw [HL2.out, HL3.out, HL4.out, HL5.out]
          exact hl6
        clear hl6
        go_enter Tryz.func14, Tryz.ntmps14
        go_wp2_with (go_at_call 43; refine (Text_str up _ h6 h7 hpow).mono ?_; rintro e w2 ⟨rfl, hb2⟩; have hb3 := bel hb0 hb2; have hU2 := UAt.below hU hb2; have d0 := hU2.cell 0; have d1 := hU2.cell 1; have d2 := hU2.cell 2; have d3 := hU2.cell 3; have d4 := hU2.cell 4; have d5 := hU2.cell 5; have d6 := hU2.cell 6; have d7 := hU2.cell 7; simp only [uCells] at d0 d1 d2 d3 d4 d5 d6 d7)
        go_ret
        exact ⟨by rw [HL6.out]; rfl, hb3⟩
    · have HQ : Hid ((if true = true then 63 :: uq else []) = 63 :: uq) := rfl
      have hc63 : (⟨#[63]⟩ : ByteArray) ++ str uq = str (63 :: uq) := str_add [63] _
      have hs63 : (str (63 :: uq)).size ≤ 140737488351233 := by rw [str_size, List.length_cons]; omega
      have hz63 : (⟨#[63]⟩ : ByteArray).size = 1 := rfl
      obtain ⟨l5, hl5⟩ : ∃ l5, l4 ++ 63 :: uq = l5 := ⟨_, rfl⟩
      have hc5 : str l4 ++ str (63 :: uq) = str l5 := by rw [str_add, hl5]
      have hs5 : (str l5).size ≤ 562949953406000 := by rw [← hc5, ByteArray.size_append]; omega
      have HL5 : Hid (l4 ++ 63 :: uq = l5) := hl5
      clear hl5
      cases uhf
      · have HL6 : Hid (Url.str ⟨us, uh, up, upa, uq, uf, true, false⟩ = l5) := by
          show us ++ [58, 47, 47] ++ uh ++ (if up ≠ 0 then 58 :: Lib.itoa up else []) ++ upa ++ (63 :: uq) ++ [] = l5
          rw [HL2.out, HL3.out, HL4.out, List.append_nil]
          exact HL5.out
        go_enter Tryz.func14, Tryz.ntmps14
        go_wp2_with (go_at_call 43; refine (Text_str up _ h6 h7 hpow).mono ?_; rintro e w2 ⟨rfl, hb2⟩; have hb3 := bel hb0 hb2; have hU2 := UAt.below hU hb2; have d0 := hU2.cell 0; have d1 := hU2.cell 1; have d2 := hU2.cell 2; have d3 := hU2.cell 3; have d4 := hU2.cell 4; have d5 := hU2.cell 5; have d6 := hU2.cell 6; have d7 := hU2.cell 7; simp only [uCells] at d0 d1 d2 d3 d4 d5 d6 d7)
        go_ret
        exact ⟨by rw [HL6.out]; rfl, hb3⟩
      · have hc35 : (⟨#[35]⟩ : ByteArray) ++ str uf = str (35 :: uf) := str_add [35] _
        have hs35 : (str (35 :: uf)).size ≤ 140737488351233 := by rw [str_size, List.length_cons]; omega
        have hz35 : (⟨#[35]⟩ : ByteArray).size = 1 := rfl
        obtain ⟨l6, hl6⟩ : ∃ l6, l5 ++ 35 :: uf = l6 := ⟨_, rfl⟩
        have hc6 : str l5 ++ str (35 :: uf) = str l6 := by rw [str_add, hl6]
        have HL6 : Hid (Url.str ⟨us, uh, up, upa, uq, uf, true, true⟩ = l6) := by
          show us ++ [58, 47, 47] ++ uh ++ (if up ≠ 0 then 58 :: Lib.itoa up else []) ++ upa ++ (63 :: uq) ++ (35 :: uf) = l6
          rw [HL2.out, HL3.out, HL4.out, HL5.out]
          exact hl6
        clear hl6
        go_enter Tryz.func14, Tryz.ntmps14
        go_wp2_with (go_at_call 43; refine (Text_str up _ h6 h7 hpow).mono ?_; rintro e w2 ⟨rfl, hb2⟩; have hb3 := bel hb0 hb2; have hU2 := UAt.below hU hb2; have d0 := hU2.cell 0; have d1 := hU2.cell 1; have d2 := hU2.cell 2; have d3 := hU2.cell 3; have d4 := hU2.cell 4; have d5 := hU2.cell 5; have d6 := hU2.cell 6; have d7 := hU2.cell 7; simp only [uCells] at d0 d1 d2 d3 d4 d5 d6 d7)
        go_ret
        exact ⟨by rw [HL6.out]; rfl, hb3⟩
end Go.Proofs.YtnmkhbelmdokmaaGreatDoor
/- The contracts of package url's place, Bare, Origin, Tail. -/
namespace Go.Proofs.YtnmkhbelmdokmaaGreatDoor
open Go.RowKit
def placeU (u : Url.U) : Url.U := { Url.zero with sch := u.sch, host := u.host, port := u.port }
theorem zeroURL : (Tryz.prog.info? 25).map (fun i => (i.zero, i.size)) = some (some (uVal Url.zero), 8) := by kernel_rfl
theorem sizeURL : (Tryz.prog.info? 25).map (·.size) = some 8 := by kernel_rfl
theorem load_U {w : World} {b : Nat} {u : Url.U} (h : UAt w b u) : (loadVar 25 ⟨b, 0, none⟩).run Tryz.prog w = .ok (uVal u) w :=
  run_loadVar_row _ _ _ _ _ _ _ h Tryz.underlying25 rfl sizeURL
theorem ret_U {fn : Func} {p : Tmp} {Q : Ending → World → Prop} {a : Act} {w : World} {b : Nat} {u : Url.U} (hr : fn.results = #[.cell p 25]) (hd : a.defers = []) (hp : a.tmps.getD p undef = .pointer (some ⟨b, 0, none⟩)) (h : UAt w b u) (hQ : Q (.returned (uVal u)) w) :
    bodyPost Tryz.prog fn Q .ret a w := by
  refine bodyPost_ret (v := uVal u) ?_ hd hQ
  rw [results_cell hr, hp]
  simp [asAddr, Result.andThen, load_U h]
set_option maxHeartbeats 2000000 in
set_option maxRecDepth 100000 in
theorem place_any (u : Url.U) (w : World) :
    Calls Tryz.prog 44 #[uVal u] w fun e w' => e = .returned (uVal (placeU u)) ∧ Below w.heap.size w w' := by
  have hz := (zero_of_info zeroURL).1
  unfold uVal uCells at hz
  unfold uVal uCells
  go_enter Tryz.func44, Tryz.ntmps44
  go_wp2
  exact ret_U (u := placeU u) rfl rfl rfl (alloc_two _ _ _) ⟨rfl, ((Below.refl _ w).alloc (Nat.le_refl _) _).alloc (by simp) _⟩
set_option maxHeartbeats 2000000 in
set_option maxRecDepth 100000 in
theorem Bare_any (u : Url.U) (w : World) :
    Calls Tryz.prog 16 #[uVal u] w fun e w' => e = .returned (uVal (Url.bare u)) ∧ Below w.heap.size w w' := by
  have hz := (zero_of_info zeroURL).1
  unfold uVal uCells at hz
  unfold uVal uCells
  go_enter Tryz.func16, Tryz.ntmps16
  go_wp2
  exact ret_U (u := Url.bare u) rfl rfl rfl (alloc_two _ _ _) ⟨rfl, ((Below.refl _ w).alloc (Nat.le_refl _) _).alloc (by simp) _⟩
theorem str_zero : str Url.zero.path = str [] := rfl
theorem placeU_fits {u : Url.U} (h : Fits u) : Fits (placeU u) := ⟨h.1, h.2.1, Nat.zero_le _, Nat.zero_le _, Nat.zero_le _, h.2.2.2.2.2.1, h.2.2.2.2.2.2⟩
set_option maxHeartbeats 2000000 in
set_option maxRecDepth 100000 in
theorem Origin_any (u : Url.U) (w : World) (hE : Env w) (hu : Fits u) :
    Calls Tryz.prog 17 #[uVal u] w fun e w' => e = .returned (.string (str (Url.origin u))) ∧ Below w.heap.size w w' := by
  have hb0 : Below w.heap.size w (w.alloc (.cells (uCells u) 25)) := (Below.refl _ w).alloc (Nat.le_refl _) _
  have plc : ∀ W : World, Calls Tryz.prog 44 #[uVal u] W fun e w' => e = .returned (uVal (placeU u)) ∧ Below W.heap.size W w' := fun W => place_any u W
  have strc : ∀ W : World, Env W → Calls Tryz.prog 14 #[uVal (placeU u)] W fun e w' => e = .returned (.string (str (Url.origin u))) ∧ Below W.heap.size W w' := fun W h => String_any (placeU u) W h (placeU_fits hu)
  have hE0 := hE.below hb0
  unfold uVal uCells at plc
  unfold uCells at hb0 hE0
  unfold uVal uCells
  go_enter Tryz.func17, Tryz.ntmps17
  go_wp2_with (first
    | (go_at_call 44; refine (plc _).mono ?_; rintro e w1 ⟨rfl, hb1⟩)
    | (go_at_call 14; refine (strc _ (hE0.below hb1)).mono ?_; rintro e w2 ⟨rfl, hb2⟩))
  go_ret
  exact ⟨rfl, bel (bel hb0 hb1) hb2⟩
theorem storeAt_U {w : World} {b : Nat} {u v : Url.U} (h : UAt w b v) : (Instr.storeAt 25 (.pointer (some ⟨b, 0, none⟩)) (uVal u)).run Tryz.prog w = .ok () (w.setRow b (uCells u)) := by
  simp only [Instr.storeAt, Instr.sureAddr, Sem.run_bind, Sem.run_pure, Result.andThen]
  exact run_storeVar_row _ _ _ _ _ _ h sizeURL rfl (by simp [uCells, Value.oneCell'])
theorem wpList_store_U {ops : Array Oper} {rest : List Oper} {o : Oper} {a : Act} {w : World} {Q : Exit → Act → World → Prop} (x y : Operand) (ho : o.op = .store 25 x y) (hg : o.guard = none) (b : Nat) (u v : Url.U) (hx : a.eval x = .pointer (some ⟨b, 0, none⟩)) (hy : a.eval y = uVal u) (h : UAt w b v)
    (hn : wpList Tryz.prog ops Q rest (a.put o.dst undef) (w.setRow b (uCells u))) : wpList Tryz.prog ops Q (o :: rest) a w := by
  refine wpList_plain hg fun K hK => ?_
  unfold Oper.wp
  have e : (execOp a.eval o).run Tryz.prog w = .ok .skip (w.setRow b (uCells u)) := by
    unfold execOp
    rw [ho]
    simp only [hx, hy, Sem.run_bind, storeAt_U h, Result.andThen, Sem.run_pure]
  rw [e, Oper.upon_skip]
  exact hK _ _ hn
theorem loadAt_P {w : World} {b : Nat} {t : List UInt8} {u : Url.U} (h : IsP w b t u) : (Instr.loadAt 25 (.pointer (some ⟨b, 1, none⟩))).run Tryz.prog w = .ok (uVal u) w := by
  simp only [Instr.loadAt, Instr.sureAddr, Sem.run_bind, Sem.run_pure, Result.andThen]
  refine run_loadVar_mid w b 1 25 (uCells u).toList _ (fun j v hv => ?_) Tryz.underlying25 rfl sizeURL
  rw [h.cell (1 + j), ← Array.getElem?_toList]
  have e : (pCells t u).toList = .string (str t) :: (uCells u).toList := rfl
  rw [e, Nat.add_comm, List.getElem?_cons_succ]
  exact hv
theorem wpList_load_P {ops : Array Oper} {rest : List Oper} {o : Oper} {a : Act} {w : World} {Q : Exit → Act → World → Prop} (x : Operand) (ho : o.op = .load 25 x) (hg : o.guard = none) (b : Nat) (t : List UInt8) (u : Url.U) (hx : a.eval x = .pointer (some ⟨b, 1, none⟩)) (h : IsP w b t u)
    (hn : wpList Tryz.prog ops Q rest (a.put o.dst (uVal u)) w) : wpList Tryz.prog ops Q (o :: rest) a w := by
  refine wpList_plain hg fun K hK => ?_
  unfold Oper.wp
  have e : (execOp a.eval o).run Tryz.prog w = .ok (.value (uVal u)) w := by
    unfold execOp
    rw [ho]
    simp only [hx, Sem.run_bind, loadAt_P h, Result.andThen, Sem.run_pure]
  rw [e, Oper.upon_value]
  exact hK _ _ hn
end Go.Proofs.YtnmkhbelmdokmaaGreatDoor
/- The contracts of package url's Parse and Tail. -/
namespace Go.Proofs.YtnmkhbelmdokmaaGreatDoor
open Go.RowKit
theorem zeroP : (Tryz.prog.info? 47).map (fun i => (i.zero, i.size)) = some (some (.agg (pCells [] Url.zero)), 9) := by kernel_rfl
theorem zeroR : (Tryz.prog.info? 45).map (fun i => (i.zero, i.size)) = some (some (.agg #[.string (str [])]), 1) := by kernel_rfl
theorem ret_U2 {fn : Func} {p q : Tmp} {Q : Ending → World → Prop} {a : Act} {w : World} {b : Nat} {u : Url.U} {x : Value} (hr : fn.results = #[.cell p 25, .tmp q]) (hd : a.defers = []) (hp : a.tmps.getD p undef = .pointer (some ⟨b, 0, none⟩)) (hx : a.tmps.getD q undef = x) (h : UAt w b u) (hQ : Q (.returned (.tuple #[uVal u, x])) w) :
    bodyPost Tryz.prog fn Q .ret a w := by
  refine bodyPost_ret (v := .tuple #[uVal u, x]) ?_ hd hQ
  rw [results_cell_tmp hr, hp, hx]
  simp [asAddr, Result.andThen, load_U h]
theorem setRow_U {w : World} {b : Nat} {u v : Url.U} (h : UAt w b u) : UAt (w.setRow b (uCells v)) b v := setRow_new h
theorem whole_len (l : List UInt8) : (Url.clean l).length ≤ l.length := Url.clean_len l
theorem schR_len (c : List UInt8) : (Url.schR c).length ≤ c.length := by
  unfold Url.schR
  rw [List.length_drop]
  have := Url.rest_len [58] c
  omega
theorem placeR_len (r : List UInt8) : (Url.placeR r).length ≤ r.length := by
  unfold Url.placeR
  have h1 := Url.rest_len [47, 92, 63, 35] (Url.unsl r)
  have h2 : (Url.unsl r).length ≤ r.length := (List.dropWhile_sublist _).length_le
  omega
theorem path_len (l : List UInt8) : (Url.path l).length ≤ 6 * l.length + 2 := by
  have := Url.kept_size l
  unfold Url.path
  rw [List.length_cons]
  omega
theorem behind_len (t : List UInt8) : (Url.behind t).length ≤ t.length := by
  have h1 := Url.rest_len [63, 35] t
  have h2 := Url.rest_len [35] ((Url.rest [63, 35] t).drop 1)
  rw [List.length_drop] at h2
  unfold Url.behind
  split <;> omega
theorem tail_fits {u : Url.U} {t : List UInt8} (h1 : u.sch.length ≤ 100000000) (h2 : u.host.length ≤ 100000000) (h3 : -9223372036854775808 ≤ u.port) (h4 : u.port ≤ 9223372036854775807) (hz : t.length ≤ 10000000) : Fits (Url.tail u t) := by
  have p1 := path_len (Url.upto [63, 35] t)
  have p2 := Url.upto_len [63, 35] t
  have q1 := Url.rest_len [63, 35] t
  have q2 := Url.upto_len [35] ((Url.rest [63, 35] t).drop 1)
  rw [List.length_drop] at q2
  have q3 := Pct.mark_len Url.freeQ (Url.upto [35] ((Url.rest [63, 35] t).drop 1))
  have f1 := behind_len t
  have f2 := Pct.mark_len Url.freeF ((Url.behind t).drop 1)
  rw [List.length_drop] at f2
  refine ⟨Nat.le_trans h1 (by decide), Nat.le_trans h2 (by decide), ?_, ?_, ?_, h3, h4⟩
  · show (Url.path (Url.upto [63, 35] t)).length ≤ _
    omega
  · show (if Url.hasB 63 (Url.rest [63, 35] t) = true then Pct.mark Url.freeQ (Url.upto [35] ((Url.rest [63, 35] t).drop 1)) else []).length ≤ _
    split
    · omega
    · simp
  · show (if Url.hasB 35 (Url.behind t) = true then Pct.mark Url.freeF ((Url.behind t).drop 1) else []).length ≤ _
    split
    · omega
    · simp
theorem host_len (l : List UInt8) : (Url.host l).length ≤ l.length := by
  unfold Url.host
  split
  · exact hostT_len l
  · simp
theorem port_bd (s d : List UInt8) : Url.portE d = 0 → 0 ≤ Url.port s d ∧ Url.port s d ≤ 65535 := by
  intro h
  unfold Url.portE at h
  unfold Url.port
  by_cases hd : d = []
  · rw [if_pos hd]; omega
  · rw [if_neg hd]
    have hn : Asc.numErr d 65535 = 0 := by
      by_cases hn : Asc.numErr d 65535 = 0
      · exact hn
      · rw [if_neg (fun h => h.elim hd hn)] at h
        omega
    have hrb := Asc.read_back d 65535 (by decide) hn
    split
    · omega
    · exact ⟨hrb.1, hrb.2.1⟩
theorem sch_len (c : List UInt8) : (Url.sch c).length ≤ c.length := by
  unfold Url.sch
  rw [lower_len']
  exact Url.upto_len _ _
theorem nameT_len (r : List UInt8) : (Url.nameT r).length ≤ r.length := by
  unfold Url.nameT Url.place
  have h1 := Url.upto_len [58] (Url.upto [47, 92, 63, 35] (Url.unsl r))
  have h2 := Url.upto_len [47, 92, 63, 35] (Url.unsl r)
  have h3 : (Url.unsl r).length ≤ r.length := (List.dropWhile_sublist _).length_le
  omega
theorem placeE_port (r : List UInt8) (h : Url.placeE r = 0) : Url.portE (Url.portT r) = 0 := by
  unfold Url.placeE at h
  split at h
  · omega
  · split at h
    · omega
    · split at h
      · rename_i h1; exact absurd h h1
      · exact h
theorem whole_fits (c : List UInt8) (hz : c.length ≤ 10000000) (hp : Url.placeE (Url.schR c) = 0) : Fits (Url.whole c) := by
  have h1 := sch_len c
  have h2 := schR_len c
  have h3 := host_len (Url.nameT (Url.schR c))
  have h4 := nameT_len (Url.schR c)
  have h5 := port_bd (Url.sch c) _ (placeE_port _ hp)
  have h6 := placeR_len (Url.schR c)
  refine tail_fits ?_ ?_ ?_ ?_ (by omega)
  · show (Url.sch c).length ≤ _
    omega
  · show (Url.host (Url.nameT (Url.schR c))).length ≤ _
    omega
  · show _ ≤ Url.port (Url.sch c) (Url.portT (Url.schR c))
    omega
  · show Url.port (Url.sch c) (Url.portT (Url.schR c)) ≤ _
    omega
theorem parse_err {l : List UInt8} (h : ¬ Url.perr l = 0) : Url.parse l = Url.zero := if_neg h
theorem parse_yes {l : List UInt8} (h : Url.perr l = 0) : Url.parse l = Url.whole (Url.clean l) := if_pos h
set_option maxHeartbeats 2000000 in
set_option maxRecDepth 100000 in
theorem Parse_any (l : List UInt8) (w : World) (hE : Env w) (hz : l.length ≤ 10000000) :
    Calls Tryz.prog 11 #[.string (str l)] w fun e w' => e = .returned (.tuple #[uVal (Url.parse l), .int .i64 (Url.perr l)]) ∧ Below w.heap.size w w' := by
  have hzu := (zero_of_info zeroURL).1
  have hzp := (zero_of_info zeroP).1
  have hzr := (zero_of_info zeroR).1
  have hcl := Url.clean_len l
  have hb0 : Below w.heap.size w (w.alloc (.cells (uCells Url.zero) 25)) := (Below.refl _ w).alloc (Nat.le_refl _) _
  have hE0 := hE.below hb0
  have hU0 : UAt (w.alloc (.cells (uCells Url.zero) 25)) w.heap.size Url.zero := heap_alloc_last _ _
  unfold uVal at hzu
  unfold pCells at hzp
  have HPE : Hid (Url.perr l = if 2048 < (Url.clean l).length then 5 else if Url.schE (Url.clean l) ≠ 0 then Url.schE (Url.clean l) else if Url.placeE (Url.schR (Url.clean l)) ≠ 0 then Url.placeE (Url.schR (Url.clean l)) else if 2048 < (Url.str (Url.whole (Url.clean l))).length then 5 else 0) := rfl
  have HPY : Hid (Url.perr l = 0 → Url.parse l = Url.whole (Url.clean l)) := parse_yes
  have HPN : Hid (¬ Url.perr l = 0 → Url.parse l = Url.zero) := parse_err
  have cleanc : ∀ W : World, Env W → Calls Tryz.prog 31 #[.string (str l)] W fun e w' => e = .returned (.string (str (Url.clean l))) ∧ Below W.heap.size W w' := fun W h => Clean_any l W h (by omega)
  generalize Url.clean l = c at hcl HPE HPY cleanc
  generalize Url.perr l = pe at HPE HPY HPN ⊢
  generalize Url.parse l = pu at HPY HPN ⊢
  have hsz := str_size c
  go_enter Tryz.func11, Tryz.ntmps11
  go_upto_region 2 with (go_at_call 31; refine (cleanc _ hE0).mono ?_; rintro e w1 ⟨rfl, hb1⟩)
  have hU1 := hU0.below hb1
  have hb1' := bel hb0 hb1
  have hE1 := hE0.below hb1
  clear hb0 hE0 hU0 hb1 cleanc
  have hn1 := hb1'.size
  by_cases hlong : 2048 < c.length
  · have HE : Hid (pe = 5) := HPE.out.trans (if_pos hlong)
    have hl2 : (2048 : Int) < (c.length : Int) := by omega
    clear hlong
    go_wp2_with (refine wpList_store_U _ _ rfl rfl w.heap.size Url.zero Url.zero rfl rfl hU1 ?_)
    refine ret_U2 (u := Url.zero) rfl rfl rfl rfl (setRow_U hU1) ⟨?_, below_setRow hb1' (Nat.le_refl _) _⟩
    rw [HPN.out (by rw [HE.out]; decide), HE.out]
    rfl
  · have HE : Hid _ := HPE.out.trans (if_neg hlong)
    have hl2 : ¬ (2048 : Int) < (c.length : Int) := by omega
    clear HPE
    go_upto_region 5 with fail
    have hp2 : IsP (w1.alloc (.cells (pCells c Url.zero) 47)) w1.heap.size c Url.zero := heap_alloc_last _ _
    have hb2 : Below w1.heap.size w1 (w1.alloc (.cells (pCells c Url.zero) 47)) := (Below.refl _ w1).alloc (Nat.le_refl _) _
    unfold pCells at hp2 hb2
    generalize w1.alloc (.cells #[.string (str c), .string (str Url.zero.sch), .string (str Url.zero.host), .int .i64 Url.zero.port, .string (str Url.zero.path), .string (str Url.zero.query), .string (str Url.zero.frag), .bool Url.zero.hq, .bool Url.zero.hf] 47) = w2 at hp2 hb2 ⊢
    have hG : ∀ W : World, Below w1.heap.size w1 W → Env W := fun W h => hE1.below h
    have hUG : ∀ W : World, Below w1.heap.size w1 W → UAt W w.heap.size Url.zero := fun W h => hU1.below h
    have hBG : ∀ W : World, Below w1.heap.size w1 W → Below w.heap.size w W := fun W h => bel hb1' h
    clear hU1 hb1' hE1
    generalize w1.heap.size = b at hp2 hb2 hG hUG hBG hn1 ⊢
    have call1 := readScheme_any c Url.zero b w2 hp2 (by omega)
    have hrl := schR_len c
    by_cases hs : Url.schE c = 0
    · have HE2 : Hid _ := HE.out.trans (if_neg (fun h => h hs))
      rw [hs] at call1
      clear hs HE
      go_upto_region 8 with (go_at_call 32; refine call1.mono ?_; rintro e w3 ⟨rfl, hp3, hb3⟩)
      replace hp3 := hp3 trivial
      replace hb3 := hb2.trans hb3
      clear call1 hp2 hb2
      have call2 := readPlace_any (Url.schR c) { Url.zero with sch := Url.sch c } b w3 hp3 (hG _ hb3) rfl (by omega) (fun _ W h => hG W (hb3.trans h))
      have hpl := placeR_len (Url.schR c)
      by_cases hs : Url.placeE (Url.schR c) = 0
      · have HE3 : Hid _ := HE2.out.trans (if_neg (fun h => h hs))
        have HFit := whole_fits c (by omega) hs
        rw [hs] at call2
        clear hs HE2
        go_upto_region 11 with (go_at_call 33; refine call2.mono ?_; rintro e w4 ⟨rfl, hp4, hb4⟩)
        replace hp4 := hp4 trivial
        replace hb4 := hb3.trans hb4
        clear call2 hp3 hb3
        have call3 := readTail_any (Url.placeR (Url.schR c)) _ b w4 hp4 (hG _ hb4) rfl rfl rfl rfl (by omega) (fun _ W h => hG W (hb4.trans h))
        go_upto_region 12 with (go_at_call 34; refine call3.mono ?_; rintro e w5 ⟨rfl, ⟨t5, hp5⟩, hb5⟩)
        replace hb5 := hb4.trans hb5
        have hp5 : IsP w5 b t5 (Url.whole c) := hp5
        clear call3 hp4 hb4
        have call4 := String_any (Url.whole c) w5 (hG _ hb5) HFit
        generalize Url.whole c = u at hp5 HE3 HPY HFit call4
        have hs5 := str_size (Url.str u)
        have hp5lt := hp5.lt
        by_cases hs : 2048 < (Url.str u).length
        · have HE4 : Hid (pe = 5) := HE3.out.trans (if_pos hs)
          have hs2 : (2048 : Int) < ((Url.str u).length : Int) := by omega
          clear hs
          go_wp2_with (first
            | (refine wpList_load_P _ rfl rfl b t5 u rfl hp5 ?_)
            | (go_at_call 14; refine call4.mono ?_; rintro e w6 ⟨rfl, hb6⟩; have hb6' := hb5.trans (belowP hb6 hp5lt))
            | (refine wpList_store_U _ _ rfl rfl w.heap.size Url.zero Url.zero rfl rfl (hUG _ hb6') ?_))
          refine ret_U2 (u := Url.zero) rfl rfl rfl rfl (setRow_U (hUG _ hb6')) ⟨?_, below_setRow (hBG _ hb6') (Nat.le_refl _) _⟩
          rw [HPN.out (by rw [HE4.out]; decide), HE4.out]
          rfl
        · have HE4 : Hid (pe = 0) := HE3.out.trans (if_neg hs)
          have hs2 : ¬ (2048 : Int) < ((Url.str u).length : Int) := by omega
          clear hs
          go_wp2_with (first
            | (refine wpList_load_P _ rfl rfl b t5 u rfl hp5 ?_)
            | (go_at_call 14; refine call4.mono ?_; rintro e w6 ⟨rfl, hb6⟩; have hb6' := hb5.trans (belowP hb6 hp5lt); have hp6 := hp5.below hb6)
            | (refine wpList_load_P _ rfl rfl b t5 u rfl hp6 ?_)
            | (refine wpList_store_U _ _ rfl rfl w.heap.size u Url.zero rfl rfl (hUG _ hb6') ?_))
          refine ret_U2 (u := u) rfl rfl rfl rfl (setRow_U (hUG _ hb6')) ⟨?_, below_setRow (hBG _ hb6') (Nat.le_refl _) _⟩
          rw [HPY.out HE4.out, HE4.out]
          rfl
      · have HE3 : Hid (pe = Url.placeE (Url.schR c)) := HE2.out.trans (if_pos hs)
        have HS : Hid (¬ Url.placeE (Url.schR c) = 0) := hs
        have hs2 : (Url.placeE (Url.schR c) != 0) = true := by rw [bne_iff_ne]; exact hs
        clear hs HE2
        go_wp2_with (first
          | (go_at_call 33; refine call2.mono ?_; rintro e w4 ⟨rfl, hp4, hb4⟩; have hb4' := hb3.trans hb4; clear hp4)
          | (refine wpList_store_U _ _ rfl rfl w.heap.size Url.zero Url.zero rfl rfl (hUG _ hb4') ?_))
        refine ret_U2 (u := Url.zero) rfl rfl rfl rfl (setRow_U (hUG _ hb4')) ⟨?_, below_setRow (hBG _ hb4') (Nat.le_refl _) _⟩
        rw [HPN.out (by rw [HE3.out]; exact HS.out), HE3.out]
        rfl
    · have HE2 : Hid (pe = Url.schE c) := HE.out.trans (if_pos hs)
      have HS : Hid (¬ Url.schE c = 0) := hs
      have hs2 : (Url.schE c != 0) = true := by rw [bne_iff_ne]; exact hs
      clear hs HE
      go_wp2_with (first
        | (go_at_call 32; refine call1.mono ?_; rintro e w3 ⟨rfl, hp3, hb3⟩; have hb3' := hb2.trans hb3; clear hp3)
        | (refine wpList_store_U _ _ rfl rfl w.heap.size Url.zero Url.zero rfl rfl (hUG _ hb3') ?_))
      refine ret_U2 (u := Url.zero) rfl rfl rfl rfl (setRow_U (hUG _ hb3')) ⟨?_, below_setRow (hBG _ hb3') (Nat.le_refl _) _⟩
      rw [HPN.out (by rw [HE2.out]; exact HS.out), HE2.out]
      rfl
set_option maxHeartbeats 2000000 in
set_option maxRecDepth 100000 in
theorem Tail_any (u : Url.U) (l : List UInt8) (w : World) (hE : Env w) (hz : l.length ≤ 10000000) :
    Calls Tryz.prog 48 #[uVal u, .string (str l)] w fun e w' => e = .returned (uVal (Url.tail u l)) ∧ Below w.heap.size w w' := by
  have hzu := (zero_of_info zeroURL).1
  have hzp := (zero_of_info zeroP).1
  have hzr := (zero_of_info zeroR).1
  have hb0 : Below w.heap.size w ((w.alloc (.cells (uCells u) 25)).alloc (.cells (uCells Url.zero) 25)) := ((Below.refl _ w).alloc (Nat.le_refl _) _).alloc (by simp) _
  have hU0 : UAt ((w.alloc (.cells (uCells u) 25)).alloc (.cells (uCells Url.zero) 25)) (w.heap.size + 1) Url.zero := alloc_two _ _ _
  have plc : ∀ W : World, Calls Tryz.prog 44 #[uVal u] W fun e w' => e = .returned (uVal (placeU u)) ∧ Below W.heap.size W w' := fun W => place_any u W
  unfold uVal at hzu
  unfold pCells at hzp
  unfold uVal uCells at plc
  have hE0 := hE.below hb0
  obtain ⟨v, hv⟩ : ∃ v, Url.tail u l = v := ⟨_, rfl⟩
  have HT : Hid (Url.tail (placeU u) l = v) := hv
  rw [hv]
  clear hv
  unfold uVal
  unfold uCells at hzu hb0 hU0 hE0 ⊢
  go_enter Tryz.func48, Tryz.ntmps48
  go_wp2_with (first
    | (go_at_call 44; refine (plc _).mono ?_; rintro e w1 ⟨rfl, hb1⟩)
    | fail)
  have hU1 : UAt w1 (w.heap.size + 1) Url.zero := UAt.below hU0 hb1
  have hb1' := bel hb0 hb1
  have hE1 := hE0.below hb1
  have hl1 := (Array.getElem?_eq_some_iff.1 hU1).1
  have hp2 : IsP (w1.alloc (.cells (pCells l (placeU u)) 47)) w1.heap.size l (placeU u) := heap_alloc_last _ _
  have hb2 : Below w1.heap.size w1 (w1.alloc (.cells (pCells l (placeU u)) 47)) := (Below.refl _ w1).alloc (Nat.le_refl _) _
  unfold pCells at hp2 hb2
  generalize w1.alloc (.cells #[.string (str l), .string (str (placeU u).sch), .string (str (placeU u).host), .int .i64 (placeU u).port, .string (str (placeU u).path), .string (str (placeU u).query), .string (str (placeU u).frag), .bool (placeU u).hq, .bool (placeU u).hf] 47) = w2 at hp2 hb2 ⊢
  have call3 := readTail_any l (placeU u) w1.heap.size w2 hp2 (hE1.below hb2) rfl rfl rfl rfl (by omega) (fun _ W h => hE1.below (hb2.trans h))
  have hUG : ∀ W : World, Below w1.heap.size w1 W → UAt W (w.heap.size + 1) Url.zero := fun W h => hU1.below h
  have hBG : ∀ W : World, Below w1.heap.size w1 W → Below w.heap.size w W := fun W h => bel hb1' h
  clear hU0 hU1 hb0 hb1 hE0 hE1 hE hb1'
  generalize w1.heap.size = b at hp2 hb2 call3 hUG hBG hl1 ⊢
  go_at_call 34
  refine call3.mono ?_
  rintro e w3 ⟨rfl, ⟨t3, hp3⟩, hb3⟩
  replace hb3 := hb2.trans hb3
  clear call3 hp2 hb2
  have hp3 : IsP w3 b t3 v := by rw [← HT.out]; exact hp3
  go_wp2_with (first
    | (refine wpList_load_P _ rfl rfl b t3 v rfl hp3 ?_)
    | (refine wpList_store_U _ _ rfl rfl (w.heap.size + 1) v Url.zero rfl rfl (hUG _ hb3) ?_))
  exact ret_U (u := v) rfl rfl rfl (setRow_U (hUG _ hb3)) ⟨rfl, below_setRow (hBG _ hb3) (by omega) _⟩
end Go.Proofs.YtnmkhbelmdokmaaGreatDoor
/- Two URLs held against each other; the contract of url.May. -/
namespace Go.Proofs.YtnmkhbelmdokmaaGreatDoor
open Go.RowKit
theorem str_beq (a b : List UInt8) : ((str a).toList == (str b).toList) = (a == b) := by rw [str_list, str_list]
theorem fields_of {P : Program} {t : TypeId} {fs : Array Field} (h : P.underlying t = some (.struct fs)) : P.fieldsOf t = fs := by unfold Program.fieldsOf; rw [h]
theorem part_plain {P : Program} {t : TypeId} {xs : Array Value} {o : Nat} {v : Value} {w : World} (ht : ∀ W : World, (isAgg t).run P W = .ok false W) (hv : xs[o]? = some v) : (part t xs o).run P w = .ok v w := by
  unfold part
  simp only [Sem.run_bind, ht, Result.andThen, Bool.false_eq_true, if_false, hv, Sem.run_pure]
theorem eqF_step {P : Program} {d : Nat} {xs ys : Array Value} {f : Field} {fs : List Field} {a b : Value} {r : Bool} {w : World} (hn : f.name ≠ "_") (ha : (part f.type xs f.offset).run P w = .ok a w) (hb : (part f.type ys f.offset).run P w = .ok b w) (he : (Op.equalIn d f.type a b).run P w = .ok r w) :
    (Op.eqFields d xs ys (f :: fs)).run P w = if r = true then (Op.eqFields d xs ys fs).run P w else .ok false w := by
  rw [Op.eqFields, if_pos hn]
  simp only [Sem.run_bind, ha, hb, he, Result.andThen]
  cases r
  · rfl
  · rfl
set_option maxHeartbeats 1000000 in
set_option maxRecDepth 100000 in
theorem eql_U (u v : Url.U) (w : World) : (binOp .eql 25 (.agg (uCells u)) (.agg (uCells v))).run Tryz.prog w = .ok (.bool (Url.same u v)) w := by
  have hf := fields_of Tryz.underlying25
  have ta : ∀ W : World, (isAgg 9).run Tryz.prog W = .ok false W := run_isAgg_plain Tryz.underlying9 rfl
  have tb : ∀ W : World, (isAgg 3).run Tryz.prog W = .ok false W := run_isAgg_plain Tryz.underlying3 rfl
  have tc : ∀ W : World, (isAgg 4).run Tryz.prog W = .ok false W := run_isAgg_plain Tryz.underlying4 rfl
  have es : ∀ a b : List UInt8, (Op.equalIn 9999 9 (.string (str a)) (.string (str b))).run Tryz.prog w = .ok (a == b) w := fun a b => by
    rw [run_equalIn_string w 9998 9 _ _ Tryz.underlying9, str_beq]
  have ei : ∀ a b : Int, (Op.equalIn 9999 3 (.int .i64 a) (.int .i64 b)).run Tryz.prog w = .ok (a == b) w := fun a b => run_equalIn_int w 9998 3 .i64 .i64 a b Tryz.underlying3
  have eb : ∀ a b : Bool, (Op.equalIn 9999 4 (.bool a) (.bool b)).run Tryz.prog w = .ok (a == b) w := fun a b => run_equalIn_bool' w 9998 4 a b Tryz.underlying4
  rw [run_eql_struct, run_equalIn_agg w 9999 25 _ _ (by rw [hf]; exact Tryz.underlying25) (by kernel_rfl), hf]
  show ((Op.eqFields 9999 (uCells u) (uCells v) [_, _, _, _, _, _, _, _]).run Tryz.prog w).andThen _ = _
  rw [eqF_step (by decide) (part_plain ta rfl) (part_plain ta rfl) (es _ _), eqF_step (by decide) (part_plain ta rfl) (part_plain ta rfl) (es _ _), eqF_step (by decide) (part_plain tb rfl) (part_plain tb rfl) (ei _ _), eqF_step (by decide) (part_plain ta rfl) (part_plain ta rfl) (es _ _), eqF_step (by decide) (part_plain ta rfl) (part_plain ta rfl) (es _ _), eqF_step (by decide) (part_plain ta rfl) (part_plain ta rfl) (es _ _), eqF_step (by decide) (part_plain tc rfl) (part_plain tc rfl) (eb _ _), eqF_step (by decide) (part_plain tc rfl) (part_plain tc rfl) (eb _ _)]
  unfold Url.same
  generalize (u.sch == v.sch) = b1
  generalize (u.host == v.host) = b2
  generalize (u.port == v.port) = b3
  generalize (u.path == v.path) = b4
  generalize (u.query == v.query) = b5
  generalize (u.frag == v.frag) = b6
  generalize (u.hq == v.hq) = b7
  generalize (u.hf == v.hf) = b8
  cases b1
  · rfl
  cases b2
  · rfl
  cases b3
  · rfl
  cases b4
  · rfl
  cases b5
  · rfl
  cases b6
  · rfl
  cases b7
  · rfl
  cases b8
  · rfl
  · rfl
theorem guardU : Tryz.prog.eqGuardType Tryz.prog.depth 25 = false := by kernel_rfl
set_option maxHeartbeats 2000000 in
set_option maxRecDepth 100000 in
theorem May_any (u : Url.U) (w : World) (hE : Env w) (hu : Fits u) (hz : (Url.str u).length ≤ 10000000) :
    Calls Tryz.prog 15 #[uVal u] w fun e w' => e = .returned (.bool (Url.may u)) ∧ Below w.heap.size w w' := by
  have hzu := (zero_of_info zeroURL).1
  have hgd := guardU
  have hb0 : Below w.heap.size w (w.alloc (.cells (uCells u) 25)) := (Below.refl _ w).alloc (Nat.le_refl _) _
  have hU0 : UAt (w.alloc (.cells (uCells u) 25)) w.heap.size u := heap_alloc_last _ _
  have hE0 := hE.below hb0
  have strc : ∀ W : World, Env W → Calls Tryz.prog 14 #[uVal u] W fun e w' => e = .returned (.string (str (Url.str u))) ∧ Below W.heap.size W w' := fun W h => String_any u W h hu
  have parc : ∀ W : World, Env W → Calls Tryz.prog 11 #[.string (str (Url.str u))] W fun e w' => e = .returned (.tuple #[uVal (Url.parse (Url.str u)), .int .i64 (Url.perr (Url.str u))]) ∧ Below W.heap.size W w' := fun W h => Parse_any _ W h hz
  have HM : Hid (Url.may u = (decide (Url.perr (Url.str u) = 0) && Url.same (Url.parse (Url.str u)) u)) := rfl
  generalize Url.parse (Url.str u) = p at parc HM
  generalize Url.perr (Url.str u) = pe at parc HM
  generalize Url.str u = s at strc parc
  have heq : ∀ W : World, (binOp .eql 25 (.agg (uCells p)) (.agg (uCells u))).run Tryz.prog W = .ok (.bool (Url.same p u)) W := fun W => eql_U p u W
  unfold uVal at hzu strc parc
  unfold uVal
  unfold uCells at hzu hb0 hU0 hE0 strc parc heq ⊢
  by_cases hp : pe = 0
  · subst hp
    go_enter Tryz.func15, Tryz.ntmps15
    go_wp2_with (first
      | (go_at_call 14; refine (strc _ hE0).mono ?_; rintro e w1 ⟨rfl, hb1⟩; have hU1 := UAt.below hU0 hb1; have hE1 := hE0.below hb1; have hb1' := bel hb0 hb1)
      | (go_at_call 11; refine (parc _ hE1).mono ?_; rintro e w2 ⟨rfl, hb2⟩; have hU2 := UAt.below hU1 hb2; have hb2' := bel hb1' hb2; have hl2 := (Array.getElem?_eq_some_iff.1 hU2).1; have c0 := hU2.cell 0; have c1 := hU2.cell 1; have c2 := hU2.cell 2; have c3 := hU2.cell 3; have c4 := hU2.cell 4; have c5 := hU2.cell 5; have c6 := hU2.cell 6; have c7 := hU2.cell 7; simp only [uCells] at c0 c1 c2 c3 c4 c5 c6 c7))
    go_ret
    exact ⟨by rw [HM.out]; rfl, hb2'.alloc (by omega) _⟩
  · have hp2 : (pe == 0) = false := beq_eq_false_iff_ne.2 hp
    have HM2 : Hid (Url.may u = false) := by
      show _ = _
      rw [HM.out, decide_eq_false hp]
      rfl
    clear hp
    go_enter Tryz.func15, Tryz.ntmps15
    go_wp2_with (first
      | (go_at_call 14; refine (strc _ hE0).mono ?_; rintro e w1 ⟨rfl, hb1⟩; have hE1 := hE0.below hb1; have hb1' := bel hb0 hb1)
      | (go_at_call 11; refine (parc _ hE1).mono ?_; rintro e w2 ⟨rfl, hb2⟩; have hb2' := bel hb1' hb2; have hl2 := hb2'.size))
    go_ret
    exact ⟨by rw [HM2.out]; rfl, hb2'.alloc (by omega) _⟩
end Go.Proofs.YtnmkhbelmdokmaaGreatDoor
/- The contracts of the law's own long and alive. -/
namespace Go.Proofs.YtnmkhbelmdokmaaGreatDoor
open Go.RowKit
theorem UAt.cells {w : World} {b : Nat} {u : Url.U} (h : UAt w b u) : w.cell? ⟨b, 0, none⟩ = some (.string (str u.sch)) ∧ w.cell? ⟨b, 1, none⟩ = some (.string (str u.host)) ∧ w.cell? ⟨b, 2, none⟩ = some (.int .i64 u.port) ∧ w.cell? ⟨b, 3, none⟩ = some (.string (str u.path)) ∧ w.cell? ⟨b, 4, none⟩ = some (.string (str u.query)) ∧ w.cell? ⟨b, 5, none⟩ = some (.string (str u.frag)) ∧ w.cell? ⟨b, 6, none⟩ = some (.bool u.hq) ∧ w.cell? ⟨b, 7, none⟩ = some (.bool u.hf) :=
  ⟨h.cell 0, h.cell 1, h.cell 2, h.cell 3, h.cell 4, h.cell 5, h.cell 6, h.cell 7⟩
def longU (l : List UInt8) : Bool := decide (2200 < l.length)
theorem longU_yes {l : List UInt8} (h : 2200 < l.length) : longU l = true := decide_eq_true h
theorem longU_no {l : List UInt8} (h : ¬ 2200 < l.length) : longU l = false := decide_eq_false h
theorem long_any (l : List UInt8) (w : World) :
    Calls Tryz.prog 9 #[.string (str l)] w fun e w' => e = .returned (.bool (longU l)) ∧ w' = w := by
  have hsz := str_size l
  go_enter Tryz.func9, Tryz.ntmps9
  go_wp2
  go_ret
  exact ⟨ret_bool (by unfold longU; rw [decide_eq_decide]; omega), rfl⟩
def probeV : Array Value := #[.string ⟨#[104, 116, 116, 112]⟩, .string ⟨#[101, 120, 46, 111, 114, 103]⟩, .int .i64 0, .string ⟨#[47, 97, 47, 99]⟩, .string ⟨#[120]⟩, .string ⟨#[121]⟩, .bool true, .bool true]
theorem probeV_eq : uVal Url.probeU = .agg probeV := rfl
theorem probe_fits : Fits Url.probeU := by
  unfold Fits Url.probeU Url.http
  decide
set_option maxHeartbeats 2000000 in
set_option maxRecDepth 100000 in
theorem alive_any (w : World) (hE : Env w) :
    Calls Tryz.prog 10 #[] w fun e w' => e = .returned (.bool true) ∧ Below w.heap.size w w' := by
  have hzu := (zero_of_info zeroURL).1
  have hgd := guardU
  have parc : Calls Tryz.prog 11 #[.string ⟨#[72, 84, 84, 80, 58, 47, 47, 69, 120, 46, 111, 114, 103, 58, 56, 48, 47, 97, 47, 46, 47, 98, 47, 46, 46, 47, 99, 63, 120, 35, 121]⟩] w fun e w' => e = .returned (.tuple #[.agg probeV, .int .i64 0]) ∧ Below w.heap.size w w' := by
    have := Parse_any Url.probe w hE (by decide)
    rw [Url.probe_yes.1, Url.probe_yes.2, probeV_eq] at this
    exact this
  have strc : ∀ W : World, Env W → Calls Tryz.prog 14 #[.agg probeV] W fun e w' => e = .returned (.string ⟨#[104, 116, 116, 112, 58, 47, 47, 101, 120, 46, 111, 114, 103, 47, 97, 47, 99, 63, 120, 35, 121]⟩) ∧ Below W.heap.size W w' := fun W h => String_any Url.probeU W h probe_fits
  have heq : ∀ W : World, (binOp .eql 25 (.agg probeV) (.agg probeV)).run Tryz.prog W = .ok (.bool true) W := fun W => by
    have := eql_U Url.probeU Url.probeU W
    rw [Url.same_self] at this
    exact this
  unfold uVal uCells at hzu
  unfold probeV at parc strc heq
  go_enter Tryz.func10, Tryz.ntmps10
  go_wp2_with (first
    | (go_at_call 11; refine parc.mono ?_; rintro e w1 ⟨rfl, hb1⟩; have hE1 := hE.below hb1; have hn1 := hb1.size)
    | (go_at_call 14; refine (strc _ (hE1.below ((Below.refl _ w1).alloc (Nat.le_refl _) _))).mono ?_; rintro e w2 ⟨rfl, hb2⟩))
  go_ret
  exact ⟨rfl, bel (hb1.alloc hn1 _) hb2⟩
end Go.Proofs.YtnmkhbelmdokmaaGreatDoor
/- What the frames of a seat share whose rows list strconv's, math/bits' and unicode/utf8's tables: a start at which they lie, and what the walks are told of them. -/
namespace Go.Proofs.YtnmkhbelmdokmaaGreatDoor
open Go.ChangeShapes Go.WideShapes Go.ChangeAt Go.WideMaps Go.WideElems Go.RowKit
def laidAll : List (String × DataW Unit) := [("math/bits.deBruijn32tab", Rows.laid_math_bits_deBruijn32tab), ("math/bits.deBruijn64tab", Rows.laid_math_bits_deBruijn64tab), ("internal/strconv.uint64pow10", Rows.laid_internal_strconv_uint64pow10), ("unicode/utf8.acceptRanges", Rows.laid_unicode_utf8_acceptRanges), ("unicode/utf8.first", Rows.laid_unicode_utf8_first)]
theorem own : ownKnob Tryz.prog.godebug = none := by kernel_rfl
theorem firstIs : Rows.laid_unicode_utf8_first = Lib.firstData := by kernel_rfl
theorem acceptIs : (Rows.laid_unicode_utf8_acceptRanges : DataW Unit) = Lib.acceptData := by kernel_rfl
def ren : Go.Shelf.Ren := ⟨fun n => n, fun | 5 => 5 | 119 => 138 | 138 => 140 | 139 => 141 | n => n, fun | 3 => 2 | 4 => 3 | n => n⟩
theorem types : U8Types Tryz.prog ren := ⟨Tryz.underlying5, Tryz.underlying138, Tryz.underlying140, Tryz.underlying141⟩
theorem extra : U8Extra Tryz.prog ren := ⟨by kernel_rfl, by kernel_rfl, by kernel_rfl, by kernel_rfl, by kernel_rfl, by kernel_rfl, by kernel_rfl⟩
theorem powData {H : Type} : (Rows.laid_internal_strconv_uint64pow10 : DataW H) = Lib.tabData .u64 Lib.pow10Tab := by rfl
/-- A whole number among the package-level variables. -/
theorem int_of_shape {P : Program} {w : World} {g : Nat} {t : TypeId} {zero : Array Value} (h : w.ShapedOpen P) (hg : g < P.globals.size)
    (h0 : ((begin P (fun _ _ => 0) default).world.heap[g]?).bind Obj.row? = some (zero, t)) (hz : zero.size = 1)
    (hb : P.buildable t = true) (hc : P.cellTypes P.depth t = some [t]) (hu : P.underlying t = some (.int .i64)) : ∃ m, w.cell? ⟨g, 0, none⟩ = some (.int .i64 m) := by
  obtain ⟨cs, hh, hs, hr⟩ := h.1 g zero t hg h0
  obtain ⟨ts, hts, _, hall⟩ := hr hb
  rw [hc] at hts
  cases hts
  have h1 : 0 < cs.size := by omega
  obtain ⟨u, hu', hok⟩ := hall 0 cs[0] (by simp [h1])
  have : u = t := by simpa using hu'.symm
  subst this
  have hcell : w.cell? ⟨g, 0, none⟩ = some cs[0] := by simp [World.cell?, hh, h1]
  rw [hcell]
  unfold Cell.ok at hok
  rw [hu] at hok
  cases hv : cs[0] <;> rw [hv] at hok <;> simp at hok
  case int k m =>
    obtain ⟨rfl, _⟩ := hok
    exact ⟨m, rfl⟩
theorem max_of_shape {w : World} (h : w.ShapedOpen Tryz.prog) : MaxL w :=
  int_of_shape (zero := #[.int .i64 0]) (t := 3) h (of_decide_eq_true (by kernel_rfl)) (by kernel_rfl) rfl (by kernel_rfl) (by kernel_rfl) Tryz.underlying3
/-- What the walks are told. -/
theorem env_of {W : World} (h : laidMetH Tryz.prog laidAll W) (hs : W.ShapedOpen Tryz.prog) : Env W := by
  rw [MakeChecks.laidMetH_plain _ _ _ (by kernel_rfl)] at h
  refine ⟨?_, max_of_shape hs, utf8Tabs_of_readsT types extra (firstIs ▸ Lib.laidMet.reads h (by simp [laidAll])) (acceptIs ▸ Lib.laidMet.reads h (by simp [laidAll]))⟩
  have h2 := h.tail.tail
  rw [powData] at h2
  exact Lib.tabIs_of_head gPow tPow Tryz.underlying135 Tryz.underlying99 (by kernel_rfl) (by kernel_rfl) h2
end Go.Proofs.YtnmkhbelmdokmaaGreatDoor
