/- The contract of the reference's half. -/
import Derived.Test.YtnklbeldheocmaaGreatDoorKDR4
import Derived.Test.YtnklbeldheocmaaGreatDoorKAscii
import Derived.Test.YtnklbeldheocmaaGreatDoorKDateA
import Derived.Deep.RegionWith
import Derived.Deep.RegionHeldLaw
namespace Go.Proofs.YtnklbeldheocmaaGreatDoor
open Go.RowKit
theorem ends_low {l x : List UInt8} (h : x.length ≤ l.length) : ((str (Asc.lower (l.drop (l.length - x.length)))).toList == x) = Dat.ends l x := by
  rw [str_list]
  unfold Dat.ends
  rw [decide_eq_true h, Bool.true_and]
  by_cases e : Asc.lower (l.drop (l.length - x.length)) = x
  · rw [decide_eq_true e, e]; simp
  · rw [decide_eq_false e]; simpa using e
theorem ends_short {l x : List UInt8} (h : ¬ x.length ≤ l.length) : Dat.ends l x = false := by
  unfold Dat.ends
  rw [decide_eq_false h]
  rfl
/-- What half answers. -/
def halfV (x : Option (Int × Nat)) : Value := match x with
  | none => .tuple #[.int .i64 (-1), .int .i64 0]
  | some (k, n) => .tuple #[.int .i64 k, .int .i64 n]
def halfCs : Array Value := #[.string ⟨#[97, 109]⟩, .string ⟨#[112, 109]⟩, .string ⟨#[97, 46, 109, 46]⟩, .string ⟨#[112, 46, 109, 46]⟩]
set_option maxRecDepth 100000 in
set_option maxHeartbeats 1000000 in
theorem Rhalf_any (l : List UInt8) (w : World) (hz0 : l.length ≤ 100000) :
    Calls Tryz.prog 41 #[.string (str l)] w fun e w' => e = .returned (halfV (Dat.halfR l)) ∧ Below w.heap.size w w' := by
  have hz : (str l).size = l.length := str_size l
  have HX : Hid (Dat.halfR l = if Dat.ends l [97, 109] = true then some (0, 2) else if Dat.ends l [112, 109] = true then some (12, 2) else if Dat.ends l [97, 46, 109, 46] = true then some (0, 4) else if Dat.ends l [112, 46, 109, 46] = true then some (12, 4) else none) := rfl
  generalize Dat.halfR l = X at HX
  go_enter Tryz.func41, Tryz.ntmps41
  go_wp2
  have hA1 := (Below.refl _ w).alloc (Nat.le_refl _) (.cells halfCs 9)
  have hS1 : (w.alloc (.cells halfCs 9)).heap[w.heap.size]? = some (.cells halfCs 9 (0, 0)) := heap_alloc_last w _
  unfold halfCs at hA1 hS1
  generalize w.alloc (.cells #[.string ⟨#[97, 109]⟩, .string ⟨#[112, 109]⟩, .string ⟨#[97, 46, 109, 46]⟩, .string ⟨#[112, 46, 109, 46]⟩] 9) = W at hA1 hS1
  generalize hB0 : w.heap.size = B at hS1
  have HB : Hid (w.heap.size = B) := hB0
  clear hB0
  go_loopw [5] (fun i wr => ∃ k : Nat, k ≤ 4 ∧ i = .int .i64 k ∧ wr.heap[B]? = some (.cells #[.string ⟨#[97, 109]⟩, .string ⟨#[112, 109]⟩, .string ⟨#[97, 46, 109, 46]⟩, .string ⟨#[112, 46, 109, 46]⟩] 9 (0, 0)) ∧ Hid (Below w.heap.size w wr) ∧ Hid ((0 < k → Dat.ends l [97, 109] = false) ∧ (1 < k → Dat.ends l [112, 109] = false) ∧ (2 < k → Dat.ends l [97, 46, 109, 46] = false) ∧ (3 < k → Dat.ends l [112, 46, 109, 46] = false))) (fun i _ => 4 - (intOf i).toNat)
  case atStart => exact ⟨0, by omega, rfl, hS1, hA1, ⟨fun h => by omega, fun h => by omega, fun h => by omega, fun h => by omega⟩⟩
  case round =>
    obtain ⟨k, hk, rfl, hS, HBr, HK⟩ := hrel
    clear hA1 hS1
    match k, hk with
    | 0, _ =>
      have c0 : wr.cell? ⟨B, 0, none⟩ = some (.string ⟨#[97, 109]⟩) := Lib.cell_of_heap hS 0
      have c1 : wr.drew.cell? ⟨B, 0, none⟩ = some (.string ⟨#[97, 109]⟩) := Lib.cell_of_heap hS 0
      have hBlt : B < wr.heap.size := (Array.getElem?_eq_some_iff.1 hS).1
      by_cases hlen : 2 ≤ l.length
      · have hg : decide ((2 : Int) ≤ (l.length : Int)) = true := decide_eq_true (by omega)
        have w1 : IntKind.i64.wrap ((l.length : Int) - 2) = (l.length : Int) - 2 := by rw [IntKind.wrap_i64]; omega
        have b1 : 0 ≤ (l.length : Int) - 2 := by omega
        have b2 : (l.length : Int) - 2 ≤ (l.length : Int) := by omega
        have e1 : (str l).extract ((l.length : Int) - 2).toNat l.length = str (l.drop (l.length - 2)) := by
          rw [str_from]
          congr 2
          omega
        have hl := ends_low (l := l) (x := [97, 109]) hlen
        have hlow := fun w => RLower_any (str (l.drop (l.length - 2))) w (by rw [str_size]; simp; omega)
        simp only [str_data] at hlow
        have hl2 : ((str (Asc.lower (l.drop (l.length - 2)))).toList == [97, 109]) = Dat.ends l [97, 109] := hl
        clear hl
        generalize Asc.lower (l.drop (l.length - 2)) = v at hlow hl2
        cases he : Dat.ends l [97, 109]
        · rw [he] at hl2
          have HE : Hid (Dat.ends l [97, 109] = false) := he
          clear he
          go_wp2
          go_region_held_law (fun W => W.cell? ⟨B, 0, none⟩ = some (.string ⟨#[97, 109]⟩)) (first | exact c1 | exact (hb2.cell (p := ⟨B, 0, none⟩) (World.block_lt_of_cell? _ _ c1)).trans c1) (first
            | (go_at_call 55; refine (hlow _).mono ?_; rintro e w2 ⟨rfl, hb2⟩))
          go_wp2
          go_roundw
          case rel => exact ⟨1, by omega, rfl, (hb2.block B hBlt).trans hS, HBr.out.drew.trans (hb2.mono HBr.out.drew.size), ⟨fun _ => (by first | exact HE.out | trivial), fun h => by omega, fun h => by omega, fun h => by omega⟩⟩
          case measure => simp [intOf]
        · rw [he] at hl2
          have HE : Hid (X = some (0, 2)) := by
            show _ = _
            rw [HX.out]
            skip
            rw [if_pos he]
          clear he
          go_wp2
          go_region_held_law (fun W => W.cell? ⟨B, 0, none⟩ = some (.string ⟨#[97, 109]⟩)) (first | exact c1 | exact (hb2.cell (p := ⟨B, 0, none⟩) (World.block_lt_of_cell? _ _ c1)).trans c1) (first
            | (go_at_call 55; refine (hlow _).mono ?_; rintro e w2 ⟨rfl, hb2⟩))
          go_wp2
          go_ret2
          exact ⟨by rw [HE.out]; rfl, HBr.out.drew.trans (hb2.mono HBr.out.drew.size)⟩
      · have hg : decide ((2 : Int) ≤ (l.length : Int)) = false := decide_eq_false (by omega)
        have HE : Hid (Dat.ends l [97, 109] = false) := ends_short hlen
        go_wp2
        go_quiet (fail)
        go_wp2
        go_roundw
        case rel => exact ⟨1, by omega, rfl, hS, below_drewN HBr.out nq, ⟨fun _ => (by first | exact HE.out | trivial), fun h => by omega, fun h => by omega, fun h => by omega⟩⟩
        case measure => simp [intOf]
    | 1, _ =>
      have c0 : wr.cell? ⟨B, 1, none⟩ = some (.string ⟨#[112, 109]⟩) := Lib.cell_of_heap hS 1
      have c1 : wr.drew.cell? ⟨B, 1, none⟩ = some (.string ⟨#[112, 109]⟩) := Lib.cell_of_heap hS 1
      have hBlt : B < wr.heap.size := (Array.getElem?_eq_some_iff.1 hS).1
      by_cases hlen : 2 ≤ l.length
      · have hg : decide ((2 : Int) ≤ (l.length : Int)) = true := decide_eq_true (by omega)
        have w1 : IntKind.i64.wrap ((l.length : Int) - 2) = (l.length : Int) - 2 := by rw [IntKind.wrap_i64]; omega
        have b1 : 0 ≤ (l.length : Int) - 2 := by omega
        have b2 : (l.length : Int) - 2 ≤ (l.length : Int) := by omega
        have e1 : (str l).extract ((l.length : Int) - 2).toNat l.length = str (l.drop (l.length - 2)) := by
          rw [str_from]
          congr 2
          omega
        have hl := ends_low (l := l) (x := [112, 109]) hlen
        have hlow := fun w => RLower_any (str (l.drop (l.length - 2))) w (by rw [str_size]; simp; omega)
        simp only [str_data] at hlow
        have hl2 : ((str (Asc.lower (l.drop (l.length - 2)))).toList == [112, 109]) = Dat.ends l [112, 109] := hl
        clear hl
        generalize Asc.lower (l.drop (l.length - 2)) = v at hlow hl2
        cases he : Dat.ends l [112, 109]
        · rw [he] at hl2
          have HE : Hid (Dat.ends l [112, 109] = false) := he
          clear he
          go_wp2
          go_region_held_law (fun W => W.cell? ⟨B, 1, none⟩ = some (.string ⟨#[112, 109]⟩)) (first | exact c1 | exact (hb2.cell (p := ⟨B, 1, none⟩) (World.block_lt_of_cell? _ _ c1)).trans c1) (first
            | (go_at_call 55; refine (hlow _).mono ?_; rintro e w2 ⟨rfl, hb2⟩))
          go_wp2
          go_roundw
          case rel => exact ⟨2, by omega, rfl, (hb2.block B hBlt).trans hS, HBr.out.drew.trans (hb2.mono HBr.out.drew.size), ⟨fun _ => HK.out.1 (by omega), fun _ => (by first | exact HE.out | trivial), fun h => by omega, fun h => by omega⟩⟩
          case measure => simp [intOf]
        · rw [he] at hl2
          have HE : Hid (X = some (12, 2)) := by
            show _ = _
            rw [HX.out]
            rw [if_neg (by rw [HK.out.1 (by omega)]; decide)];
            rw [if_pos he]
          clear he
          go_wp2
          go_region_held_law (fun W => W.cell? ⟨B, 1, none⟩ = some (.string ⟨#[112, 109]⟩)) (first | exact c1 | exact (hb2.cell (p := ⟨B, 1, none⟩) (World.block_lt_of_cell? _ _ c1)).trans c1) (first
            | (go_at_call 55; refine (hlow _).mono ?_; rintro e w2 ⟨rfl, hb2⟩))
          go_wp2
          go_ret2
          exact ⟨by rw [HE.out]; rfl, HBr.out.drew.trans (hb2.mono HBr.out.drew.size)⟩
      · have hg : decide ((2 : Int) ≤ (l.length : Int)) = false := decide_eq_false (by omega)
        have HE : Hid (Dat.ends l [112, 109] = false) := ends_short hlen
        go_wp2
        go_quiet (fail)
        go_wp2
        go_roundw
        case rel => exact ⟨2, by omega, rfl, hS, below_drewN HBr.out nq, ⟨fun _ => HK.out.1 (by omega), fun _ => (by first | exact HE.out | trivial), fun h => by omega, fun h => by omega⟩⟩
        case measure => simp [intOf]
    | 2, _ =>
      have c0 : wr.cell? ⟨B, 2, none⟩ = some (.string ⟨#[97, 46, 109, 46]⟩) := Lib.cell_of_heap hS 2
      have c1 : wr.drew.cell? ⟨B, 2, none⟩ = some (.string ⟨#[97, 46, 109, 46]⟩) := Lib.cell_of_heap hS 2
      have hBlt : B < wr.heap.size := (Array.getElem?_eq_some_iff.1 hS).1
      by_cases hlen : 4 ≤ l.length
      · have hg : decide ((4 : Int) ≤ (l.length : Int)) = true := decide_eq_true (by omega)
        have w1 : IntKind.i64.wrap ((l.length : Int) - 4) = (l.length : Int) - 4 := by rw [IntKind.wrap_i64]; omega
        have b1 : 0 ≤ (l.length : Int) - 4 := by omega
        have b2 : (l.length : Int) - 4 ≤ (l.length : Int) := by omega
        have e1 : (str l).extract ((l.length : Int) - 4).toNat l.length = str (l.drop (l.length - 4)) := by
          rw [str_from]
          congr 2
          omega
        have hl := ends_low (l := l) (x := [97, 46, 109, 46]) hlen
        have hlow := fun w => RLower_any (str (l.drop (l.length - 4))) w (by rw [str_size]; simp; omega)
        simp only [str_data] at hlow
        have hl2 : ((str (Asc.lower (l.drop (l.length - 4)))).toList == [97, 46, 109, 46]) = Dat.ends l [97, 46, 109, 46] := hl
        clear hl
        generalize Asc.lower (l.drop (l.length - 4)) = v at hlow hl2
        cases he : Dat.ends l [97, 46, 109, 46]
        · rw [he] at hl2
          have HE : Hid (Dat.ends l [97, 46, 109, 46] = false) := he
          clear he
          go_wp2
          go_region_held_law (fun W => W.cell? ⟨B, 2, none⟩ = some (.string ⟨#[97, 46, 109, 46]⟩)) (first | exact c1 | exact (hb2.cell (p := ⟨B, 2, none⟩) (World.block_lt_of_cell? _ _ c1)).trans c1) (first
            | (go_at_call 55; refine (hlow _).mono ?_; rintro e w2 ⟨rfl, hb2⟩))
          go_wp2
          go_roundw
          case rel => exact ⟨3, by omega, rfl, (hb2.block B hBlt).trans hS, HBr.out.drew.trans (hb2.mono HBr.out.drew.size), ⟨fun _ => HK.out.1 (by omega), fun _ => HK.out.2.1 (by omega), fun _ => (by first | exact HE.out | trivial), fun h => by omega⟩⟩
          case measure => simp [intOf]
        · rw [he] at hl2
          have HE : Hid (X = some (0, 4)) := by
            show _ = _
            rw [HX.out]
            rw [if_neg (by rw [HK.out.1 (by omega)]; decide)]; rw [if_neg (by rw [HK.out.2.1 (by omega)]; decide)];
            rw [if_pos he]
          clear he
          go_wp2
          go_region_held_law (fun W => W.cell? ⟨B, 2, none⟩ = some (.string ⟨#[97, 46, 109, 46]⟩)) (first | exact c1 | exact (hb2.cell (p := ⟨B, 2, none⟩) (World.block_lt_of_cell? _ _ c1)).trans c1) (first
            | (go_at_call 55; refine (hlow _).mono ?_; rintro e w2 ⟨rfl, hb2⟩))
          go_wp2
          go_ret2
          exact ⟨by rw [HE.out]; rfl, HBr.out.drew.trans (hb2.mono HBr.out.drew.size)⟩
      · have hg : decide ((4 : Int) ≤ (l.length : Int)) = false := decide_eq_false (by omega)
        have HE : Hid (Dat.ends l [97, 46, 109, 46] = false) := ends_short hlen
        go_wp2
        go_quiet (fail)
        go_wp2
        go_roundw
        case rel => exact ⟨3, by omega, rfl, hS, below_drewN HBr.out nq, ⟨fun _ => HK.out.1 (by omega), fun _ => HK.out.2.1 (by omega), fun _ => (by first | exact HE.out | trivial), fun h => by omega⟩⟩
        case measure => simp [intOf]
    | 3, _ =>
      have c0 : wr.cell? ⟨B, 3, none⟩ = some (.string ⟨#[112, 46, 109, 46]⟩) := Lib.cell_of_heap hS 3
      have c1 : wr.drew.cell? ⟨B, 3, none⟩ = some (.string ⟨#[112, 46, 109, 46]⟩) := Lib.cell_of_heap hS 3
      have hBlt : B < wr.heap.size := (Array.getElem?_eq_some_iff.1 hS).1
      by_cases hlen : 4 ≤ l.length
      · have hg : decide ((4 : Int) ≤ (l.length : Int)) = true := decide_eq_true (by omega)
        have w1 : IntKind.i64.wrap ((l.length : Int) - 4) = (l.length : Int) - 4 := by rw [IntKind.wrap_i64]; omega
        have b1 : 0 ≤ (l.length : Int) - 4 := by omega
        have b2 : (l.length : Int) - 4 ≤ (l.length : Int) := by omega
        have e1 : (str l).extract ((l.length : Int) - 4).toNat l.length = str (l.drop (l.length - 4)) := by
          rw [str_from]
          congr 2
          omega
        have hl := ends_low (l := l) (x := [112, 46, 109, 46]) hlen
        have hlow := fun w => RLower_any (str (l.drop (l.length - 4))) w (by rw [str_size]; simp; omega)
        simp only [str_data] at hlow
        have hl2 : ((str (Asc.lower (l.drop (l.length - 4)))).toList == [112, 46, 109, 46]) = Dat.ends l [112, 46, 109, 46] := hl
        clear hl
        generalize Asc.lower (l.drop (l.length - 4)) = v at hlow hl2
        cases he : Dat.ends l [112, 46, 109, 46]
        · rw [he] at hl2
          have HE : Hid (Dat.ends l [112, 46, 109, 46] = false) := he
          clear he
          go_wp2
          go_region_held_law (fun W => W.cell? ⟨B, 3, none⟩ = some (.string ⟨#[112, 46, 109, 46]⟩)) (first | exact c1 | exact (hb2.cell (p := ⟨B, 3, none⟩) (World.block_lt_of_cell? _ _ c1)).trans c1) (first
            | (go_at_call 55; refine (hlow _).mono ?_; rintro e w2 ⟨rfl, hb2⟩))
          go_wp2
          go_roundw
          case rel => exact ⟨4, by omega, rfl, (hb2.block B hBlt).trans hS, HBr.out.drew.trans (hb2.mono HBr.out.drew.size), ⟨fun _ => HK.out.1 (by omega), fun _ => HK.out.2.1 (by omega), fun _ => HK.out.2.2.1 (by omega), fun _ => (by first | exact HE.out | trivial)⟩⟩
          case measure => simp [intOf]
        · rw [he] at hl2
          have HE : Hid (X = some (12, 4)) := by
            show _ = _
            rw [HX.out]
            rw [if_neg (by rw [HK.out.1 (by omega)]; decide)]; rw [if_neg (by rw [HK.out.2.1 (by omega)]; decide)]; rw [if_neg (by rw [HK.out.2.2.1 (by omega)]; decide)];
            rw [if_pos he]
          clear he
          go_wp2
          go_region_held_law (fun W => W.cell? ⟨B, 3, none⟩ = some (.string ⟨#[112, 46, 109, 46]⟩)) (first | exact c1 | exact (hb2.cell (p := ⟨B, 3, none⟩) (World.block_lt_of_cell? _ _ c1)).trans c1) (first
            | (go_at_call 55; refine (hlow _).mono ?_; rintro e w2 ⟨rfl, hb2⟩))
          go_wp2
          go_ret2
          exact ⟨by rw [HE.out]; rfl, HBr.out.drew.trans (hb2.mono HBr.out.drew.size)⟩
      · have hg : decide ((4 : Int) ≤ (l.length : Int)) = false := decide_eq_false (by omega)
        have HE : Hid (Dat.ends l [112, 46, 109, 46] = false) := ends_short hlen
        go_wp2
        go_quiet (fail)
        go_wp2
        go_roundw
        case rel => exact ⟨4, by omega, rfl, hS, below_drewN HBr.out nq, ⟨fun _ => HK.out.1 (by omega), fun _ => HK.out.2.1 (by omega), fun _ => HK.out.2.2.1 (by omega), fun _ => (by first | exact HE.out | trivial)⟩⟩
        case measure => simp [intOf]
    | 4, _ =>
      have HE : Hid (X = none) := by
        show _ = _
        rw [HX.out, if_neg (by rw [HK.out.1 (by omega)]; decide), if_neg (by rw [HK.out.2.1 (by omega)]; decide), if_neg (by rw [HK.out.2.2.1 (by omega)]; decide), if_neg (by rw [HK.out.2.2.2 (by omega)]; decide)]
      go_wp2
      go_ret2
      exact ⟨by rw [HE.out]; rfl, HBr.out⟩
end Go.Proofs.YtnklbeldheocmaaGreatDoor
