/- The contracts of percent's write, read and Form. -/
import Derived.Test.YtlkhjloeonbjaaaGreatDoorPMark2
import Derived.Test.YtlkhjloeonbjaaaGreatDoorPUnmark
import Derived.Test.YtlkhjloeonbjaaaGreatDoorPJoin
import Derived.Test.YtlkhjloeonbjaaaGreatDoorURepair
import Derived.Test.YtlkhjloeonbjaaaGreatDoorPPairs
import Derived.Deep.RegionWith
namespace Go.Proofs.YtlkhjloeonbjaaaGreatDoor
open Go.RowKit
/-- What the walks are told of internal/bytealg.MaxLen: it is a whole number. -/
def MaxL (w : World) : Prop := ∃ m : Int, w.cell? ⟨0, 0, none⟩ = some (.int .i64 m)
theorem MaxL.below {w w' : World} (h : MaxL w) (hb : Below w.heap.size w w') : MaxL w' := by
  obtain ⟨m, hm⟩ := h
  exact ⟨m, (hb.cell (p := ⟨0, 0, none⟩) (cell_lt hm)).trans hm⟩
theorem ReplaceAll_any (a b : UInt8) (hab : a ≠ b) (l : List UInt8) (w : World) (hM : MaxL w) (hz : l.length ≤ 4000000000) :
    Calls Tryz.prog 46 #[.string (str l), .string ⟨#[a]⟩, .string ⟨#[b]⟩] w fun e w' => e = .returned (.string (str (Pct.turned l a b))) ∧ Below w.heap.size w w' := by
  obtain ⟨m, hm⟩ := hM
  have hc : Lib.countB (str l) ⟨#[a]⟩ ≤ l.length := by
    show Lib.count (str l).data.toList [a] ≤ _
    rw [str_data, Lib.count_one]
    exact List.count_le_length
  have h2 : (⟨#[b]⟩ : ByteArray).size = 1 := rfl
  have := Tryz.strings_ReplaceAll (str l) ⟨#[a]⟩ ⟨#[b]⟩ m w (by rw [str_size]; omega) hm (Nat.le_refl _) (by rw [str_size, h2]; omega)
  refine this.mono ?_
  rintro e w' ⟨rfl, hb⟩
  refine ⟨?_, hb⟩
  rw [str_data]
  show Ending.returned (.string (str (Lib.replaceAll l [a] [b]))) = _
  rw [Pct.replaceAll_map a b hab]
theorem Mark_blank (s : ByteArray) (w : World) (hs : s.size ≤ 1000000000) :
    Calls Tryz.prog 48 #[.string s, .string ⟨#[32]⟩] w fun e w' => e = .returned (.string (str (Pct.mark [32] s.data.toList))) ∧ Below w.heap.size w w' := Mark_any s ⟨#[32]⟩ w hs (by decide)
theorem ownsRow_below {w w' : World} {B : Nat} {e : TypeId} {size n : Nat} {v : Value} {xs : List Value} (h : w.ownsRow B e size v n xs) (hb : Below w.heap.size w w') : w'.ownsRow B e size v n xs := by
  refine ⟨h.1, ?_⟩
  rcases h.2 with h0 | ⟨g, cap, cur, hv, h1, hg, hc⟩
  · exact .inl h0
  · exact .inr ⟨g, cap, cur, hv, h1, (hb.block g (Array.getElem?_eq_some_iff.1 hg).1).trans hg, hc⟩
/-- The parts, as far as they are made. -/
def partTo (ps : List Pct.Pr) (k : Nat) : List (List UInt8) := (ps.take k).map Pct.text ++ List.replicate (ps.length - k) []
theorem partTo_len (ps : List Pct.Pr) (k : Nat) (h : k ≤ ps.length) : (partTo ps k).length = ps.length := by
  unfold partTo
  rw [List.length_append, List.length_map, List.length_take, List.length_replicate]
  omega
theorem partTo_all (ps : List Pct.Pr) (k : Nat) (h : ¬ k < ps.length) : partTo ps k = ps.map Pct.text := by
  unfold partTo
  rw [List.take_of_length_le (by omega), show ps.length - k = 0 from by omega]
  simp
theorem partTo_next (ps : List Pct.Pr) (k : Nat) (p : Pct.Pr) (h : ps[k]? = some p) : ((partTo ps k).map strV).set k (.string (str (Pct.text p))) = (partTo ps (k + 1)).map strV := by
  have hlt : k < ps.length := (List.getElem?_eq_some_iff.1 h).1
  unfold partTo
  rw [show ps.length - k = (ps.length - (k + 1)) + 1 from by omega, List.replicate_succ, List.take_add_one, h, List.map_append, List.set_append_right _ _ (by simp; omega)]
  simp [Nat.min_eq_left (Nat.le_of_lt hlt), strV, str]
theorem partTo_cell (ps : List Pct.Pr) (k : Nat) (h : k < ps.length) : ((partTo ps k).map strV)[k]? = some (.string (str [])) := by
  unfold partTo
  rw [show ps.length - k = (ps.length - (k + 1)) + 1 from by omega, List.replicate_succ, List.map_append, List.getElem?_append_right (by simp; omega)]
  simp [Nat.min_eq_left (Nat.le_of_lt h), strV, str]
theorem made_texts (n : Nat) : (madeCells (Value.string ByteArray.empty).cells (n * 1)).toList = (List.replicate n []).map strV := by
  unfold madeCells
  rw [Nat.mul_one, List.map_replicate]
  apply List.ext_getElem
  · simp
  · intro i h1 h2
    simp [Value.cells, Nat.mod_one, strV]
    rfl
theorem str_add (a b : List UInt8) : str a ++ str b = str (a ++ b) := str_eq (by rw [ByteArray.data_append, Array.toList_append, str_data, str_data])
end Go.Proofs.YtlkhjloeonbjaaaGreatDoor
