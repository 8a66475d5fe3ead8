/- Contracts of Lower, the program's and the reference's. -/
import Derived.Test.YtoggbikjkccfeabDoorCHex
import Derived.Test.YtoggbikjkccfeabDoorCDigits
import Derived.Laws.IdiomStrings
import Derived.Laws.OwnMore
namespace Go.Proofs.YtoggbikjkccfeabDoor
open Go.RowKit
def cellsB (l : List UInt8) : List Value := l.map fun c => .int .u8 c.toNat
def OwnsBytes (w : World) (B : Nat) (v : Value) (l : List UInt8) : Prop := w.ownsRow B 5 1 v l.length (cellsB l)
theorem OwnsBytes.nil (w : World) (B : Nat) : OwnsBytes w B (.slice none 0 0) [] := World.ownsRow_nil _ _ _ _
theorem OwnsBytes.of {w : World} {B : Nat} {v : Value} {l m : List UInt8} {c : UInt8} {x : Int} (h : m = l ++ [c]) (hx : x = (c.toNat : Int)) (ho : w.ownsRow B 5 1 v (l.length + 1) (cellsB l ++ [.int .u8 x])) : OwnsBytes w B v m := by
  subst h; subst hx
  unfold OwnsBytes cellsB at *
  simpa using ho
theorem info5 : (Tryd.prog.info? 5).map (fun i => (i.zero, i.size, i.bytes)) = some (some (.int .u8 0), 1, 1) := by kernel_rfl
/-- A row of bytes of the call's own, made a text. -/
theorem conv_owned {W : World} {B : Nat} {v : Value} {l : List UInt8} (h : OwnsBytes W B v l) :
    (convert 30 9 v).run Tryd.prog W = .ok (.string (str l)) W := by
  have h0 := h
  rcases h.2 with ⟨rfl, hz⟩ | ⟨g, cap, cur, rfl, _, hg, hc, _, hcs, ht⟩
  · have : l = [] := List.eq_nil_of_length_eq_zero hz
    subst this
    exact run_convert_bytes_nil (P := Tryd.prog) W 30 5 Tryd.underlying30 Tryd.underlying5 0 0 9 Tryd.underlying9
  · refine run_convert_bytes_back (P := Tryd.prog) W 30 9 5 ⟨g, 0, none⟩ cap l Tryd.underlying30 Tryd.underlying5 Tryd.underlying9 (fun j hj => ?_)
    have := World.ownsRow.cellAt (w := W) (base := B) (e := 5) (size := 1) (g := g) (cap := cap) (n := l.length) (xs := cellsB l) h0 j (by omega)
    rw [show (⟨g, 0, none⟩ : Addr).add j = ⟨g, j, none⟩ from by unfold Addr.add; simp; omega, this]
    unfold cellsB
    rw [List.getElem?_map, List.getElem?_eq_getElem hj]
    rfl
theorem made_cells (n : Nat) : (madeCells (Value.int .u8 0).cells (n * 1)).toList = cellsB (List.replicate n 0) := by
  unfold madeCells cellsB
  rw [Nat.mul_one, List.map_replicate]
  apply List.ext_getElem
  · simp
  · intro i h1 h2
    simp [Value.cells, Nat.mod_one]
theorem set_next (a : List UInt8) (c : UInt8) (m : Nat) : (cellsB (a ++ List.replicate (m + 1) 0)).set a.length (.int .u8 c.toNat) = cellsB (a ++ [c] ++ List.replicate m 0) := by
  unfold cellsB
  rw [List.map_append, List.set_append_right _ _ (by simp)]
  simp [List.replicate_succ]
theorem cell_next (a : List UInt8) (m : Nat) : (cellsB (a ++ List.replicate (m + 1) 0))[a.length]? = some (.int .u8 0) := by
  unfold cellsB
  rw [List.map_append, List.getElem?_append_right (by simp)]
  simp [List.replicate_succ]
/-- What lies in the row behind k rounds. -/
def lowTo (s : ByteArray) (k : Nat) : List UInt8 := Asc.lower (s.data.toList.take k) ++ List.replicate (s.size - k) 0
theorem lower_len (s : ByteArray) (k : Nat) (h : k ≤ s.size) : (Asc.lower (s.data.toList.take k)).length = k := by
  unfold Asc.lower
  rw [List.length_map, List.length_take, ← size_data]
  omega
theorem lowTo_next (s : ByteArray) (k : Nat) (h : k < s.size) : (cellsB (lowTo s k)).set k (.int .u8 (Asc.lowerC s[k]).toNat) = cellsB (lowTo s (k + 1)) := by
  have e := set_next (Asc.lower (s.data.toList.take k)) (Asc.lowerC s[k]) (s.size - (k + 1))
  rw [lower_len s k (by omega), show s.size - (k + 1) + 1 = s.size - k from by omega] at e
  unfold lowTo
  rw [e, List.take_succ_eq_append_getElem (show k < s.data.toList.length from by rw [← size_data]; exact h), Asc.lower_snoc]
  rfl
theorem lowTo_cell (s : ByteArray) (k : Nat) (h : k < s.size) : (cellsB (lowTo s k))[k]? = some (.int .u8 0) := by
  have e := cell_next (Asc.lower (s.data.toList.take k)) (s.size - (k + 1))
  rw [lower_len s k (by omega), show s.size - (k + 1) + 1 = s.size - k from by omega] at e
  exact e
theorem lowTo_len (s : ByteArray) (k : Nat) (h : k ≤ s.size) : (lowTo s k).length = s.size := by
  unfold lowTo
  rw [List.length_append, lower_len s k h, List.length_replicate]
  omega
theorem lowTo_end (s : ByteArray) (k : Nat) (h : k ≤ s.size) (h2 : ¬ k < s.size) : lowTo s k = Asc.lower s.data.toList := by
  unfold lowTo
  rw [take_all s k (by omega), show s.size - k = 0 from by omega]
  simp
set_option maxHeartbeats 400000 in
theorem Lower_any (s : ByteArray) (w : World) (hs : s.size ≤ 1000000000) :
    Calls Tryd.prog 9 #[.string s] w fun e w' => e = .returned (.string (str (Asc.lower s.data.toList))) ∧ Below w.heap.size w w' := by
  obtain ⟨i0, hi, hz0, hz1, hz2⟩ := info_parts info5
  go_enter Tryd.func9, Tryd.ntmps9
  go_wp2_with (first
    | (at_make; refine wpList_make_full _ rfl (.tmp 6) (.tmp 6) 30 rfl w.heap.size 5 i0 (.int .u8 0) 1 Tryd.underlying30 hi hz0 hz1 _ _ _ _ s.size rfl rfl rfl rfl (by rw [hz2]; omega) (by unfold maxLen; omega) (Nat.le_refl _) ?_; intro w1 hown1 hgrow1))
  go_loopw [10] (fun i wr => ∃ k : Nat, k ≤ s.size ∧ i = .int .i64 k ∧ wr.ownsRow w.heap.size 5 1 (.slice (some ⟨w.heap.size, 0, none⟩) s.size s.size) s.size (cellsB (lowTo s k)) ∧ Below w.heap.size w wr) (fun i _ => s.size - (intOf i).toNat)
  case atStart =>
    refine ⟨0, Nat.zero_le _, rfl, ?_, (Below.refl _ _).grown hgrow1 (Nat.le_refl _) (by simp)⟩
    rw [made_cells] at hown1
    exact hown1
  case round =>
    obtain ⟨k, hk, rfl, hown, hbel⟩ := hrel
    by_cases hlt : k < s.size
    · have hc : wr.cell? ⟨w.heap.size, k, none⟩ = some (.int .u8 0) := (World.ownsRow.cellAt (w := wr) hown k (by omega)).trans (lowTo_cell s k hlt)
      have hf := World.ownsRow.frozenAt (w := wr) hown k
      have hst := World.ownsRow.stored (w := wr) hown k (.int .u8 (Asc.lowerC s[k]).toNat)
      rw [lowTo_next s k hlt] at hst
      have HS := show Hid _ from hst
      clear hst hown
      go_wp2_with (first
        | (go_at_call 18; refine (lowerByte_any _ _).mono ?_; rintro e w2 ⟨rfl, hw⟩; rw [hw]; clear hw))
      go_roundw
      case rel => exact ⟨k + 1, by omega, by go_num, HS.out.1, hbel.setCell (Nat.le_refl _) _⟩
      case measure => simp [intOf]; omega
    · have hown2 : OwnsBytes wr w.heap.size (.slice (some ⟨w.heap.size, 0, none⟩) s.size s.size) (lowTo s k) := by
        unfold OwnsBytes
        rw [lowTo_len s k hk]
        exact hown
      have hcv := conv_owned hown2
      rw [lowTo_end s k hk hlt] at hcv
      clear hown hown2
      go_wp2
      go_ret
      exact ⟨rfl, hbel⟩
end Go.Proofs.YtoggbikjkccfeabDoor
