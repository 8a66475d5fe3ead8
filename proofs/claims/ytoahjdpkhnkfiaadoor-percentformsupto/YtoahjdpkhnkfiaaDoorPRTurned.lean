/- The contract of the reference's turned. -/
import Derived.Test.YtoahjdpkhnkfiaaDoorPRMark2
import Derived.Test.YtoahjdpkhnkfiaaDoorPForm
import Derived.Deep.Cut
namespace Go.Proofs.YtoahjdpkhnkfiaaDoor
open Go.RowKit
def turnC (f t : UInt8) (k j : Nat) (c : UInt8) : UInt8 := if j < k ∧ c = f then t else c
theorem row_cells {W : World} {B : Nat} {s : ByteArray} {cap : Nat} {fr : Nat × Nat} (hb : W.heap[B]? = some (.cells (bytesRow s cap) 5 fr)) (j : Nat) (hj : j < s.size) : W.cell? ⟨B, j, none⟩ = some (.int .u8 s[j].toNat) := by
  rw [cell_of_row W B j (bytesRow s cap) 5 fr hb, bytesRow_at s cap j hj]
  rfl
theorem row_soft {W : World} {B : Nat} {s : ByteArray} {cap : Nat} (hb : W.heap[B]? = some (.cells (bytesRow s cap) 5 ((bytesRow s cap).size, (bytesRow s cap).size + 1))) (j : Nat) (hj : j < s.size) : W.frozen? ⟨B, j, none⟩ = false := by
  have h : s.size ≤ (bytesRow s cap).size := by
    unfold bytesRow
    rw [Array.size_append, Array.size_map]
    exact Nat.le_add_right _ _
  simp [World.frozen?, hb]
  omega
set_option maxHeartbeats 2000000 in
set_option maxRecDepth 100000 in
theorem Rturned_any (s : ByteArray) (f t : UInt8) (w : World) (hs : s.size ≤ 1000000000) :
    Calls Tryd.prog 59 #[.string s, .int .u8 f.toNat, .int .u8 t.toNat] w fun e w' => e = .returned (.string (str (Pct.turned s.data.toList f t))) ∧ Below w.heap.size w w' := by
  have hcv := fun W => run_bytes_of_string (P := Tryd.prog) W 9 54 5 s Tryd.underlying9 Tryd.underlying54 Tryd.underlying5
  go_enter Tryd.func59, Tryd.ntmps59
  go_upto_region 2 with fail
  generalize hcap : grownCap w s.size 0 5 = C
  have hblk : ((w.alloc (.cells (bytesRow s C) 5 ((bytesRow s C).size, (bytesRow s C).size + 1))).drew).heap[w.heap.size]? = some (.cells (bytesRow s C) 5 ((bytesRow s C).size, (bytesRow s C).size + 1)) := heap_alloc_last w _
  have hbel0 : Below w.heap.size w ((w.alloc (.cells (bytesRow s C) 5 ((bytesRow s C).size, (bytesRow s C).size + 1))).drew) := ((Below.refl _ w).alloc (Nat.le_refl _) _).drew
  generalize (w.alloc (.cells (bytesRow s C) 5 ((bytesRow s C).size, (bytesRow s C).size + 1))).drew = W at hblk hbel0 ⊢
  have HC : Hid (∀ j (hj : j < s.size), W.cell? ⟨w.heap.size, j, none⟩ = some (.int .u8 (turnC f t 0 j s[j]).toNat)) := by
    intro j hj
    rw [row_cells hblk j hj]
    unfold turnC
    rw [if_neg (by omega)]
  have HF : Hid (∀ j, j < s.size → W.frozen? ⟨w.heap.size, j, none⟩ = false) := row_soft hblk
  clear hblk hcap hcv
  go_wp2
  go_loopw [8] (fun i wr => ∃ k : Nat, k ≤ s.size ∧ i = .int .i64 k ∧ Hid (∀ j (hj : j < s.size), wr.cell? ⟨w.heap.size, j, none⟩ = some (.int .u8 (turnC f t k j s[j]).toNat)) ∧ Hid (∀ j, j < s.size → wr.frozen? ⟨w.heap.size, j, none⟩ = false) ∧ Below w.heap.size w wr) (fun i _ => s.size - (intOf i).toNat)
  case atStart => exact ⟨0, Nat.zero_le _, rfl, HC, HF, hbel0⟩
  case round =>
    clear HC HF hbel0
    obtain ⟨k, hk, rfl, HC, HF, hbel⟩ := hrel
    by_cases hlt : k < s.size
    · have hc := HC.out k hlt
      have hf := HF.out k hlt
      have hk0 : turnC f t k k s[k] = s[k] := by unfold turnC; rw [if_neg (by omega)]
      rw [hk0] at hc
      by_cases he : s[k] = f
      · have hq := byte_eq_yes he
        have HE : Hid (s[k] = f) := he
        clear he hk0
        go_wp2
        go_roundw
        case rel =>
          refine ⟨k + 1, by omega, by go_num, ?_, ?_, hbel.setCell (Nat.le_refl _) _⟩
          · intro j hj
            by_cases hjk : j = k
            · subst hjk
              rw [World.cell?_setCell_same _ _ _ hc]
              unfold turnC
              rw [if_pos ⟨by omega, HE.out⟩]
            · rw [World.cell?_setCell_other _ _ _ _ (by intro e; cases e; exact hjk rfl), HC.out j hj]
              unfold turnC
              have : (j < k ∧ s[j] = f) ↔ (j < k + 1 ∧ s[j] = f) := ⟨fun h => ⟨by omega, h.2⟩, fun h => ⟨by omega, h.2⟩⟩
              simp only [this]
          · intro j hj
            rw [World.frozen?_setCell]
            exact HF.out j hj
        case measure => simp [intOf]; omega
      · have hq := byte_eq_no he
        have HE : Hid (¬ s[k] = f) := he
        clear he hk0
        go_wp2
        go_roundw
        case rel =>
          refine ⟨k + 1, by omega, by go_num, ?_, HF, hbel⟩
          intro j hj
          rw [HC.out j hj]
          unfold turnC
          by_cases hjk : j = k
          · subst hjk
            rw [if_neg (by omega), if_neg (fun h => HE.out h.2)]
          · have : (j < k ∧ s[j] = f) ↔ (j < k + 1 ∧ s[j] = f) := ⟨fun h => ⟨by omega, h.2⟩, fun h => ⟨by omega, h.2⟩⟩
            simp only [this]
        case measure => simp [intOf]; omega
    · have hln := Pct.turned_len s.data.toList f t
      rw [← size_data0] at hln
      have hcv := run_convert_bytes_back (P := Tryd.prog) wr 54 9 5 ⟨w.heap.size, 0, none⟩ C (Pct.turned s.data.toList f t) Tryd.underlying54 Tryd.underlying5 Tryd.underlying9 (fun j hj => by
        rw [add_addr, Nat.zero_add, HC.out j (by omega)]
        congr 3
        simp only [Pct.turned, List.getElem_map]
        unfold turnC
        have e : s.data.toList[j]'(by rw [← size_data0]; omega) = s[j]'(by omega) := rfl
        rw [e]
        by_cases hh : s[j]'(by omega) = f
        · rw [if_pos ⟨by omega, hh⟩, if_pos hh]
        · rw [if_neg (fun h => hh h.2), if_neg hh])
      rw [hln] at hcv
      clear hln
      go_wp2
      go_ret
      exact ⟨rfl, hbel⟩
end Go.Proofs.YtoahjdpkhnkfiaaDoor
