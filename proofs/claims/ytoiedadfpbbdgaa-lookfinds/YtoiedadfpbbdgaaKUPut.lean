/- The contracts of slices.Clone at []byte, and of utf.Put. -/
import Derived.Test.YtoiedadfpbbdgaaKUPa
import Derived.Laws.Cover3
namespace Go.Proofs.Ytoiedadfpbbdgaa
open Go.RowKit
theorem cell_lt {w : World} {a : Addr} {v : Value} (h : w.cell? a = some v) : a.block < w.heap.size := by
  by_cases hs : a.block < w.heap.size
  · exact hs
  · unfold World.cell? at h
    rw [Array.getElem?_eq_none (by omega)] at h
    simp at h
/-- The slice reads as these cells. -/
def ReadsCells (w : World) (v : Value) (xs : List Value) : Prop :=
  (∃ a c, v = .slice a 0 c ∧ xs = []) ∨ ∃ b o c, v = .slice (some ⟨b, o, none⟩) xs.length c ∧ xs.length ≤ c ∧ ∀ (j : Nat) x, xs[j]? = some x → w.cell? ⟨b, o + j, none⟩ = some x
theorem ReadsCells.below {w w' : World} {v : Value} {xs : List Value} (h : ReadsCells w v xs) (hb : Below w.heap.size w w') : ReadsCells w' v xs := by
  rcases h with h | ⟨b, o, c, rfl, hc, hr⟩
  · exact .inl h
  · exact .inr ⟨b, o, c, rfl, hc, fun j t hj => (hb.cell (p := ⟨b, o + j, none⟩) (cell_lt (hr j t hj))).trans (hr j t hj)⟩
theorem ReadsCells.nil (w : World) : ReadsCells w (.slice none 0 0) [] := .inl ⟨_, _, rfl, rfl⟩
theorem owns_reads {w : World} {B e : Nat} {v : Value} {xs : List Value} (h : w.ownsRow B e 1 v xs.length xs) : ReadsCells w v xs := by
  have h0 := h
  rcases h.2 with ⟨rfl, hz⟩ | ⟨g, cap, cur, rfl, _, hg, hc, _, hcs, ht⟩
  · exact .inl ⟨_, _, rfl, List.eq_nil_of_length_eq_zero hz⟩
  · refine .inr ⟨g, 0, cap, rfl, hc, fun j x hj => ?_⟩
    have hlt : j < xs.length := (List.getElem?_eq_some_iff.1 hj).1
    have := World.ownsRow.cellAt (w := w) (base := B) (e := e) (size := 1) (g := g) (cap := cap) (n := xs.length) (xs := xs) h0 j (by omega)
    rw [Nat.zero_add, this, hj]
theorem cellsB_length (l : List UInt8) : (cellsB l).length = l.length := by simp [cellsB]
theorem OwnsBytes.reads {w : World} {B : Nat} {v : Value} {l : List UInt8} (h : OwnsBytes w B v l) : ReadsCells w v (cellsB l) := by
  apply owns_reads (B := B) (e := 5)
  rw [cellsB_length]
  exact h
theorem one_cell (l : List UInt8) : ∀ u ∈ cellsB l, u.oneCell' = true := by
  intro u hu
  obtain ⟨c, _, rfl⟩ := List.mem_map.1 hu
  rfl
theorem add_addr (b o j : Nat) : (⟨b, o, none⟩ : Addr).add j = ⟨b, o + j, none⟩ := by
  unfold Addr.add
  simp
theorem heap_new (w : World) (o : Obj) : (w.alloc o).heap[w.heap.size]? = some o := by
  show (w.heap.push o)[w.heap.size]? = _
  simp
def cellsR (cs : List Int) : List Value := cs.map fun c => .int .i32 c
theorem cellsR_length (cs : List Int) : (cellsR cs).length = cs.length := by simp [cellsR]
def puts (cs : List Int) : List UInt8 := cs.flatMap Lib.encodeRune
theorem puts_len (cs : List Int) : (puts cs).length ≤ 4 * cs.length := by
  induction cs with
  | nil => exact Nat.le_refl _
  | cons c cs ih =>
    unfold puts at *
    rw [List.flatMap_cons, List.length_append, List.length_cons]
    have := (Utf.enc_len c).1
    omega
theorem puts_snoc (cs : List Int) (k : Nat) (c : Int) (h : cs[k]? = some c) : puts (cs.take (k + 1)) = puts (cs.take k) ++ Lib.encodeRune c := by
  obtain ⟨hlt, rfl⟩ := List.getElem?_eq_some_iff.1 h
  unfold puts
  rw [List.take_succ_eq_append_getElem hlt, List.flatMap_append]
  simp
end Go.Proofs.Ytoiedadfpbbdgaa
