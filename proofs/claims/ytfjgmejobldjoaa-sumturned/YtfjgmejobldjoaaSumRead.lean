/- Slices of bytes that are read, and numbers as vectors of bits. -/
import Derived.Test.YtfjgmejobldjoaaBase
import Derived.Test.YtfjgmejobldjoaaSumMath
import Derived.Laws.Cover3
import Derived.Laws.BitsAllLaws
namespace Go.Proofs.Ytfjgmejobldjoaa
open Go.RowKit
theorem cell_lt {w : World} {a : Addr} {v : Value} (h : w.cell? a = some v) : a.block < w.heap.size := by
  by_cases hs : a.block < w.heap.size
  · exact hs
  · unfold World.cell? at h
    rw [Array.getElem?_eq_none (by omega)] at h
    simp at h
theorem cell_alloc {w : World} {a : Addr} {v : Value} {o : Obj} (h : w.cell? a = some v) : (w.alloc o).cell? a = some v := by
  rw [World.cell?_alloc_lt _ _ _ (cell_lt h), h]
/-- The slice reads as these cells. -/
def ReadsCells (w : World) (v : Value) (xs : List Value) : Prop :=
  (∃ a c, v = .slice a 0 c ∧ xs = [] ∧ (a = none → c = 0)) ∨ ∃ b o c, v = .slice (some ⟨b, o, none⟩) xs.length c ∧ xs.length ≤ c ∧ ∀ (j : Nat) x, xs[j]? = some x → w.cell? ⟨b, o + j, none⟩ = some x
theorem ReadsCells.below {w w' : World} {v : Value} {xs : List Value} (h : ReadsCells w v xs) (hb : Below w.heap.size w w') : ReadsCells w' v xs := by
  rcases h with h | ⟨b, o, c, rfl, hc, hr⟩
  · exact .inl h
  · exact .inr ⟨b, o, c, rfl, hc, fun j t hj => (hb.cell (p := ⟨b, o + j, none⟩) (cell_lt (hr j t hj))).trans (hr j t hj)⟩
theorem ReadsCells.nil (w : World) : ReadsCells w (.slice none 0 0) [] := .inl ⟨_, _, rfl, rfl, fun _ => rfl⟩
theorem ReadsCells.form {w : World} {v : Value} {xs : List Value} (h : ReadsCells w v xs) : ∃ a c, v = .slice a xs.length c := by
  rcases h with ⟨a, c, rfl, rfl, _⟩ | ⟨b, o, c, rfl, _, _⟩
  · exact ⟨a, c, rfl⟩
  · exact ⟨_, c, rfl⟩
theorem ReadsCells.at {w : World} {a : Option Addr} {n c : Nat} {xs : List Value} (h : ReadsCells w (.slice a n c) xs) {j : Nat} {x : Value} (hj : xs[j]? = some x) : n = xs.length ∧ n ≤ c ∧ ∃ b o, a = some ⟨b, o, none⟩ ∧ w.cell? ⟨b, o + j, none⟩ = some x := by
  rcases h with ⟨a', c', he, rfl, _⟩ | ⟨b, o, c', he, hc, hr⟩
  · simp at hj
  · cases he
    exact ⟨rfl, hc, b, o, rfl, hr j x hj⟩
theorem owns_reads {w : World} {B e : Nat} {v : Value} {xs : List Value} (h : w.ownsRow B e 1 v xs.length xs) : ReadsCells w v xs := by
  have h0 := h
  rcases h.2 with ⟨rfl, hz⟩ | ⟨g, cap, cur, rfl, _, hg, hc, _, hcs, ht⟩
  · exact .inl ⟨_, _, rfl, List.eq_nil_of_length_eq_zero hz, fun _ => rfl⟩
  · refine .inr ⟨g, 0, cap, rfl, hc, fun j x hj => ?_⟩
    have hlt : j < xs.length := (List.getElem?_eq_some_iff.1 hj).1
    have := World.ownsRow.cellAt (w := w) (base := B) (e := e) (size := 1) (g := g) (cap := cap) (n := xs.length) (xs := xs) h0 j (by omega)
    rw [Nat.zero_add, this, hj]
theorem cellsB_length (l : List UInt8) : (cellsB l).length = l.length := by simp [cellsB]
theorem OwnsBytes.reads {w : World} {B : Nat} {v : Value} {l : List UInt8} (h : OwnsBytes w B v l) : ReadsCells w v (cellsB l) := by
  apply owns_reads (B := B) (e := 5)
  rw [cellsB_length]
  exact h
theorem one_cell (l : List UInt8) : ∀ u ∈ cellsB l, u.oneCell' = true := by
  intro u hu
  obtain ⟨c, _, rfl⟩ := List.mem_map.1 hu
  rfl
theorem add_addr (b o j : Nat) : (⟨b, o, none⟩ : Addr).add j = ⟨b, o + j, none⟩ := by
  unfold Addr.add
  simp
theorem heap_new (w : World) (o : Obj) : (w.alloc o).heap[w.heap.size]? = some o := by
  show (w.heap.push o)[w.heap.size]? = _
  simp
/-- A slice reads as these bytes. -/
abbrev RB (w : World) (v : Value) (l : List UInt8) : Prop := ReadsCells w v (cellsB l)
theorem RB.form {w : World} {v : Value} {l : List UInt8} (h : RB w v l) : ∃ a c, v = .slice a l.length c := by
  obtain ⟨a, c, h⟩ := ReadsCells.form h
  rw [cellsB_length] at h
  exact ⟨a, c, h⟩
theorem cellsB_at (l : List UInt8) (j : Nat) (h : j < l.length) : (cellsB l)[j]? = some (.int .u8 (l[j].toNat : Int)) := by
  unfold cellsB
  rw [List.getElem?_map, List.getElem?_eq_getElem h]
  rfl
theorem RB.at {w : World} {a : Option Addr} {n c : Nat} {l : List UInt8} (h : RB w (.slice a n c) l) {j : Nat} (hj : j < l.length) : n = l.length ∧ n ≤ c ∧ ∃ b o, a = some ⟨b, o, none⟩ ∧ w.cell? ⟨b, o + j, none⟩ = some (.int .u8 (l[j].toNat : Int)) := by
  have := ReadsCells.at h (cellsB_at l j hj)
  rw [cellsB_length] at this
  exact this
theorem xor32 (a b : BitVec 32) : bits .xor .u32 (a.toNat : Int) (b.toNat : Int) = (((a ^^^ b).toNat : Nat) : Int) := by
  rw [u32_xor_nat _ _ a.isLt b.isLt, BitVec.toNat_xor]
theorem xor64 (a b : BitVec 64) : bits .xor .u64 (a.toNat : Int) (b.toNat : Int) = (((a ^^^ b).toNat : Nat) : Int) := by
  rw [u64_xor_nat _ _ a.isLt b.isLt, BitVec.toNat_xor]
theorem low15 (a : BitVec 32) : bits .and .u32 (a.toNat : Int) 15 = ((a.toNat % 16 : Nat) : Int) := by
  rw [show (15 : Int) = ((15 : Nat) : Int) from rfl, u32_and_nat _ _ a.isLt (by decide), nat_mask4]
theorem low15' (a : BitVec 64) : bits .and .u64 (a.toNat : Int) 15 = ((a.toNat % 16 : Nat) : Int) := by
  rw [show (15 : Int) = ((15 : Nat) : Int) from rfl, u64_and_nat _ _ a.isLt (by decide), nat_mask4]
theorem mul64 (a : BitVec 64) : IntKind.wrap .u64 ((a.toNat : Int) * 1099511628211) = (((a * Sm.M).toNat : Nat) : Int) := by
  rw [BitVec.toNat_mul]
  show IntKind.wrap .u64 ((a.toNat : Int) * 1099511628211) = ((a.toNat * 1099511628211 % 18446744073709551616 : Nat) : Int)
  simp only [IntKind.wrap, IntKind.bits, IntKind.signed]
  simp
theorem shr32 (a : BitVec 32) (k : Nat) : (a >>> k).toNat = a.toNat / 2 ^ k := by rw [BitVec.toNat_ushiftRight, Nat.shiftRight_eq_div_pow]
theorem by32_nat (c : UInt8) : (Sm.by32 c).toNat = c.toNat := by
  unfold Sm.by32
  rw [BitVec.toNat_ofNat, Nat.mod_eq_of_lt (by have := c.toNat_lt; omega)]
theorem by64_nat (c : UInt8) : (Sm.by64 c).toNat = c.toNat := by
  unfold Sm.by64
  rw [BitVec.toNat_ofNat, Nat.mod_eq_of_lt (by have := c.toNat_lt; omega)]
end Go.Proofs.Ytfjgmejobldjoaa
