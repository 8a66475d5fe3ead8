/- The contract of the reference's Put. -/
import Derived.Test.YtoahjdpkhnkfiaaDoorUROne
namespace Go.Proofs.YtoahjdpkhnkfiaaDoor
open Go.RowKit
theorem OwnsBytes.below {W W' : World} {B : Nat} {v : Value} {l : List UInt8} (h : OwnsBytes W B v l) (hb : Below W.heap.size W W') : OwnsBytes W' B v l := by
  refine ⟨h.1, ?_⟩
  rcases h.2 with h2 | ⟨g, cap, cur, h1, h2, h3, h4⟩
  · exact .inl h2
  · refine .inr ⟨g, cap, cur, h1, h2, ?_, h4⟩
    rw [hb.block g (Array.getElem?_eq_some_iff.1 h3).1]
    exact h3
theorem owns_src {w : World} {B : Nat} {v : Value} {l : List UInt8} (h : OwnsBytes w B v l) (hl : 1 ≤ l.length) :
    ∃ g cap, v = .slice (some ⟨g, 0, none⟩) l.length cap ∧ ∀ (j : Nat) u, (cellsB l)[j]? = some u → w.cell? ((⟨g, 0, none⟩ : Addr).add j) = some u := by
  have h0 := h
  rcases h.2 with ⟨rfl, hz⟩ | ⟨g, cap, cur, rfl, _, hg, hc, _, hcs, ht⟩
  · omega
  · refine ⟨g, cap, rfl, fun j u hj => ?_⟩
    have hlt : j < (cellsB l).length := (List.getElem?_eq_some_iff.1 hj).1
    rw [cellsB_length] at hlt
    have := World.ownsRow.cellAt (w := w) (base := B) (e := 5) (size := 1) (g := g) (cap := cap) (n := l.length) (xs := cellsB l) h0 j (by omega)
    rw [add_addr, Nat.zero_add, this, hj]
theorem owns_more {w : World} {B : Nat} {v : Value} {l m : List UInt8} (h : w.ownsRow B 5 1 v (l.length + m.length) (cellsB l ++ cellsB m)) : OwnsBytes w B v (l ++ m) := by
  unfold OwnsBytes
  rw [List.length_append]
  unfold cellsB at *
  rw [List.map_append]
  exact h
end Go.Proofs.YtoahjdpkhnkfiaaDoor
