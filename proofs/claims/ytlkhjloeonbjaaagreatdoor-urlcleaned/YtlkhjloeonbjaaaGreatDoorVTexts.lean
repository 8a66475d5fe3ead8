/- Slices that read as texts: their cells. -/
import Derived.Test.YtlkhjloeonbjaaaGreatDoorPJoin
import Derived.Test.YtlkhjloeonbjaaaGreatDoorPSplit
namespace Go.Proofs.YtlkhjloeonbjaaaGreatDoor
open Go.RowKit
theorem owns_base {w : World} {B C : Nat} {e : TypeId} {size n : Nat} {v : Value} {xs : List Value} (h : w.ownsRow C e size v n xs) (hb : B ≤ C) : w.ownsRow B e size v n xs := by
  refine ⟨h.1, ?_⟩
  rcases h.2 with h0 | ⟨g, cap, cur, hv, h1, hc⟩
  · exact .inl h0
  · exact .inr ⟨g, cap, cur, hv, Nat.le_trans hb h1, hc⟩
theorem ReadsTexts.at {w : World} {a : Option Addr} {n c : Nat} {ts : List (List UInt8)} {k : Nat} {t : List UInt8} (h : ReadsTexts w (.slice a n c) ts) (hp : ts[k]? = some t) :
    ∃ b o, a = some ⟨b, o, none⟩ ∧ ts.length ≤ c ∧ b < w.heap.size ∧ w.cell? ⟨b, o + k, none⟩ = some (.string (str t)) := by
  rcases h with ⟨a, c, _, rfl⟩ | ⟨b, o, c, h1, h2, h3⟩
  · simp at hp
  · cases h1
    exact ⟨b, o, rfl, h2, cell_lt (h3 k t hp), h3 k t hp⟩
theorem ReadsTexts.form {w : World} {v : Value} {ts : List (List UInt8)} (h : ReadsTexts w v ts) : ∃ a c, v = .slice a ts.length c := by
  rcases h with ⟨a, c, rfl, rfl⟩ | ⟨b, o, c, rfl, _, _⟩
  · exact ⟨_, _, rfl⟩
  · exact ⟨_, _, rfl⟩
theorem empty_not {t : List UInt8} (h : ¬ t = []) : (str t).toList.isEmpty = false := by
  rw [str_list]
  cases t with
  | nil => exact absurd rfl h
  | cons => rfl
end Go.Proofs.YtlkhjloeonbjaaaGreatDoor
