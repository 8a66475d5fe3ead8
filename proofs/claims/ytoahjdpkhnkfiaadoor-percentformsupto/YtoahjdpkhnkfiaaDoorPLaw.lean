/- What several laws of percent share. -/
import Derived.Test.YtoahjdpkhnkfiaaDoorPAlive
import Derived.Test.YtoahjdpkhnkfiaaDoorURText
namespace Go.Proofs.YtoahjdpkhnkfiaaDoor
open Go.RowKit
theorem RIsText_bel (l : List UInt8) (w : World) (hz : l.length ≤ 1000000000) :
    Calls Tryd.prog 28 #[.string (str l)] w fun e w' => e = .returned (.bool (Utf.isText l)) ∧ Below w.heap.size w w' := by
  refine (RIsText_any l w hz).mono ?_
  rintro e w' ⟨rfl, n, rfl⟩
  exact ⟨rfl, below_drewN n (Below.refl _ _)⟩
theorem parse_lens (l : List UInt8) : ∀ p ∈ Pct.parse l, p.1.length ≤ 3 * l.length ∧ p.2.length ≤ 3 * l.length := by
  intro p hp
  unfold Pct.parse Pct.pairs at hp
  rw [List.mem_map] at hp
  obtain ⟨t, ht, rfl⟩ := hp
  have h1 := Asc.split_part 38 l t (List.mem_filter.1 ht).1
  have h2 := cut_len1 t [61]
  have h3 := Pct.read_len (Lib.cut t [61]).1
  have h4 := Pct.read_len (Lib.cut t [61]).2.1
  unfold Pct.pairOf
  simp only
  omega
theorem parse_le (l : List UInt8) : (Pct.parse l).length ≤ l.count 38 + 1 := by
  rw [← Pct.count_split]
  exact Pct.pairs_le _
end Go.Proofs.YtoahjdpkhnkfiaaDoor
