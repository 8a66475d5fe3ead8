/- Contracts said by 'below the heap's end nothing has turned', for laws that call many functions. -/
import Derived.Test.YtoggbikjkccfeabDoorCJoin
import Derived.Test.YtoggbikjkccfeabDoorCLong
namespace Go.Proofs.YtoggbikjkccfeabDoor
open Go.RowKit
theorem bel {w W W' : World} (h : Below w.heap.size w W) (h2 : Below W.heap.size W W') : Below w.heap.size w W' := h.trans (h2.mono h.size)
theorem ReadsTexts.below {w w' : World} {v : Value} {ts : List (List UInt8)} (h : ReadsTexts w v ts) (hb : Below w.heap.size w w') : ReadsTexts w' v ts := by
  rcases h with h | ⟨b, o, c, rfl, hc, hr⟩
  · exact .inl h
  · exact .inr ⟨b, o, c, rfl, hc, fun j t hj => (hb.cell (p := ⟨b, o + j, none⟩) (cell_lt (hr j t hj))).trans (hr j t hj)⟩
theorem Same_bel (a b : ByteArray) (w : World) (ha : a.size ≤ 1000000000) :
    Calls Tryd.prog 12 #[.string a, .string b] w fun e w' => e = .returned (.bool (decide (Asc.lower a.data.toList = Asc.lower b.data.toList))) ∧ Below w.heap.size w w' := by
  refine (Same_any a b w ha).mono ?_
  rintro e w' ⟨rfl, n, rfl⟩
  exact ⟨rfl, below_drewN (Below.refl _ _) n⟩
theorem Texts_bel (v u : Value) (ts us : List (List UInt8)) (w : World) (hv : ReadsTexts w v ts) (hu : ReadsTexts w u us) (hl : ts.length ≤ 1000000000) (hm : us.length ≤ 1000000000) :
    Calls Tryd.prog 11 #[v, u] w fun e w' => e = .returned (.bool (decide (ts = us))) ∧ Below w.heap.size w w' := by
  refine (Texts_any v u ts us w hv hu hl hm).mono ?_
  rintro e w' ⟨rfl, n, rfl⟩
  exact ⟨rfl, below_drewN (Below.refl _ _) n⟩
theorem str_list (a : List UInt8) : (str a).toList = a := by rw [ByteArray.toList_eq, str_data]
theorem str_beq_yes {a b : List UInt8} (h : a = b) : ((str a).toList == (str b).toList) = true := by rw [h]; simp
theorem str_beq_no {a b : List UInt8} (h : ¬ a = b) : ((str a).toList == (str b).toList) = false := by
  rw [str_list, str_list, beq_eq_false_iff_ne]
  exact h
theorem texts_yes (ts : List (List UInt8)) : decide (ts = ts) = true := by simp
end Go.Proofs.YtoggbikjkccfeabDoor
