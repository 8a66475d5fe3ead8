/- Contracts of a builder's Write, and of refs.Decode. -/
import Derived.Test.YtdllcnifkiebjaaDoorRfI
import Derived.Test.YtdllcnifkiebjaaDoorYW
import Derived.Test.YtdllcnifkiebjaaDoorURepair
set_option linter.unusedVariables false
set_option linter.unusedSimpArgs false
namespace Go.Proofs.YtdllcnifkiebjaaDoor
open Go.RowKit
theorem builder_keep {T e : TypeId} {B b : Nat} {p : Value} {bs : List Value} {w w' : World} (h : Lib.BuilderAtF T e B b p bs w) (hk : ∀ k, k < w.heap.size → w'.heap[k]? = w.heap[k]?) : Lib.BuilderAtF T e B b p bs w' := by
  obtain ⟨hB, v, hb, hown, hne⟩ := h
  have hlt : b < w.heap.size := (Array.getElem?_eq_some_iff.1 hb).1
  refine ⟨hB, v, (hk b hlt).trans hb, ?_, hne⟩
  refine ⟨hown.1, ?_⟩
  rcases hown.2 with h0 | ⟨g, cap, cur, fz, hv, hB2, hg, rest⟩
  · exact .inl h0
  · exact .inr ⟨g, cap, cur, fz, hv, hB2, (hk g (Array.getElem?_eq_some_iff.1 hg).1).trans hg, rest⟩
theorem builder_below {T e : TypeId} {B b : Nat} {p : Value} {bs : List Value} {w w' : World} (h : Lib.BuilderAtF T e B b p bs w) (hb : Below w.heap.size w w') : Lib.BuilderAtF T e B b p bs w' :=
  builder_keep h fun k hk => hb.block k hk
set_option maxHeartbeats 4000000 in
set_option maxRecDepth 100000 in
theorem Write_used (B b : Nat) (bs : List Value) (v : Value) (l : List UInt8) (w : World) (h : Lib.BuilderAtF 56 5 B b (.pointer (some ⟨b, 0, none⟩)) bs w) (hv : ReadsCells w v (cellsB l)) (hl : 1 ≤ l.length) (hl2 : l.length ≤ 1000) (hlen : bs.length + 1000 ≤ 140737488355328) (hBw : B ≤ w.heap.size) :
    Calls Tryd.prog 38 #[.pointer (some ⟨b, 0, none⟩), v] w fun e w' => (∃ u, e = .returned u) ∧ (Lib.BuilderAtF 56 5 B b (.pointer (some ⟨b, 0, none⟩)) (bs ++ cellsB l) w' ∧ Below B w w') := by
  obtain ⟨i0, hi, hz0, hz1, hz2⟩ := info_parts infoByte
  obtain ⟨sb, so, c, rfl, hr⟩ : ∃ sb so c, v = .slice (some ⟨sb, so, none⟩) l.length c ∧ ∀ (j : Nat) x, (cellsB l)[j]? = some x → w.cell? ((⟨sb, so, none⟩ : Addr).add j) = some x := by
    rcases hv with ⟨a, c, rfl, h0⟩ | ⟨sb, so, c, rfl, _, h3⟩
    · have := congrArg List.length h0
      rw [cellsB_length, List.length_nil] at this
      omega
    · refine ⟨sb, so, c, by rw [cellsB_length], fun j x hj => ?_⟩
      rw [add_addr]
      exact h3 j x hj
  have HR : Hid (∀ (j : Nat) x, (cellsB l)[j]? = some x → w.cell? ((⟨sb, so, none⟩ : Addr).add j) = some x) := hr
  clear hr hv
  obtain ⟨hB, u, hbk, hown, hne⟩ := h
  have c0 : w.cell? ⟨b, 0, none⟩ = some (.pointer (some ⟨b, 0, none⟩)) := by rw [Lib.cell_of_heap hbk]; rfl
  have c1 : w.cell? ⟨b, 1, none⟩ = some u := by rw [Lib.cell_of_heap hbk]; rfl
  have hlt : b < w.heap.size := (Array.getElem?_eq_some_iff.1 hbk).1
  go_enter Tryd.func38, Tryd.ntmps38
  go_wp2_with (go_at_call 59; refine (copyCheck_used b w c0).mono ?_)
  rintro e w1 ⟨rfl, hw⟩
  rw [hw]
  clear hw
  go_wp2_with (at_builtin; refine wpList_append_ownF _ rfl _ _ 34 rfl B 5 i0 (.int .u8 0) 1 1 Tryd.underlying34 hi hz0 hz1 hz2 rfl (by decide) _ _ _ rfl hown ⟨sb, so, none⟩ l.length c (cellsB l) rfl (by rw [cellsB_length, Nat.mul_one]) HR.out (one_cell l) (by unfold maxLen; omega) (by omega) (by omega) ?_)
  intro v' w2 hown' hgrow _
  have hb2 : w2.heap[b]? = some (.cells #[.pointer (some ⟨b, 0, none⟩), u] 56 (0, 0)) := by
    rw [hgrow.block b hlt (fun e => hne e.symm)]
    exact hbk
  have d0 : w2.cell? ⟨b, 0, none⟩ = some (.pointer (some ⟨b, 0, none⟩)) := by rw [Lib.cell_of_heap hb2]; rfl
  have d1 : w2.cell? ⟨b, 1, none⟩ = some u := by rw [Lib.cell_of_heap hb2]; rfl
  have f1 : w2.frozen? ⟨b, 1, none⟩ = false := Lib.frozen_of_heap hb2 1
  obtain ⟨ao, n', cap, rfl⟩ : ∃ ao n' cap, v' = .slice ao n' cap := by
    rcases hown'.2 with ⟨hv, _⟩ | ⟨g, cap, cur, fz, hv, _⟩
    · exact ⟨_, _, _, hv⟩
    · exact ⟨_, _, _, hv⟩
  go_wp2
  go_ret2
  refine ⟨⟨_, rfl⟩, ?_, ?_⟩
  · exact Lib.BuilderAtF.put (T := 56) (e := 5) hB hb2 (bs' := bs ++ cellsB l) (by simpa [cellsB_length] using hown') (by decide)
  · exact ((Below.refl B w).grown hgrow (by omega) (fun k hk => (hown.lt k hk).1)).setCell (p := ⟨b, 1, none⟩) hB _
end Go.Proofs.YtdllcnifkiebjaaDoor
