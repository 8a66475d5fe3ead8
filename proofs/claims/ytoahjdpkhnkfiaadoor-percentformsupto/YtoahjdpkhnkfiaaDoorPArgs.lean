/- What a law's walk is told of a slice of pairs that came in, and of a listed world's shape. -/
import Derived.Test.YtoahjdpkhnkfiaaDoorPForm
import Derived.Test.YtoahjdpkhnkfiaaDoorRows
import Derived.Deep.SlicePairs
import Derived.ChangeSlices
import Derived.SliceStrings
import Derived.SizedLaws
namespace Go.Proofs.YtoahjdpkhnkfiaaDoor
open Go.RowKit Go.ChangeShapes
/-- A whole number among the package-level variables. -/
theorem int_of_shape {P : Program} {w : World} {g : Nat} {t : TypeId} {zero : Array Value} (h : w.ShapedOpen P) (hg : g < P.globals.size)
    (h0 : ((begin P (fun _ _ => 0) default).world.heap[g]?).bind Obj.row? = some (zero, t)) (hz : zero.size = 1)
    (hb : P.buildable t = true) (hc : P.cellTypes P.depth t = some [t]) (hu : P.underlying t = some (.int .i64)) : ∃ m, w.cell? ⟨g, 0, none⟩ = some (.int .i64 m) := by
  obtain ⟨cs, hh, hs, hr⟩ := h.1 g zero t hg h0
  obtain ⟨ts, hts, _, hall⟩ := hr hb
  rw [hc] at hts
  cases hts
  have h1 : 0 < cs.size := by omega
  obtain ⟨u, hu', hok⟩ := hall 0 cs[0] (by simp [h1])
  have : u = t := by simpa using hu'.symm
  subst this
  have hcell : w.cell? ⟨g, 0, none⟩ = some cs[0] := by simp [World.cell?, hh, h1]
  rw [hcell]
  unfold Cell.ok at hok
  rw [hu] at hok
  cases hv : cs[0] <;> rw [hv] at hok <;> simp at hok
  case int k m =>
    obtain ⟨rfl, _⟩ := hok
    exact ⟨m, rfl⟩
theorem max_of_shape {w : World} (h : w.ShapedOpen Tryd.prog) : MaxL w :=
  int_of_shape (zero := #[.int .i64 0]) (t := 3) h (of_decide_eq_true (by kernel_rfl)) (by kernel_rfl) rfl (by kernel_rfl) (by kernel_rfl) Tryd.underlying3
/-- A slice of pairs that came in: it reads as these; 'n' bounds each name's and each value's length. -/
def ArgPairs (w : World) (a : Option Addr) (len cap : Nat) (n : Nat) (ps : List Pct.Pr) : Prop :=
  len = ps.length ∧ len ≤ maxLen ∧ ReadsPairs w (.slice a len cap) ps ∧ ∀ p ∈ ps, p.1.length ≤ n ∧ p.2.length ≤ n
theorem bulk_part {H : Type} {d : DataW H} {l : List (DataW H)} (h : d ∈ l) : Rows.uptoBulk d ≤ Rows.uptoBulkAll l := by
  induction l with
  | nil => cases h
  | cons x r ih =>
    simp only [Rows.uptoBulkAll]
    rcases List.mem_cons.1 h with rfl | e
    · omega
    · have := ih e; omega
theorem arg_pairs {H : Type} {enc : TypeId × Value → H} {W : World} {a : Option Addr} {len cap : Nat} {d : DataW H} {pl : List MemPlace} {base : Nat} {sp : Nat → Bool} {held : Bool}
    (h : DataW.Trod enc Tryd.prog W base sp held 27 (.slice a len cap) d pl) : ∃ ps, ArgPairs W a len cap (Rows.uptoBulk d) ps := by
  obtain ⟨fuel, hf⟩ := h
  rcases Go.Deep.open_slice_pairs Tryd.underlying27 Tryd.underlying49 (by kernel_rfl) rfl rfl (by kernel_rfl) (by kernel_rfl) hf with ⟨hcs, _⟩ | ⟨x, l, c, m, n, V0, V1, D0, D1, P0, P1, hcs, _, hl, hm, hmm, hx, hcell⟩
  · simp [Value.cells] at hcs
    obtain ⟨rfl, rfl, rfl⟩ := hcs
    exact ⟨[], rfl, Nat.zero_le _, .inl ⟨_, _, rfl, rfl⟩, by simp⟩
  · simp [Value.cells] at hcs
    obtain ⟨rfl, rfl, rfl⟩ := hcs
    have hlm : len ≤ m := by rw [hmm]; split <;> omega
    have each : ∀ i, i < len → ∃ q : ByteArray × ByteArray, W.cell? (x.add (i * 2)) = some (.string q.1) ∧ W.cell? (x.add (i * 2 + 1)) = some (.string q.2) ∧ D0 i = .lit (.string q.1.data.toList) ∧ D1 i = .lit (.string q.2.data.toList) := by
      intro i hi
      obtain ⟨c0, c1, t0, t1⟩ := hcell i (by omega)
      obtain ⟨s0, e0, d0, _⟩ := DataW.trod_string Tryd.underlying9 t0
      obtain ⟨s1, e1, d1, _⟩ := DataW.trod_string Tryd.underlying9 t1
      simp at e0 e1
      rw [e0] at c0
      rw [e1] at c1
      exact ⟨(s0, s1), c0, c1, congrArg Prod.fst d0, congrArg Prod.fst d1⟩
    obtain ⟨S, hS⟩ : ∃ S : Nat → ByteArray × ByteArray, ∀ i, i < len → W.cell? (x.add (i * 2)) = some (.string (S i).1) ∧ W.cell? (x.add (i * 2 + 1)) = some (.string (S i).2) ∧ D0 i = .lit (.string (S i).1.data.toList) ∧ D1 i = .lit (.string (S i).2.data.toList) := by
      refine ⟨fun i => if h : i < len then (each i h).choose else (ByteArray.empty, ByteArray.empty), fun i hi => ?_⟩
      simp only [hi, dif_pos]
      exact (each i hi).choose_spec
    have htl : ((List.range len).map fun i => ((S i).1.data.toList, (S i).2.data.toList)).length = len := by simp
    refine ⟨(List.range len).map fun i => ((S i).1.data.toList, (S i).2.data.toList), htl.symm, by omega, ?_, ?_⟩
    · by_cases h0 : len = 0
      · subst h0
        exact .inl ⟨_, _, rfl, rfl⟩
      · obtain ⟨b, off, spot⟩ := x
        have hspot : spot = none := by simpa [Addr.add] using World.cell?_spot (hS 0 (by omega)).1
        subst hspot
        refine .inr ⟨b, off, cap, by rw [htl], by rw [htl]; exact hl, fun j p hj => ?_⟩
        rw [List.getElem?_map] at hj
        have hjl : j < len := by
          rcases Nat.lt_or_ge j len with h | h
          · exact h
          · rw [List.getElem?_eq_none (by simpa using h)] at hj
            cases hj
        rw [List.getElem?_range hjl] at hj
        simp only [Option.map_some, Option.some.injEq] at hj
        subst hj
        have := hS j hjl
        rw [add_addr, add_addr] at this
        refine ⟨?_, ?_⟩
        · rw [this.1, strV_data]
        · rw [show off + j * 2 + 1 = off + (j * 2 + 1) from by omega, this.2.1, strV_data]
    · intro p hp
      rw [List.mem_map] at hp
      obtain ⟨i, hi, rfl⟩ := hp
      have hil : i < len := by simpa using hi
      have hd : d = _ := congrArg Prod.fst hx
      have hD := hS i hil
      rw [hd]
      have h1 : Rows.uptoBulk (.agg [D0 i, D1 i]) ≤ Rows.uptoBulkAll ((List.range len).map fun i => DataW.agg [D0 i, D1 i]) := bulk_part (List.mem_map.2 ⟨i, hi, rfl⟩)
      rw [hD.2.2.1, hD.2.2.2] at h1
      simp only [Rows.uptoBulk, Rows.uptoBulkAll] at h1 ⊢
      omega
end Go.Proofs.YtoahjdpkhnkfiaaDoor
