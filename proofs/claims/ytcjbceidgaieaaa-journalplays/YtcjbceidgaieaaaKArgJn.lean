/- What a law's walk is told of journals' scripts and rows of bytes that came in. -/
import Derived.Test.YtcjbceidgaieaaaKArgAc
import Derived.Test.YtcjbceidgaieaaaKJnMO
set_option linter.unusedVariables false
set_option linter.unusedSimpArgs false
namespace Go.Proofs.Ytcjbceidgaieaaa
open Go.RowKit Go.ChangeShapes Go.WideShapes
/-- Rows of bytes that came in. -/
def ArgBB (w : World) (v : Value) (ls : List (List UInt8)) : Prop := RBs w v ls ∧ ls.length ≤ maxLen ∧ ∀ l ∈ ls, l.length ≤ maxLen
theorem rows_in {H : Type} {enc : TypeId × Value → H} {W : World} {base : Nat} {sp : Nat → Bool} {held : Bool} {fuel : Nat} {v : Value} {x : DataW H × List MemPlace}
    (h : DataW.trod enc Try.prog W base sp held fuel 38 [v] = some x) : ∃ ls, ArgBB W v ls := by
  rcases Go.Deep.open_slice1 Try.underlying38 cells_bs h with ⟨hv, _⟩ | ⟨a, len, cap, m, n, V, D, Pl, hv, _, hl, hm, hmm, hx, hcell⟩
  · cases hv
    exact ⟨[], .inl ⟨_, _, rfl, rfl⟩, Nat.zero_le _, by simp⟩
  · cases hv
    have hlm : len ≤ m := by rw [hmm]; split <;> omega
    obtain ⟨S, hS⟩ := Go.Deep.choose_lt (α := List UInt8) (n := len) (p := fun i s => ∃ x, W.cell? (a.add i) = some x ∧ ArgB W x s) (fun i hi => by
      obtain ⟨c1, c2⟩ := hcell i (by omega)
      obtain ⟨l, hl⟩ := bytes_in c2
      exact ⟨l, _, c1, hl⟩)
    have htl : ((List.range len).map S).length = len := by simp
    refine ⟨(List.range len).map S, ?_, by rw [htl]; omega, ?_⟩
    · by_cases h0 : len = 0
      · subst h0
        exact .inl ⟨_, _, rfl, rfl⟩
      · obtain ⟨b, off, spot⟩ := a
        obtain ⟨x0, hx0, _⟩ := hS 0 (by omega)
        have hspot : spot = none := by simpa [Addr.add] using World.cell?_spot hx0
        subst hspot
        refine .inr ⟨b, off, cap, by rw [htl], by rw [htl]; exact hl, fun j t hj => ?_⟩
        have hjl : j < len := by
          rcases Nat.lt_or_ge j len with h | h
          · exact h
          · rw [List.getElem?_eq_none (by rw [htl]; exact h)] at hj
            cases hj
        rw [List.getElem?_map, List.getElem?_range hjl] at hj
        simp only [Option.map_some, Option.some.injEq] at hj
        subst hj
        obtain ⟨x, h1, h2⟩ := hS j hjl
        rw [add_addr] at h1
        exact ⟨x, h1, h2.1⟩
    · intro l hl
      obtain ⟨i, hi, rfl⟩ := List.mem_map.1 hl
      obtain ⟨x, _, h2⟩ := hS i (List.mem_range.1 hi)
      exact h2.2
theorem arg_BB {H : Type} {enc : TypeId × Value → H} {W : World} {v : Value} {d : DataW H} {ps : List MemPlace} {base : Nat} {sp : Nat → Bool} {held : Bool} (hv : ∃ a n c, v = .slice a n c)
    (h : DataW.Trod enc Try.prog W base sp held 38 v d ps) : ∃ ls, ArgBB W v ls := by
  obtain ⟨fuel, hf⟩ := h
  obtain ⟨a, n, c, rfl⟩ := hv
  exact rows_in (by simpa [Value.cells] using hf)
theorem cellsAj : Try.prog.cellsOf 50 = 8 := by kernel_rfl
theorem cells_bb : Try.prog.cellsOf 38 = 1 := by kernel_rfl
theorem len8 {α : Type} {l : List α} (h : l.length = 8) : ∃ a b c d e f g i, l = [a, b, c, d, e, f, g, i] := by
  match l, h with
  | [a, b, c, d, e, f, g, i], _ => exact ⟨a, b, c, d, e, f, g, i, rfl⟩
theorem len6 {α : Type} {l : List α} (h : l.length = 6) : ∃ a b c d e f, l = [a, b, c, d, e, f] := by
  match l, h with
  | [a, b, c, d, e, f], _ => exact ⟨a, b, c, d, e, f, rfl⟩
set_option maxRecDepth 100000 in
theorem act10_in {H : Type} {enc : TypeId × Value → H} {W : World} {base : Nat} {sp : Nat → Bool} {held : Bool} (fuel : Nat) (cs : List Value) (x : DataW H × List MemPlace) (h : DataW.trod enc Try.prog W base sp held fuel 50 cs = some x) :
    ∃ a, cs = (jX a).toList ∧ AjOK W a := by
  obtain ⟨xs, n, hn, hx, hl, hlen, hf⟩ := DataW.trod_struct Try.underlying50 h
  rw [cellsAj] at hl
  obtain ⟨x0, x1, x2, x3, x4, x5, x6, x7, rfl⟩ := len8 hl
  obtain ⟨y0, y1, y2, y3, y4, y5, rfl⟩ := len6 (show xs.length = 6 from hlen)
  have h0 : DataW.trod enc Try.prog W base sp held n 5 [x0] = some y0 := by have := hf 0 _ rfl; simpa [cellsU] using this
  have h1 : DataW.trod enc Try.prog W base sp held n 38 [x1] = some y1 := by have := hf 1 _ rfl; simpa [cells_bb] using this
  have h2 : DataW.trod enc Try.prog W base sp held n 3 [x2] = some y2 := by have := hf 2 _ rfl; simpa [cells_int] using this
  have h3 : DataW.trod enc Try.prog W base sp held n 4 [x3] = some y3 := by have := hf 3 _ rfl; simpa [cells_bool] using this
  have h4 : DataW.trod enc Try.prog W base sp held n 47 [x4, x5] = some y4 := by have := hf 4 _ rfl; simpa [cells_2i] using this
  have h5 : DataW.trod enc Try.prog W base sp held n 48 [x6, x7] = some y5 := by have := hf 5 _ rfl; simpa [cells_2b] using this
  obtain ⟨k, e0, _, w0⟩ := DataW.trod_int Try.underlying5 h0
  obtain ⟨m, e2, _, w2⟩ := DataW.trod_int Try.underlying3 h2
  obtain ⟨q, e3, _⟩ := DataW.trod_bool Try.underlying4 h3
  obtain ⟨ls, hb, hlb, hle⟩ := rows_in h1
  obtain ⟨k0, k1, rfl, rfl, w5, w6⟩ := two_ints h4
  obtain ⟨c0, c1, rfl, rfl⟩ := two_bools h5
  cases e0
  cases e2
  cases e3
  have hk := u8_bd w0
  refine ⟨⟨k.toNat, x1, ls, m, q, k0, k1, c0, c1⟩, ?_, ⟨by show k.toNat ≤ 255; omega, bounds_i64 w2, bounds_i64 w5, bounds_i64 w6, hb, hlb, hle⟩⟩
  show _ = [Value.int .u8 (k.toNat : Int), _, _, _, _, _, _, _]
  rw [show ((k.toNat : Nat) : Int) = k from by omega]
set_option maxRecDepth 100000 in
theorem arg_Js {H : Type} {enc : TypeId × Value → H} {W : World} {v : Value} {d : DataW H} {ps : List MemPlace} {base : Nat} {sp : Nat → Bool} {held : Bool} (hv : ∃ a n c, v = .slice a n c)
    (h : DataW.Trod enc Try.prog W base sp held 22 v d ps) : ∃ as9, ArgJ W v as9 := by
  obtain ⟨fuel, hf⟩ := h
  obtain ⟨a0, n0, c0, rfl⟩ := hv
  have hf2 : DataW.trod enc Try.prog W base sp held fuel 22 [.slice a0 n0 c0] = some (d, ps) := by simpa [Value.cells] using hf
  rcases DataW.trod_slice Try.underlying22 hf2 with ⟨hv, _⟩ | ⟨a, len, cap, elems, rest, n', hn', hv, hx3, hb, hle, hm, hlen, hel, _, _⟩
  · cases hv
    exact ⟨[], .inl ⟨_, _, rfl, rfl, fun _ => rfl⟩, Nat.zero_le _⟩
  · cases hv
    rw [cellsAj] at hel
    haveI : Inhabited Aj := ⟨⟨0, .slice none 0 0, [], 0, false, 0, 0, false, false⟩⟩
    obtain ⟨T, hT⟩ := Go.Deep.choose_lt (α := Aj) (n := n0) (p := fun i t => W.cells? base (a.add (i * 8)) 8 = some (jX t).toList ∧ AjOK W t) (fun i hi => by
      have hk := hel i hi
      rw [List.getElem?_eq_getElem (by omega)] at hk
      obtain ⟨cs', c1, c2⟩ := Option.bind_eq_some_iff.1 hk
      obtain ⟨t, rfl, ht⟩ := act10_in n' cs' _ c2
      exact ⟨t, c1, ht⟩)
    have htl : ((List.range n0).map T).length = n0 := by simp
    refine ⟨(List.range n0).map T, ?_, by rw [htl]; omega⟩
    by_cases h0 : n0 = 0
    · subst h0
      exact .inl ⟨_, _, rfl, rfl, fun e => by cases e⟩
    · obtain ⟨b, off, spot⟩ := a
      obtain ⟨c1, _⟩ := hT 0 (by omega)
      have c0 := (World.cells?_some c1).2.2 0 (by omega)
      have hspot : spot = none := by simpa [Addr.add] using World.cell?_spot (c0.trans (rfl : _ = some (Value.int .u8 ((T 0).kind : Int))))
      subst hspot
      refine .inr ⟨b, off, _, by rw [htl], by rw [htl]; exact hle, cell_lt (c0.trans (rfl : _ = some (Value.int .u8 ((T 0).kind : Int)))), fun j t hj => ?_⟩
      rw [List.getElem?_map] at hj
      have hjl : j < n0 := by
        rcases Nat.lt_or_ge j n0 with h | h
        · exact h
        · rw [List.getElem?_eq_none (by simpa using h)] at hj
          cases hj
      rw [List.getElem?_range hjl] at hj
      simp only [Option.map_some, Option.some.injEq] at hj
      subst hj
      obtain ⟨c1, hr⟩ := hT j hjl
      have hall := (World.cells?_some c1).2.2
      refine ⟨fun i x hx => ?_, hr⟩
      have hi : i < 8 := (List.getElem?_eq_some_iff.1 hx).1
      have := hall i hi
      rw [hx] at this
      simpa [Go.WideShapes.add_plain] using this
set_option maxRecDepth 100000 in
theorem arg_Aj {H : Type} {enc : TypeId × Value → H} {W : World} {v : Value} {d : DataW H} {ps : List MemPlace} {base : Nat} {sp : Nat → Bool} {held : Bool} {r : Reach} {b0 : Nat} (hv : Value.okWide Try.prog W r b0 50 v)
    (h : DataW.Trod enc Try.prog W base sp held 50 v d ps) : ∃ a, v = jV a ∧ AjOK W a := by
  obtain ⟨cs, rfl, hsz⟩ := okWide_struct Try.underlying50 hv
  obtain ⟨fuel, hf⟩ := h
  obtain ⟨a, ha, hA⟩ := act10_in fuel _ _ hf
  refine ⟨a, ?_, hA⟩
  have : cs.toList = (jX a).toList := by simpa [Value.cells] using ha
  show Value.agg cs = .agg (jX a)
  rw [Array.toList_inj.1 this]
end Go.Proofs.Ytcjbceidgaieaaa
