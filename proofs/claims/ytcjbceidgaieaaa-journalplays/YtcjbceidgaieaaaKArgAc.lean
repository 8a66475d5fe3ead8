/- What a law's walk is told of bytes, acts and scripts that came in. -/
import Derived.Test.YtcjbceidgaieaaaKDkMQ
import Derived.Deep.Slices
import Derived.SizedLaws
import Derived.SliceStrings
import Derived.OpenShut
import Derived.ChangeArms
import Derived.ChangeSame
set_option linter.unusedVariables false
set_option linter.unusedSimpArgs false
namespace Go.Proofs.Ytcjbceidgaieaaa
open Go.RowKit Go.ChangeShapes Go.WideShapes
theorem cellsU : Try.prog.cellsOf 5 = 1 := by kernel_rfl
theorem cellsAc : Try.prog.cellsOf 85 = 9 := by kernel_rfl
theorem cells_int : Try.prog.cellsOf 3 = 1 := by kernel_rfl
theorem cells_bool : Try.prog.cellsOf 4 = 1 := by kernel_rfl
theorem cells_bs : Try.prog.cellsOf 27 = 1 := by kernel_rfl
theorem cells_2i : Try.prog.cellsOf 47 = 2 := by kernel_rfl
theorem cells_2b : Try.prog.cellsOf 48 = 2 := by kernel_rfl
theorem bytes_in {H : Type} {enc : TypeId × Value → H} {W : World} {base : Nat} {sp : Nat → Bool} {held : Bool} {fuel : Nat} {v : Value} {x : DataW H × List MemPlace}
    (h : DataW.trod enc Try.prog W base sp held fuel 27 [v] = some x) : ∃ l, ArgB W v l := by
  rcases Go.Deep.open_slice1 Try.underlying27 cellsU h with ⟨hv, _⟩ | ⟨a, len, cap, m, n, V, D, Pl, hv, _, hl, hm, hmm, hx, hcell⟩
  · cases hv
    exact ⟨[], RB.nil _, Nat.zero_le _⟩
  · cases hv
    have hlm : len ≤ m := by rw [hmm]; split <;> omega
    obtain ⟨S, hS⟩ := Go.Deep.choose_lt (α := UInt8) (n := len) (p := fun i s => W.cell? (a.add i) = some (.int .u8 (s.toNat : Int))) (fun i hi => by
      obtain ⟨c1, c2⟩ := hcell i (by omega)
      obtain ⟨s, e1, e2, hwf⟩ := DataW.trod_int Try.underlying5 c2
      rw [List.cons.inj e1 |>.1] at c1
      have hb : 0 ≤ s ∧ s ≤ 255 := by
        simp only [Lit.wf, Bool.and_eq_true, decide_eq_true_eq] at hwf
        exact hwf
      refine ⟨UInt8.ofNat s.toNat, ?_⟩
      rw [c1]
      have : (UInt8.ofNat s.toNat).toNat = s.toNat := by simp; omega
      rw [this]
      congr 2
      omega)
    have htl : ((List.range len).map S).length = len := by simp
    refine ⟨(List.range len).map S, ?_, by rw [htl]; omega⟩
    by_cases h0 : len = 0
    · subst h0
      exact .inl ⟨_, _, rfl, rfl, fun e => by cases e⟩
    · obtain ⟨b, off, spot⟩ := a
      have hspot : spot = none := by simpa [Addr.add] using World.cell?_spot (hS 0 (by omega))
      subst hspot
      refine .inr ⟨b, off, cap, by rw [htl], by rw [htl]; exact hl, fun j t hj => ?_⟩
      have hjl : j < len := by
        rcases Nat.lt_or_ge j len with h | h
        · exact h
        · rw [List.getElem?_eq_none (by rw [cellsB_length, htl]; exact h)] at hj
          cases hj
      rw [cellsB_at _ j (by rw [htl]; exact hjl)] at hj
      simp only [Option.some.injEq] at hj
      subst hj
      have := hS j hjl
      rw [add_addr] at this
      rw [this]
      simp
theorem arg_B {H : Type} {enc : TypeId × Value → H} {W : World} {v : Value} {d : DataW H} {ps : List MemPlace} {base : Nat} {sp : Nat → Bool} {held : Bool} (hv : ∃ a n c, v = .slice a n c)
    (h : DataW.Trod enc Try.prog W base sp held 27 v d ps) : ∃ l, ArgB W v l := by
  obtain ⟨fuel, hf⟩ := h
  obtain ⟨a, n, c, rfl⟩ := hv
  exact bytes_in (by simpa [Value.cells] using hf)
theorem len9 {α : Type} {l : List α} (h : l.length = 9) : ∃ a b c d e f g i j, l = [a, b, c, d, e, f, g, i, j] := by
  match l, h with
  | [a, b, c, d, e, f, g, i, j], _ => exact ⟨a, b, c, d, e, f, g, i, j, rfl⟩
theorem len7 {α : Type} {l : List α} (h : l.length = 7) : ∃ a b c d e f g, l = [a, b, c, d, e, f, g] := by
  match l, h with
  | [a, b, c, d, e, f, g], _ => exact ⟨a, b, c, d, e, f, g, rfl⟩
set_option maxRecDepth 100000 in
theorem two_ints {H : Type} {enc : TypeId × Value → H} {W : World} {base : Nat} {sp : Nat → Bool} {held : Bool} {n : Nat} {c0 c1 : Value} {y : DataW H × List MemPlace} (h : DataW.trod enc Try.prog W base sp held n 47 [c0, c1] = some y) : ∃ a b : Int, c0 = .int .i64 a ∧ c1 = .int .i64 b ∧ (Lit.int .i64 a).wf = true ∧ (Lit.int .i64 b).wf = true := by
  obtain ⟨xs, m, _, hx, hl, hlen, hall⟩ := DataW.trod_array Try.underlying47 h
  match xs, hlen with
  | [y0, y1], _ =>
    have h0 : DataW.trod enc Try.prog W base sp held m 3 (([c0, c1].drop (0 * Try.prog.cellsOf 3)).take (Try.prog.cellsOf 3)) = some y0 := hall 0 (by omega)
    rw [cells_int] at h0
    have h1 : DataW.trod enc Try.prog W base sp held m 3 (([c0, c1].drop (1 * Try.prog.cellsOf 3)).take (Try.prog.cellsOf 3)) = some y1 := hall 1 (by omega)
    rw [cells_int] at h1
    obtain ⟨x0, e0, _, w0⟩ := DataW.trod_int Try.underlying3 h0
    obtain ⟨x1, e1, _, w1⟩ := DataW.trod_int Try.underlying3 h1
    exact ⟨x0, x1, by simpa using e0, by simpa using e1, w0, w1⟩
set_option maxRecDepth 100000 in
theorem two_bools {H : Type} {enc : TypeId × Value → H} {W : World} {base : Nat} {sp : Nat → Bool} {held : Bool} {n : Nat} {c0 c1 : Value} {y : DataW H × List MemPlace} (h : DataW.trod enc Try.prog W base sp held n 48 [c0, c1] = some y) : ∃ a b : Bool, c0 = .bool a ∧ c1 = .bool b := by
  obtain ⟨xs, m, _, hx, hl, hlen, hall⟩ := DataW.trod_array Try.underlying48 h
  match xs, hlen with
  | [y0, y1], _ =>
    have h0 : DataW.trod enc Try.prog W base sp held m 4 (([c0, c1].drop (0 * Try.prog.cellsOf 4)).take (Try.prog.cellsOf 4)) = some y0 := hall 0 (by omega)
    rw [cells_bool] at h0
    have h1 : DataW.trod enc Try.prog W base sp held m 4 (([c0, c1].drop (1 * Try.prog.cellsOf 4)).take (Try.prog.cellsOf 4)) = some y1 := hall 1 (by omega)
    rw [cells_bool] at h1
    obtain ⟨x0, e0, _⟩ := DataW.trod_bool Try.underlying4 h0
    obtain ⟨x1, e1, _⟩ := DataW.trod_bool Try.underlying4 h1
    exact ⟨x0, x1, by simpa using e0, by simpa using e1⟩
theorem u8_bd {n : Int} (h : (Lit.int .u8 n).wf = true) : 0 ≤ n ∧ n ≤ 255 := by
  simp only [Lit.wf, Bool.and_eq_true, decide_eq_true_eq] at h
  exact h
set_option maxRecDepth 100000 in
theorem act_in {H : Type} {enc : TypeId × Value → H} {W : World} {base : Nat} {sp : Nat → Bool} {held : Bool} (fuel : Nat) (cs : List Value) (x : DataW H × List MemPlace) (h : DataW.trod enc Try.prog W base sp held fuel 85 cs = some x) : ∃ a : Ac, cs = (aX a).toList ∧ AcOK W a := by
  obtain ⟨xs, n, hn, hx, hl, hlen, hf⟩ := DataW.trod_struct Try.underlying85 h
  rw [cellsAc] at hl
  obtain ⟨x0, x1, x2, x3, x4, x5, x6, x7, x8, rfl⟩ := len9 hl
  obtain ⟨y0, y1, y2, y3, y4, y5, y6, rfl⟩ := len7 (show xs.length = 7 from hlen)
  have h0 : DataW.trod enc Try.prog W base sp held n 5 [x0] = some y0 := by have := hf 0 _ rfl; simpa [cellsU] using this
  have h1 : DataW.trod enc Try.prog W base sp held n 3 [x1] = some y1 := by have := hf 1 _ rfl; simpa [cells_int] using this
  have h2 : DataW.trod enc Try.prog W base sp held n 3 [x2] = some y2 := by have := hf 2 _ rfl; simpa [cells_int] using this
  have h3 : DataW.trod enc Try.prog W base sp held n 4 [x3] = some y3 := by have := hf 3 _ rfl; simpa [cells_bool] using this
  have h4 : DataW.trod enc Try.prog W base sp held n 27 [x4] = some y4 := by have := hf 4 _ rfl; simpa [cells_bs] using this
  have h5 : DataW.trod enc Try.prog W base sp held n 47 [x5, x6] = some y5 := by have := hf 5 _ rfl; simpa [cells_2i] using this
  have h6 : DataW.trod enc Try.prog W base sp held n 48 [x7, x8] = some y6 := by have := hf 6 _ rfl; simpa [cells_2b] using this
  obtain ⟨k, e0, _, w0⟩ := DataW.trod_int Try.underlying5 h0
  obtain ⟨f, e1, _, w1⟩ := DataW.trod_int Try.underlying3 h1
  obtain ⟨m, e2, _, w2⟩ := DataW.trod_int Try.underlying3 h2
  obtain ⟨q, e3, _⟩ := DataW.trod_bool Try.underlying4 h3
  obtain ⟨l, hb, hlb⟩ := bytes_in h4
  obtain ⟨k0, k1, rfl, rfl, w5, w6⟩ := two_ints h5
  obtain ⟨c0, c1, rfl, rfl⟩ := two_bools h6
  cases e0
  cases e1
  cases e2
  cases e3
  have hk := u8_bd w0
  refine ⟨⟨k.toNat, f, m, q, x4, l, k0, k1, c0, c1⟩, ?_, ⟨by show k.toNat ≤ 255; omega, bounds_i64 w1, bounds_i64 w2, bounds_i64 w5, bounds_i64 w6, hb, hlb⟩⟩
  show _ = [Value.int .u8 (k.toNat : Int), _, _, _, _, _, _, _, _]
  rw [show ((k.toNat : Nat) : Int) = k from by omega]
set_option maxRecDepth 100000 in
theorem arg_As {H : Type} {enc : TypeId × Value → H} {W : World} {v : Value} {d : DataW H} {ps : List MemPlace} {base : Nat} {sp : Nat → Bool} {held : Bool} (hv : ∃ a n c, v = .slice a n c)
    (h : DataW.Trod enc Try.prog W base sp held 81 v d ps) : ∃ as9, ArgA W v as9 := by
  obtain ⟨fuel, hf⟩ := h
  obtain ⟨a0, n0, c0, rfl⟩ := hv
  have hf2 : DataW.trod enc Try.prog W base sp held fuel 81 [.slice a0 n0 c0] = some (d, ps) := by simpa [Value.cells] using hf
  rcases DataW.trod_slice Try.underlying81 hf2 with ⟨hv, _⟩ | ⟨a, len, cap, elems, rest, n', hn', hv, hx3, hb, hle, hm, hlen, hel, _, _⟩
  · cases hv
    exact ⟨[], .inl ⟨_, _, rfl, rfl, fun _ => rfl⟩, Nat.zero_le _⟩
  · cases hv
    rw [cellsAc] at hel
    haveI : Inhabited Ac := ⟨⟨0, 0, 0, false, .slice none 0 0, [], 0, 0, false, false⟩⟩
    obtain ⟨T, hT⟩ := Go.Deep.choose_lt (α := Ac) (n := n0) (p := fun i t => W.cells? base (a.add (i * 9)) 9 = some (aX t).toList ∧ AcOK W t) (fun i hi => by
      have hk := hel i hi
      rw [List.getElem?_eq_getElem (by omega)] at hk
      obtain ⟨cs', c1, c2⟩ := Option.bind_eq_some_iff.1 hk
      obtain ⟨t, rfl, ht⟩ := act_in n' cs' _ c2
      exact ⟨t, c1, ht⟩)
    have htl : ((List.range n0).map T).length = n0 := by simp
    refine ⟨(List.range n0).map T, ?_, by rw [htl]; omega⟩
    by_cases h0 : n0 = 0
    · subst h0
      exact .inl ⟨_, _, rfl, rfl, fun e => by cases e⟩
    · obtain ⟨b, off, spot⟩ := a
      obtain ⟨c1, _⟩ := hT 0 (by omega)
      have c0 := (World.cells?_some c1).2.2 0 (by omega)
      have hspot : spot = none := by simpa [Addr.add] using World.cell?_spot (c0.trans (rfl : _ = some (Value.int .u8 ((T 0).kind : Int))))
      subst hspot
      refine .inr ⟨b, off, _, by rw [htl], by rw [htl]; exact hle, cell_lt (c0.trans (rfl : _ = some (Value.int .u8 ((T 0).kind : Int)))), fun j t hj => ?_⟩
      rw [List.getElem?_map] at hj
      have hjl : j < n0 := by
        rcases Nat.lt_or_ge j n0 with h | h
        · exact h
        · rw [List.getElem?_eq_none (by simpa using h)] at hj
          cases hj
      rw [List.getElem?_range hjl] at hj
      simp only [Option.map_some, Option.some.injEq] at hj
      subst hj
      obtain ⟨c1, hr⟩ := hT j hjl
      have hall := (World.cells?_some c1).2.2
      refine ⟨fun i x hx => ?_, hr⟩
      have hi : i < 9 := (List.getElem?_eq_some_iff.1 hx).1
      have := hall i hi
      rw [hx] at this
      simpa [Go.WideShapes.add_plain] using this
theorem okWide_struct {P : Program} {W : World} {r : Reach} {b0 : Nat} {t : TypeId} {fs : Array Field} {v : Value} (ht : P.underlying t = some (.struct fs)) (h : Value.okWide P W r b0 t v) : ∃ cs, v = .agg cs ∧ cs.size = P.cellsOf t := by
  simp only [Value.okWide, ht] at h
  obtain ⟨cs, h1, h2, _⟩ := h
  exact ⟨cs, h1, h2⟩
set_option maxRecDepth 100000 in
theorem arg_Ac {H : Type} {enc : TypeId × Value → H} {W : World} {v : Value} {d : DataW H} {ps : List MemPlace} {base : Nat} {sp : Nat → Bool} {held : Bool} {r : Reach} {b0 : Nat} (hv : Value.okWide Try.prog W r b0 85 v)
    (h : DataW.Trod enc Try.prog W base sp held 85 v d ps) : ∃ a, v = aV a ∧ AcOK W a := by
  obtain ⟨cs, rfl, hsz⟩ := okWide_struct Try.underlying85 hv
  obtain ⟨fuel, hf⟩ := h
  obtain ⟨a, ha, hA⟩ := act_in fuel _ _ hf
  refine ⟨a, ?_, hA⟩
  have : cs.toList = (aX a).toList := by simpa [Value.cells] using ha
  show Value.agg cs = .agg (aX a)
  rw [Array.toList_inj.1 this]
end Go.Proofs.Ytcjbceidgaieaaa
