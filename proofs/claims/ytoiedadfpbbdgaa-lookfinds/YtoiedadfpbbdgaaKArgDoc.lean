/- What a law's walk is told of a document that came in. -/
import Derived.Test.YtoiedadfpbbdgaaKTreAE
import Derived.SliceStrings
import Derived.SizedLaws
import Derived.OpenShut
import Derived.ChangeArms
import Derived.Deep.Slices
import Derived.Deep.SlicePairs
set_option linter.unusedVariables false
namespace Tre
/-- A node whose texts and lists are of a size that a machine can hold. -/
structure FitN (n : Nd) : Prop where
  k1 : -9223372036854775808 ≤ n.kind
  k2 : n.kind ≤ 9223372036854775807
  u1 : -9223372036854775808 ≤ n.up
  u2 : n.up ≤ 9223372036854775807
  name : n.name.length ≤ 140737488351232
  text : n.text.length ≤ 140737488351232
  ats : n.attrs.length ≤ 140737488351232
  kids : n.kids.length ≤ 140737488351232
  each : ∀ p ∈ n.attrs, p.1.length ≤ 140737488351232 ∧ p.2.length ≤ 140737488351232
  ints : ∀ k ∈ n.kids, -9223372036854775808 ≤ k ∧ k ≤ 9223372036854775807
theorem fit_at {ns : List Nd} (h : ∀ n ∈ ns, FitN n) {i : Nat} (hi : i < ns.length) : FitN (ndAt ns i) := h _ (List.mem_of_getElem? (ndAt_get hi))
end Tre
namespace Go.Proofs.Ytoiedadfpbbdgaa
open Go.RowKit Go.ChangeShapes Go.WideShapes
theorem weightsAll_mem13 {H : Type} (P : Program) (e : TypeId) {d : DataW H} {k : Nat} : ∀ (ds : List (DataW H)), d ∈ ds → k ∈ d.weights P e → k ∈ DataW.weightsAll P e ds
  | [], h, _ => by cases h
  | x :: r, h, hk => by
    unfold DataW.weightsAll
    rw [List.mem_append]
    rcases List.mem_cons.1 h with rfl | h
    · exact .inl hk
    · exact .inr (weightsAll_mem13 P e r h hk)
theorem weights_slice13 {H : Type} {P : Program} {t e : TypeId} (ht : P.underlying t = some (.slice e)) (xs ys : List (DataW H)) : (DataW.slice xs ys).weights P t = (xs.length + ys.length) * P.bytesOf e :: (DataW.weightsAll P e xs ++ DataW.weightsAll P e ys) := by
  conv => lhs; unfold DataW.weights
  rw [ht]
theorem weights_struct13 {H : Type} {P : Program} {t : TypeId} {fs : Array Field} (ht : P.underlying t = some (.struct fs)) (xs : List (DataW H)) : (DataW.agg xs).weights P t = DataW.weightsEach P (fs.toList.map (·.type)) xs := by
  conv => lhs; unfold DataW.weights
  rw [ht]
theorem bytes13 : Try.prog.bytesOf 3 = 8 ∧ Try.prog.bytesOf 54 = 32 ∧ Try.prog.bytesOf 50 = 96 := by
  refine ⟨?_, ?_, ?_⟩ <;> kernel_rfl
theorem cells13 : Try.prog.cellsOf 3 = 1 ∧ Try.prog.cellsOf 9 = 1 ∧ Try.prog.cellsOf 48 = 1 ∧ Try.prog.cellsOf 39 = 1 ∧ Try.prog.cellsOf 54 = 2 ∧ Try.prog.cellsOf 50 = 6 ∧ Try.prog.cellsOf 22 = 1 ∧ Try.prog.cellsOf 24 = 1 := by
  refine ⟨?_, ?_, ?_, ?_, ?_, ?_, ?_, ?_⟩ <;> kernel_rfl
section
variable {H : Type} {enc : TypeId × Value → H} {W : World} {base : Nat} {sp : Nat → Bool} {held : Bool} {fuel : Nat}
theorem ints_in {v : Value} {x : DataW H × List MemPlace} (h : DataW.trod enc Try.prog W base sp held fuel 39 [v] = some x) (hw : ∀ n ∈ x.1.weights Try.prog 39, n ≤ reachBytes) :
    ∃ ks : List Int, ReadsIs W v ks ∧ ks.length ≤ 140737488351232 ∧ ∀ k ∈ ks, -9223372036854775808 ≤ k ∧ k ≤ 9223372036854775807 := by
  rcases Go.Deep.open_slice1 Try.underlying39 cells13.1 h with ⟨hv, _⟩ | ⟨a, len, cap, m, n, V, D, Pl, hv, _, hl, hm, hmm, hx, hcell⟩
  · cases hv
    exact ⟨[], .inl ⟨_, _, rfl, rfl⟩, by simp, by simp⟩
  · cases hv
    have hlm : len ≤ m := by rw [hmm]; split <;> omega
    obtain ⟨S, hS⟩ := Go.Deep.choose_lt (α := Int) (n := len) (p := fun i s => W.cell? (a.add i) = some (.int .i64 s) ∧ -9223372036854775808 ≤ s ∧ s ≤ 9223372036854775807) (fun i hi => by
      obtain ⟨c1, c2⟩ := hcell i (by omega)
      obtain ⟨s, e1, _, hk⟩ := DataW.trod_int Try.underlying3 c2
      rw [List.cons.inj e1 |>.1] at c1
      have := bounds_i64 hk
      exact ⟨s, c1, this.1, this.2⟩)
    have htl : ((List.range len).map S).length = len := by simp
    have hlw : len ≤ reachBytes := by
      rw [hx] at hw
      dsimp only at hw
      rw [weights_slice13 Try.underlying39, bytes13.1] at hw
      have := hw _ (List.mem_cons_self ..)
      rw [List.length_map, List.length_range] at this
      omega
    refine ⟨(List.range len).map S, ?_, by rw [htl]; exact hlw, fun k hk => ?_⟩
    · by_cases h0 : len = 0
      · subst h0
        exact .inl ⟨_, _, rfl, rfl⟩
      · obtain ⟨b, off, spot⟩ := a
        have hspot : spot = none := by simpa [Addr.add] using World.cell?_spot (hS 0 (by omega)).1
        subst hspot
        refine .inr ⟨b, off, cap, by rw [htl], by rw [htl]; exact hl, fun j t hj => ?_⟩
        rw [List.getElem?_map] at hj
        have hjl : j < len := by
          rcases Nat.lt_or_ge j len with h | h
          · exact h
          · rw [List.getElem?_eq_none (by simpa using h)] at hj
            cases hj
        rw [List.getElem?_range hjl] at hj
        simp only [Option.map_some, Option.some.injEq] at hj
        subst hj
        have := (hS j hjl).1
        rw [Go.WideShapes.add_plain] at this
        exact this
    · obtain ⟨i, hi, rfl⟩ := List.mem_map.1 hk
      exact (hS i (List.mem_range.1 hi)).2
theorem attrs_in {v : Value} {x : DataW H × List MemPlace} (h : DataW.trod enc Try.prog W base sp held fuel 48 [v] = some x) (hw : ∀ n ∈ x.1.weights Try.prog 48, n ≤ reachBytes) :
    ∃ ps : List Pr, ReadsPairs W v ps ∧ ps.length ≤ 140737488351232 ∧ ∀ p ∈ ps, p.1.length ≤ 140737488351232 ∧ p.2.length ≤ 140737488351232 := by
  rcases Go.Deep.open_slice_pairs Try.underlying48 Try.underlying54 (by kernel_rfl) rfl rfl (by kernel_rfl) (by kernel_rfl) h with ⟨hv, _⟩ | ⟨a, len, cap, m, n, V0, V1, D0, D1, P0, P1, hv, _, hl, hm, hmm, hx, hcell⟩
  · cases hv
    exact ⟨[], .inl ⟨_, _, rfl, rfl⟩, by simp, by simp⟩
  · cases hv
    have hlm : len ≤ m := by rw [hmm]; split <;> omega
    obtain ⟨S, hS⟩ := Go.Deep.choose_lt (α := ByteArray × ByteArray) (n := len) (p := fun i s => W.cell? (a.add (i * 2)) = some (.string s.1) ∧ W.cell? (a.add (i * 2 + 1)) = some (.string s.2) ∧ D0 i = .lit (.string s.1.data.toList) ∧ D1 i = .lit (.string s.2.data.toList)) (fun i hi => by
      obtain ⟨c0, c1, t0, t1⟩ := hcell i (by omega)
      obtain ⟨s0, e0, d0, _⟩ := DataW.trod_string Try.underlying9 t0
      obtain ⟨s1, e1, d1, _⟩ := DataW.trod_string Try.underlying9 t1
      rw [List.cons.inj e0 |>.1] at c0
      rw [List.cons.inj e1 |>.1] at c1
      exact ⟨(s0, s1), c0, c1, congrArg Prod.fst d0, congrArg Prod.fst d1⟩)
    have htl : ((List.range len).map fun i => ((S i).1.data.toList, (S i).2.data.toList)).length = len := by simp
    have hlw : len ≤ reachBytes ∧ ∀ i, i < len → (S i).1.data.toList.length ≤ reachBytes ∧ (S i).2.data.toList.length ≤ reachBytes := by
      rw [hx] at hw
      dsimp only at hw
      rw [weights_slice13 Try.underlying48, bytes13.2.1] at hw
      refine ⟨?_, fun i hi => ?_⟩
      · have := hw _ (List.mem_cons_self ..)
        rw [List.length_map, List.length_range] at this
        omega
      · have one : ∀ k ∈ (DataW.agg [D0 i, D1 i]).weights Try.prog 54, k ≤ reachBytes := fun k hk => hw k (List.mem_cons_of_mem _ (List.mem_append.2 (.inl (weightsAll_mem13 _ _ _ (List.mem_map.2 ⟨i, List.mem_range.2 hi, rfl⟩) hk))))
        rw [weights_struct13 Try.underlying54, (hS i hi).2.2.1, (hS i hi).2.2.2] at one
        refine ⟨one _ (DataW.weights_mem_each (j := 0) (t := 9) rfl rfl _ ?_), one _ (DataW.weights_mem_each (j := 1) (t := 9) rfl rfl _ ?_)⟩ <;> (unfold DataW.weights; exact List.mem_cons_self ..)
    refine ⟨(List.range len).map fun i => ((S i).1.data.toList, (S i).2.data.toList), ?_, by rw [htl]; exact hlw.1, fun p hp => ?_⟩
    · by_cases h0 : len = 0
      · subst h0
        exact .inl ⟨_, _, rfl, rfl⟩
      · obtain ⟨b, off, spot⟩ := a
        have hspot : spot = none := by simpa [Addr.add] using World.cell?_spot (hS 0 (by omega)).1
        subst hspot
        refine .inr ⟨b, off, cap, by rw [htl], by rw [htl]; exact hl, fun j p hj => ?_⟩
        rw [List.getElem?_map] at hj
        have hjl : j < len := by
          rcases Nat.lt_or_ge j len with h | h
          · exact h
          · rw [List.getElem?_eq_none (by simpa using h)] at hj
            cases hj
        rw [List.getElem?_range hjl] at hj
        simp only [Option.map_some, Option.some.injEq] at hj
        subst hj
        have := hS j hjl
        rw [Go.WideShapes.add_plain, Go.WideShapes.add_plain] at this
        refine ⟨?_, ?_⟩
        · rw [this.1, strV_data]
        · rw [show off + j * 2 + 1 = off + (j * 2 + 1) from by omega, this.2.1, strV_data]
    · obtain ⟨i, hi, rfl⟩ := List.mem_map.1 hp
      exact hlw.2 i (List.mem_range.1 hi)
theorem len6 {α : Type} {l : List α} (h : l.length = 6) : ∃ a b c d e f, l = [a, b, c, d, e, f] := by
  match l, h with
  | [a, b, c, d, e, f], _ => exact ⟨a, b, c, d, e, f, rfl⟩
set_option maxRecDepth 100000 in
theorem node_in {cs : List Value} {x : DataW H × List MemPlace} (h : DataW.trod enc Try.prog W base sp held fuel 50 cs = some x) (hw : ∀ n ∈ x.1.weights Try.prog 50, n ≤ reachBytes) :
    ∃ (n : Nd) (aa : Option Addr) (ac : Nat) (ka : Option Addr) (kc : Nat), cs = nL n aa ac ka kc ∧ ReadsPairs W (.slice aa n.attrs.length ac) n.attrs ∧ ReadsIs W (.slice ka n.kids.length kc) n.kids ∧ Tre.FitN n := by
  obtain ⟨xs, m, hm, hx, hl, hlen, hf⟩ := DataW.trod_struct Try.underlying50 h
  rw [cells13.2.2.2.2.2.1] at hl
  obtain ⟨x0, x1, x2, x3, x4, x5, rfl⟩ := len6 hl
  obtain ⟨y0, y1, y2, y3, y4, y5, rfl⟩ := len6 (show xs.length = 6 from hlen)
  have h0 : DataW.trod enc Try.prog W base sp held m 3 [x0] = some y0 := by have := hf 0 _ rfl; simpa [cells13] using this
  have h1 : DataW.trod enc Try.prog W base sp held m 9 [x1] = some y1 := by have := hf 1 _ rfl; simpa [cells13] using this
  have h2 : DataW.trod enc Try.prog W base sp held m 48 [x2] = some y2 := by have := hf 2 _ rfl; simpa [cells13] using this
  have h3 : DataW.trod enc Try.prog W base sp held m 9 [x3] = some y3 := by have := hf 3 _ rfl; simpa [cells13] using this
  have h4 : DataW.trod enc Try.prog W base sp held m 3 [x4] = some y4 := by have := hf 4 _ rfl; simpa [cells13] using this
  have h5 : DataW.trod enc Try.prog W base sp held m 39 [x5] = some y5 := by have := hf 5 _ rfl; simpa [cells13] using this
  clear hf hl hlen
  subst hx
  dsimp only at hw
  rw [weights_struct13 Try.underlying50] at hw
  have hw1 : ∀ k ∈ y1.1.weights Try.prog 9, k ≤ reachBytes := fun k hk => hw k (DataW.weights_mem_each (j := 1) (t := 9) rfl rfl k hk)
  have hw2 : ∀ k ∈ y2.1.weights Try.prog 48, k ≤ reachBytes := fun k hk => hw k (DataW.weights_mem_each (j := 2) (t := 48) rfl rfl k hk)
  have hw3 : ∀ k ∈ y3.1.weights Try.prog 9, k ≤ reachBytes := fun k hk => hw k (DataW.weights_mem_each (j := 3) (t := 9) rfl rfl k hk)
  have hw5 : ∀ k ∈ y5.1.weights Try.prog 39, k ≤ reachBytes := fun k hk => hw k (DataW.weights_mem_each (j := 5) (t := 39) rfl rfl k hk)
  clear hw
  obtain ⟨kd, e0, _, hkd⟩ := DataW.trod_int Try.underlying3 h0
  obtain ⟨s1, e1, d1, _⟩ := DataW.trod_string Try.underlying9 h1
  obtain ⟨ps, hr2, hl2, he2⟩ := attrs_in h2 hw2
  obtain ⟨s3, e3, d3, _⟩ := DataW.trod_string Try.underlying9 h3
  obtain ⟨up, e4, _, hup⟩ := DataW.trod_int Try.underlying3 h4
  obtain ⟨ks, hr5, hl5, he5⟩ := ints_in h5 hw5
  cases e0
  cases e1
  cases e3
  cases e4
  have hs1 : s1.data.toList.length ≤ 140737488351232 := hw1 _ (by rw [d1]; unfold DataW.weights; exact List.mem_cons_self ..)
  have hs3 : s3.data.toList.length ≤ 140737488351232 := hw3 _ (by rw [d3]; unfold DataW.weights; exact List.mem_cons_self ..)
  have hk2 := bounds_i64 hkd
  have hu2 := bounds_i64 hup
  obtain ⟨aa, ac, rfl⟩ := hr2.form
  obtain ⟨ka, kc, rfl⟩ := hr5.form
  refine ⟨⟨kd, s1.data.toList, ps, s3.data.toList, up, ks⟩, aa, ac, ka, kc, ?_, hr2, hr5, ⟨hk2.1, hk2.2, hu2.1, hu2.2, hs1, hs3, hl2, hl5, he2, he5⟩⟩
  show _ = [Value.int .i64 kd, .string (str s1.data.toList), .slice aa ps.length ac, .string (str s3.data.toList), .int .i64 up, .slice ka ks.length kc]
  rw [str_self, str_self]
instance : Inhabited Tre.Nd := ⟨⟨0, [], [], [], 0, []⟩⟩
theorem nodes_in {v : Value} {x : DataW H × List MemPlace} (h : DataW.trod enc Try.prog W base sp held fuel 22 [v] = some x) (hw : ∀ n ∈ x.1.weights Try.prog 22, n ≤ reachBytes) :
    ∃ ns : List Nd, ReadsN W v ns ∧ ns.length ≤ 140737488351232 ∧ ∀ n ∈ ns, Tre.FitN n := by
  rcases Go.Deep.open_slice Try.underlying22 h with ⟨hv, _⟩ | ⟨a, len, cap, m, n, D, Pl, hv, _, hl, hm, hmm, hx, hcell⟩
  · cases hv
    exact ⟨[], .inl ⟨_, _, rfl, rfl⟩, by simp, by simp⟩
  · cases hv
    have hlm : len ≤ m := by rw [hmm]; split <;> omega
    rw [hx] at hw
    dsimp only at hw
    rw [weights_slice13 Try.underlying22, bytes13.2.2] at hw
    rw [cells13.2.2.2.2.2.1] at hcell
    obtain ⟨S, hS⟩ := Go.Deep.choose_lt (α := Nd) (n := len) (p := fun i s => (∃ aa ac ka kc, W.cells? base (a.add (i * 6)) 6 = some (nL s aa ac ka kc) ∧ ReadsPairs W (.slice aa s.attrs.length ac) s.attrs ∧ ReadsIs W (.slice ka s.kids.length kc) s.kids) ∧ Tre.FitN s) (fun i hi => by
      obtain ⟨cs', c1, c2⟩ := hcell i (by omega)
      obtain ⟨s, aa, ac, ka, kc, rfl, r1, r2, r3⟩ := node_in c2 (fun k hk => hw k (List.mem_cons_of_mem _ (List.mem_append.2 (.inl (weightsAll_mem13 _ _ _ (List.mem_map.2 ⟨i, List.mem_range.2 hi, rfl⟩) hk)))))
      exact ⟨s, ⟨aa, ac, ka, kc, c1, r1, r2⟩, r3⟩)
    have htl : ((List.range len).map S).length = len := by simp
    have hlw : len ≤ reachBytes := by
      have := hw _ (List.mem_cons_self ..)
      rw [List.length_map, List.length_range] at this
      omega
    refine ⟨(List.range len).map S, ?_, by rw [htl]; exact hlw, fun k hk => ?_⟩
    · by_cases h0 : len = 0
      · subst h0
        exact .inl ⟨_, _, rfl, rfl⟩
      · obtain ⟨b, off, spot⟩ := a
        have hspot : spot = none := by
          obtain ⟨⟨aa, ac, ka, kc, c1, _, _⟩, _⟩ := hS 0 (by omega)
          have c0 := (World.cells?_some c1).2.2 0 (by omega)
          simpa [Addr.add] using World.cell?_spot (c0.trans (rfl : _ = some (Value.int .i64 (S 0).kind)))
        subst hspot
        refine .inr ⟨b, off, cap, by rw [htl], by rw [htl]; exact hl, fun j t hj => ?_⟩
        rw [List.getElem?_map] at hj
        have hjl : j < len := by
          rcases Nat.lt_or_ge j len with h | h
          · exact h
          · rw [List.getElem?_eq_none (by simpa using h)] at hj
            cases hj
        rw [List.getElem?_range hjl] at hj
        simp only [Option.map_some, Option.some.injEq] at hj
        subst hj
        obtain ⟨⟨aa, ac, ka, kc, c1, r1, r2⟩, _⟩ := hS j hjl
        have hall := (World.cells?_some c1).2.2
        refine ⟨aa, ac, ka, kc, fun i v hi => ?_, r1, r2⟩
        have hi6 : i < 6 := by
          rcases Nat.lt_or_ge i 6 with h | h
          · exact h
          · rw [List.getElem?_eq_none (by simpa using h)] at hi
            cases hi
        have := hall i hi6
        rw [Go.WideShapes.add_plain, Go.WideShapes.add_plain] at this
        rw [this]
        exact hi
    · obtain ⟨i, hi, rfl⟩ := List.mem_map.1 hk
      exact (hS i (List.mem_range.1 hi)).2
end
/-- A document that came in reads as these nodes, within the form's reach. -/
def ArgDoc (w : World) (v : Value) (ns : List Nd) : Prop := ∃ a c, v = .agg #[.slice a ns.length c] ∧ ReadsN w (.slice a ns.length c) ns ∧ ns.length ≤ 140737488351232 ∧ ∀ n ∈ ns, Tre.FitN n
set_option maxRecDepth 100000 in
theorem arg_Doc {H : Type} {enc : TypeId × Value → H} {W : World} {base : Nat} {spare : Nat → Bool} {held : Bool} {r : Reach} {b0 : Nat} {v : Value} {d : DataW H} {p : List MemPlace} (hv : Value.okWide Try.prog W r b0 24 v) (h : DataW.Trod enc Try.prog W base spare held 24 v d p) (hw : ∀ n ∈ d.weights Try.prog 24, n ≤ reachBytes) : ∃ ns, ArgDoc W v ns := by
  obtain ⟨cs, rfl, hsz⟩ := okWide_struct Try.underlying24 hv
  obtain ⟨fuel, hf⟩ := h
  obtain ⟨xs, m, hm, hx, hl, hlen, hall⟩ := DataW.trod_struct Try.underlying24 hf
  rw [cells13.2.2.2.2.2.2.2] at hsz
  obtain ⟨l⟩ := cs
  match l, hsz with
  | [x0], _ =>
    match xs, hlen with
    | [y0], _ =>
      have h0 : DataW.trod enc Try.prog W base spare held m 22 (List.take (Try.prog.cellsOf 22) [x0]) = some y0 := hall 0 _ rfl
      rw [cells13.2.2.2.2.2.2.1] at h0
      have hd : d = .agg [y0.1] := congrArg Prod.fst hx
      subst hd
      rw [weights_struct13 Try.underlying24] at hw
      have hw0 : ∀ k ∈ y0.1.weights Try.prog 22, k ≤ reachBytes := fun k hk => hw k (DataW.weights_mem_each (j := 0) (t := 22) rfl rfl k hk)
      obtain ⟨ns, r1, r2, r3⟩ := nodes_in h0 hw0
      obtain ⟨a, c, rfl⟩ := r1.form
      exact ⟨ns, a, c, rfl, r1, r2, r3⟩
end Go.Proofs.Ytoiedadfpbbdgaa
