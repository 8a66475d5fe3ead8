/- What a law's walk is told of a value that came in. -/
import Derived.Test.YtmmpbjpeiclacaaGreatDoorKYkl
import Derived.SliceStrings
import Derived.SizedLaws
import Derived.OpenShut
import Derived.ChangeArms
import Derived.Deep.Slices
set_option linter.unusedVariables false
namespace Jsn
/-- A value whose texts and lists are of a size that a machine can hold. -/
inductive Fit : J → Prop
  | mk {k : Int} {t : List UInt8} {ks : List (List UInt8)} {cs : List J} : -9223372036854775808 ≤ k → k ≤ 9223372036854775807 → t.length ≤ 140737488351232 → ks.length ≤ 140737488351232 → cs.length ≤ 140737488351232 → (∀ x ∈ ks, x.length ≤ 140737488351232) → (∀ c ∈ cs, Fit c) → Fit (.mk k t ks cs)
end Jsn
namespace Go.Proofs.YtmmpbjpeiclacaaGreatDoor
open Go.RowKit Go.ChangeShapes Go.WideShapes
theorem RCs_of {Q : Nat → Prop} {w : World} {b : Nat} : ∀ (cs : List Jsn.J) (o : Nat), (∀ (j : Nat) (c : Jsn.J), cs[j]? = some c → ∃ x0 x1 x2 x3, w.cell? ⟨b, o + j * 4, none⟩ = some x0 ∧ w.cell? ⟨b, o + j * 4 + 1, none⟩ = some x1 ∧ w.cell? ⟨b, o + j * 4 + 2, none⟩ = some x2 ∧ w.cell? ⟨b, o + j * 4 + 3, none⟩ = some x3 ∧ RV Q w c (vv x0 x1 x2 x3)) → RCs Q w b o cs
  | [], o, _ => trivial
  | c :: cs, o, h => by
    refine ⟨by simpa using h 0 c rfl, RCs_of cs (o + 4) fun j d hd => ?_⟩
    have := h (j + 1) d (by simpa using hd)
    rw [show o + (j + 1) * 4 = o + 4 + j * 4 by omega] at this
    exact this
theorem typV : (Tryz.prog.underlying 27).bind (fun u => match u with | .struct fs => some (fs.toList.map fun f => (f.type, f.offset)) | _ => none) = some [(3, 0), (9, 1), (25, 2), (24, 3)] := by kernel_rfl
theorem cellsV : Tryz.prog.cellsOf 27 = 4 ∧ Tryz.prog.cellsOf 3 = 1 ∧ Tryz.prog.cellsOf 9 = 1 ∧ Tryz.prog.cellsOf 25 = 1 ∧ Tryz.prog.cellsOf 24 = 1 := by
  refine ⟨?_, ?_, ?_, ?_, ?_⟩ <;> kernel_rfl
theorem cell_in {W : World} {a : Addr} {v : Value} (h : W.cell? a = some v) : a.block < W.heap.size := by
  rcases Nat.lt_or_ge a.block W.heap.size with h1 | h1
  · exact h1
  · unfold World.cell? at h
    rw [Array.getElem?_eq_none h1] at h
    cases h
theorem weightsAll_mem {H : Type} (P : Program) (e : TypeId) {d : DataW H} {k : Nat} : ∀ (ds : List (DataW H)), d ∈ ds → k ∈ d.weights P e → k ∈ DataW.weightsAll P e ds
  | [], h, _ => by cases h
  | x :: r, h, hk => by
    unfold DataW.weightsAll
    rw [List.mem_append]
    rcases List.mem_cons.1 h with rfl | h
    · exact .inl hk
    · exact .inr (weightsAll_mem P e r h hk)
theorem weights_slice {H : Type} {P : Program} {t e : TypeId} (ht : P.underlying t = some (.slice e)) (xs ys : List (DataW H)) : (DataW.slice xs ys).weights P t = (xs.length + ys.length) * P.bytesOf e :: (DataW.weightsAll P e xs ++ DataW.weightsAll P e ys) := by
  conv => lhs; unfold DataW.weights
  rw [ht]
theorem bytesS : Tryz.prog.bytesOf 9 = 16 ∧ Tryz.prog.bytesOf 27 = 72 := by
  refine ⟨?_, ?_⟩ <;> kernel_rfl
theorem keys_in {H : Type} {enc : TypeId × Value → H} {W : World} {base : Nat} {sp : Nat → Bool} {held : Bool} {fuel : Nat} {v : Value} {x : DataW H × List MemPlace}
    (h : DataW.trod enc Tryz.prog W base sp held fuel 25 [v] = some x) (hw : ∀ n ∈ x.1.weights Tryz.prog 25, n ≤ reachBytes) : ∃ ks : List (List UInt8), RTs (fun _ => True) W ks v ∧ ks.length ≤ 140737488351232 ∧ ∀ t ∈ ks, t.length ≤ 140737488351232 := by
  rcases Go.Deep.open_slice1 Tryz.underlying25 cellsV.2.2.1 h with ⟨hv, _⟩ | ⟨a, len, cap, m, n, V, D, Pl, hv, _, hl, hm, hmm, hx, hcell⟩
  · cases hv
    exact ⟨[], .inl ⟨_, _, rfl, rfl⟩, by simp, by simp⟩
  · cases hv
    have hlm : len ≤ m := by rw [hmm]; split <;> omega
    obtain ⟨S, hS⟩ := Go.Deep.choose_lt (α := ByteArray) (n := len) (p := fun i s => W.cell? (a.add i) = some (.string s) ∧ D i = .lit (.string s.data.toList)) (fun i hi => by
      obtain ⟨c1, c2⟩ := hcell i (by omega)
      obtain ⟨s, e1, e2, _⟩ := DataW.trod_string Tryz.underlying9 c2
      rw [List.cons.inj e1 |>.1] at c1
      exact ⟨s, c1, congrArg Prod.fst e2⟩)
    have htl : ((List.range len).map fun i => (S i).data.toList).length = len := by simp
    have hlw : len ≤ reachBytes ∧ ∀ i, i < len → (S i).data.toList.length ≤ reachBytes := by
      rw [hx] at hw
      dsimp only at hw
      rw [weights_slice Tryz.underlying25, bytesS.1] at hw
      refine ⟨?_, fun i hi => ?_⟩
      · have := hw _ (List.mem_cons_self ..)
        rw [List.length_map, List.length_range] at this
        omega
      · refine hw _ (List.mem_cons_of_mem _ (List.mem_append.2 (.inl (weightsAll_mem _ _ (d := D i) _ (List.mem_map.2 ⟨i, List.mem_range.2 hi, rfl⟩) ?_))))
        rw [(hS i hi).2]
        unfold DataW.weights
        exact List.mem_cons_self ..
    refine ⟨(List.range len).map fun i => (S i).data.toList, ?_, by rw [htl]; exact hlw.1, ?_⟩
    · by_cases h0 : len = 0
      · subst h0
        exact .inl ⟨_, _, rfl, rfl⟩
      · obtain ⟨b, off, spot⟩ := a
        have hc0 := (hS 0 (by omega)).1
        have hspot : spot = none := by simpa [Addr.add] using World.cell?_spot hc0
        subst hspot
        refine .inr ⟨b, off, cap, trivial, by rw [htl], by rw [htl]; exact hl, ?_, fun j t hj => ?_⟩
        · exact cell_in hc0
        · rw [List.getElem?_map] at hj
          have hjl : j < len := by
            rcases Nat.lt_or_ge j len with h | h
            · exact h
            · rw [List.getElem?_eq_none (by simpa using h)] at hj
              cases hj
          rw [List.getElem?_range hjl] at hj
          simp only [Option.map_some, Option.some.injEq] at hj
          subst hj
          have := (hS j hjl).1
          rw [Go.WideShapes.add_plain] at this
          rw [this, str_self]
    · intro t ht
      obtain ⟨i, hi, rfl⟩ := List.mem_map.1 ht
      exact hlw.2 i (List.mem_range.1 hi)
theorem weights_struct {H : Type} {P : Program} {t : TypeId} {fs : Array Field} (ht : P.underlying t = some (.struct fs)) (xs : List (DataW H)) : (DataW.agg xs).weights P t = DataW.weightsEach P (fs.toList.map (·.type)) xs := by
  conv => lhs; unfold DataW.weights
  rw [ht]
theorem len4 {α : Type} {l : List α} (h : l.length = 4) : ∃ a b c d, l = [a, b, c, d] := by
  match l, h with
  | [a, b, c, d], _ => exact ⟨a, b, c, d, rfl⟩
instance : Inhabited Jsn.J := ⟨.zero⟩
set_option maxRecDepth 100000 in
/-- What a value that came in holds. -/
theorem val_in {H : Type} {enc : TypeId × Value → H} {W : World} {base : Nat} {sp : Nat → Bool} {held : Bool} : ∀ (fuel : Nat) (cs : List Value) (x : DataW H × List MemPlace), DataW.trod enc Tryz.prog W base sp held fuel 27 cs = some x → (∀ n ∈ x.1.weights Tryz.prog 27, n ≤ reachBytes) → ∃ x0 x1 x2 x3 t, cs = [x0, x1, x2, x3] ∧ RV (fun _ => True) W t (vv x0 x1 x2 x3) ∧ Jsn.Fit t := by
  intro fuel
  induction fuel using Nat.strongRecOn with
  | ind fuel ih =>
    intro cs x h hw
    obtain ⟨xs, n, hn, hx, hl, hlen, hf⟩ := DataW.trod_struct Tryz.underlying27 h
    rw [cellsV.1] at hl
    obtain ⟨x0, x1, x2, x3, rfl⟩ := len4 hl
    obtain ⟨y0, y1, y2, y3, rfl⟩ := len4 (show xs.length = 4 from hlen)
    have h0 : DataW.trod enc Tryz.prog W base sp held n 3 [x0] = some y0 := by have := hf 0 _ rfl; simpa [cellsV] using this
    have h1 : DataW.trod enc Tryz.prog W base sp held n 9 [x1] = some y1 := by have := hf 1 _ rfl; simpa [cellsV] using this
    have h2 : DataW.trod enc Tryz.prog W base sp held n 25 [x2] = some y2 := by have := hf 2 _ rfl; simpa [cellsV] using this
    have h3 : DataW.trod enc Tryz.prog W base sp held n 24 [x3] = some y3 := by have := hf 3 _ rfl; simpa [cellsV] using this
    clear hf hl hlen
    subst hx
    rw [weights_struct Tryz.underlying27] at hw
    have hw1 : ∀ k ∈ y1.1.weights Tryz.prog 9, k ≤ reachBytes := fun k hk => hw k (DataW.weights_mem_each (j := 1) (t := 9) rfl rfl k hk)
    have hw2 : ∀ k ∈ y2.1.weights Tryz.prog 25, k ≤ reachBytes := fun k hk => hw k (DataW.weights_mem_each (j := 2) (t := 25) rfl rfl k hk)
    have hw3 : ∀ k ∈ y3.1.weights Tryz.prog 24, k ≤ reachBytes := fun k hk => hw k (DataW.weights_mem_each (j := 3) (t := 24) rfl rfl k hk)
    clear hw
    obtain ⟨kd, e0, _, hkd⟩ := DataW.trod_int Tryz.underlying3 h0
    obtain ⟨s, e1, d1, _⟩ := DataW.trod_string Tryz.underlying9 h1
    cases e0
    cases e1
    have hs : s.data.toList.length ≤ 140737488351232 := hw1 _ (by rw [d1]; unfold DataW.weights; exact List.mem_cons_self ..)
    have hkd2 := bounds_i64 hkd
    obtain ⟨ks, hks, hkl, hkt⟩ := keys_in h2 hw2
    have hkids : ∃ cs : List Jsn.J, RKs (fun _ => True) W cs x3 ∧ cs.length ≤ 140737488351232 ∧ ∀ c ∈ cs, Jsn.Fit c := by
      rcases DataW.trod_slice Tryz.underlying24 h3 with ⟨hv, _⟩ | ⟨a, len, cap, elems, rest, n', hn', hv, hx3, hb, hle, hm, hlen, hel, _, _⟩
      · cases hv
        exact ⟨[], .inl ⟨_, _, rfl, rfl⟩, by simp, by simp⟩
      · cases hv
        subst hx3
        dsimp only at hw3
        rw [weights_slice Tryz.underlying24, bytesS.2] at hw3
        have hlw : len ≤ 140737488351232 := by
          have := hw3 _ (List.mem_cons_self ..)
          rw [List.length_map, hlen] at this
          have hr : reachBytes = 140737488351232 := rfl
          omega
        rw [cellsV.1] at hel
        obtain ⟨T, hT⟩ := Go.Deep.choose_lt (α := Jsn.J) (n := len) (p := fun i t => (∃ z0 z1 z2 z3, W.cells? base (a.add (i * 4)) 4 = some [z0, z1, z2, z3] ∧ RV (fun _ => True) W t (vv z0 z1 z2 z3)) ∧ Jsn.Fit t) (fun i hi => by
          have hk := hel i hi
          rw [List.getElem?_eq_getElem (by omega)] at hk
          obtain ⟨cs', c1, c2⟩ := Option.bind_eq_some_iff.1 hk
          obtain ⟨z0, z1, z2, z3, t, rfl, hr, ht⟩ := ih n' (by omega) cs' _ c2 (fun k hk => hw3 k (List.mem_cons_of_mem _ (List.mem_append.2 (.inl (weightsAll_mem _ _ _ (List.mem_map.2 ⟨_, List.getElem_mem (by omega), rfl⟩) hk)))))
          exact ⟨t, ⟨z0, z1, z2, z3, c1, hr⟩, ht⟩)
        have htl : ((List.range len).map T).length = len := by simp
        refine ⟨(List.range len).map T, ?_, by rw [htl]; exact hlw, ?_⟩
        · by_cases h0 : len = 0
          · subst h0
            exact .inl ⟨_, _, rfl, rfl⟩
          · obtain ⟨b, off, spot⟩ := a
            have hcell : ∀ i, i < len → ∀ j, j < 4 → ∃ z0 z1 z2 z3, W.cells? base ((⟨b, off, spot⟩ : Addr).add (i * 4)) 4 = some [z0, z1, z2, z3] ∧ W.cell? (((⟨b, off, spot⟩ : Addr).add (i * 4)).add j) = [z0, z1, z2, z3][j]? := by
              intro i hi j hj
              obtain ⟨⟨z0, z1, z2, z3, c1, _⟩, _⟩ := hT i hi
              exact ⟨z0, z1, z2, z3, c1, (World.cells?_some c1).2.2 j hj⟩
            obtain ⟨z0, z1, z2, z3, _, c0⟩ := hcell 0 (by omega) 0 (by omega)
            have hspot : spot = none := by simpa [Addr.add] using World.cell?_spot (c0.trans (rfl : _ = some z0))
            subst hspot
            refine .inr ⟨b, off, cap, trivial, by rw [htl], by rw [htl]; exact hle, cell_in (c0.trans (rfl : _ = some z0)), RCs_of _ _ fun j t hj => ?_⟩
            rw [List.getElem?_map] at hj
            have hjl : j < len := by
              rcases Nat.lt_or_ge j len with h | h
              · exact h
              · rw [List.getElem?_eq_none (by simpa using h)] at hj
                cases hj
            rw [List.getElem?_range hjl] at hj
            simp only [Option.map_some, Option.some.injEq] at hj
            subst hj
            obtain ⟨⟨y0, y1, y2, y3, c1, hr⟩, _⟩ := hT j hjl
            have hall := (World.cells?_some c1).2.2
            refine ⟨y0, y1, y2, y3, ?_, ?_, ?_, ?_, hr⟩
            · have := hall 0 (by omega)
              simpa [Go.WideShapes.add_plain] using this
            · have := hall 1 (by omega)
              simpa [Go.WideShapes.add_plain] using this
            · have := hall 2 (by omega)
              simpa [Go.WideShapes.add_plain] using this
            · have := hall 3 (by omega)
              simpa [Go.WideShapes.add_plain] using this
        · intro c hc
          obtain ⟨i, hi, rfl⟩ := List.mem_map.1 hc
          exact (hT i (List.mem_range.1 hi)).2
    obtain ⟨cs, hcs, hcl, hcf⟩ := hkids
    refine ⟨_, _, _, _, .mk kd s.data.toList ks cs, rfl, RV_mk.2 ⟨x2, x3, by rw [str_self], hks, hcs⟩, .mk hkd2.1 hkd2.2 hs hkl hcl hkt hcf⟩
/-- A value that came in reads as a tree, within the form's reach. -/
def ArgV (w : World) (v : Value) (t : Jsn.J) : Prop := RV (fun _ => True) w t v ∧ Jsn.Fit t
set_option maxRecDepth 100000 in
theorem arg_V {H : Type} {enc : TypeId × Value → H} {W : World} {base : Nat} {spare : Nat → Bool} {held : Bool} {r : Reach} {b0 : Nat} {v : Value} {d : DataW H} {p : List MemPlace} (hv : Value.okWide Tryz.prog W r b0 27 v) (h : DataW.Trod enc Tryz.prog W base spare held 27 v d p) (hw : ∀ n ∈ d.weights Tryz.prog 27, n ≤ reachBytes) : ∃ t, ArgV W v t := by
  obtain ⟨cs, rfl, hsz⟩ := okWide_struct Tryz.underlying27 hv
  obtain ⟨fuel, hf⟩ := h
  obtain ⟨x0, x1, x2, x3, t, e, hr, ht⟩ := val_in fuel _ _ hf hw
  have he : cs = #[x0, x1, x2, x3] := by
    apply Array.toList_inj.1
    exact e
  subst he
  exact ⟨t, hr, ht⟩
end Go.Proofs.YtmmpbjpeiclacaaGreatDoor
