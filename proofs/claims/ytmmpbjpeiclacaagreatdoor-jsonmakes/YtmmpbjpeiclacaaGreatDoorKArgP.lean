/- Texts laid as one. -/
import Derived.Test.YtmmpbjpeiclacaaGreatDoorKArgV
import Derived.Test.YtmmpbjpeiclacaaGreatDoorKZef
import Derived.Test.YtmmpbjpeiclacaaGreatDoorKZG
import Derived.Test.YtmmpbjpeiclacaaGreatDoorKZP
import Derived.Deep.AppendLies
import Derived.Test.YtmmpbjpeiclacaaGreatDoorKZX
/- What a law's walk is told of pairs of a text and a value that came in. -/
set_option linter.unusedVariables false
namespace Go.Proofs.YtmmpbjpeiclacaaGreatDoor
open Go.RowKit Go.ChangeShapes Go.WideShapes
/-- A slice reads as these pairs. -/
def RPs (w : World) (ps : List (List UInt8 × Jsn.J)) (v : Value) : Prop :=
  (∃ a c, v = .slice a 0 c ∧ ps = []) ∨ ∃ b o c, v = .slice (some ⟨b, o, none⟩) ps.length c ∧ ps.length ≤ c ∧ b < w.heap.size ∧ ∀ (j : Nat) p, ps[j]? = some p → ∃ x0 x1 x2 x3, w.cell? ⟨b, o + j * 5, none⟩ = some (.string (str p.1)) ∧ w.cell? ⟨b, o + j * 5 + 1, none⟩ = some x0 ∧ w.cell? ⟨b, o + j * 5 + 2, none⟩ = some x1 ∧ w.cell? ⟨b, o + j * 5 + 3, none⟩ = some x2 ∧ w.cell? ⟨b, o + j * 5 + 4, none⟩ = some x3 ∧ RV (fun _ => True) w p.2 (vv x0 x1 x2 x3)
/-- Pairs that came in. -/
def ArgP (w : World) (v : Value) (ps : List (List UInt8 × Jsn.J)) : Prop := RPs w ps v ∧ ps.length ≤ 140737488351232 ∧ ∀ p ∈ ps, p.1.length ≤ 140737488351232 ∧ Jsn.Fit p.2
theorem cellsP : Tryz.prog.cellsOf 29 = 5 := by kernel_rfl
theorem bytesP : Tryz.prog.bytesOf 29 = 88 := by kernel_rfl
theorem len5 {α : Type} {l : List α} (h : l.length = 5) : ∃ a b c d e, l = [a, b, c, d, e] := by
  match l, h with
  | [a, b, c, d, e], _ => exact ⟨a, b, c, d, e, rfl⟩
theorem len2 {α : Type} {l : List α} (h : l.length = 2) : ∃ a b, l = [a, b] := by
  match l, h with
  | [a, b], _ => exact ⟨a, b, rfl⟩
instance : Inhabited (List UInt8 × Jsn.J) := ⟨([], .zero)⟩
set_option maxRecDepth 100000 in
theorem pair_in {H : Type} {enc : TypeId × Value → H} {W : World} {base : Nat} {sp : Nat → Bool} {held : Bool} (fuel : Nat) (cs : List Value) (x : DataW H × List MemPlace) (h : DataW.trod enc Tryz.prog W base sp held fuel 29 cs = some x) (hw : ∀ n ∈ x.1.weights Tryz.prog 29, n ≤ reachBytes) : ∃ (x0 x1 x2 x3 : Value) (p : List UInt8 × Jsn.J), cs = [.string (str p.1), x0, x1, x2, x3] ∧ RV (fun _ => True) W p.2 (vv x0 x1 x2 x3) ∧ p.1.length ≤ 140737488351232 ∧ Jsn.Fit p.2 := by
  obtain ⟨xs, n, hn, hx, hl, hlen, hf⟩ := DataW.trod_struct Tryz.underlying29 h
  rw [cellsP] at hl
  obtain ⟨x0, x1, x2, x3, x4, rfl⟩ := len5 hl
  obtain ⟨y0, y1, rfl⟩ := len2 (show xs.length = 2 from hlen)
  have h0 : DataW.trod enc Tryz.prog W base sp held n 9 [x0] = some y0 := by have := hf 0 _ rfl; simpa [cellsV] using this
  have h1 : DataW.trod enc Tryz.prog W base sp held n 27 [x1, x2, x3, x4] = some y1 := by have := hf 1 _ rfl; simpa [cellsV] using this
  subst hx
  rw [weights_struct Tryz.underlying29] at hw
  have hw0 : ∀ k ∈ y0.1.weights Tryz.prog 9, k ≤ reachBytes := fun k hk => hw k (DataW.weights_mem_each (j := 0) (t := 9) rfl rfl k hk)
  have hw1 : ∀ k ∈ y1.1.weights Tryz.prog 27, k ≤ reachBytes := fun k hk => hw k (DataW.weights_mem_each (j := 1) (t := 27) rfl rfl k hk)
  obtain ⟨s, e1, d1, _⟩ := DataW.trod_string Tryz.underlying9 h0
  cases e1
  have hs : s.data.toList.length ≤ 140737488351232 := hw0 _ (by rw [d1]; unfold DataW.weights; exact List.mem_cons_self ..)
  obtain ⟨z0, z1, z2, z3, t, e, hr, ht⟩ := val_in n _ _ h1 hw1
  cases e
  exact ⟨_, _, _, _, (s.data.toList, t), by rw [str_self], hr, hs, ht⟩
set_option maxRecDepth 100000 in
theorem arg_P {H : Type} {enc : TypeId × Value → H} {W : World} {v : Value} {d : DataW H} {ps : List MemPlace} {base : Nat} {sp : Nat → Bool} {held : Bool} (hv : ∃ a n c, v = .slice a n c)
    (h : DataW.Trod enc Tryz.prog W base sp held 22 v d ps) (hw : ∀ n ∈ d.weights Tryz.prog 22, n ≤ reachBytes) : ∃ qs, ArgP W v qs := by
  obtain ⟨fuel, hf⟩ := h
  obtain ⟨a0, n0, c0, rfl⟩ := hv
  have hf2 : DataW.trod enc Tryz.prog W base sp held fuel 22 [.slice a0 n0 c0] = some (d, ps) := by simpa [Value.cells] using hf
  rcases DataW.trod_slice Tryz.underlying22 hf2 with ⟨hv, _⟩ | ⟨a, len, cap, elems, rest, n', hn', hv, hx3, hb, hle, hm, hlen, hel, _, _⟩
  · cases hv
    exact ⟨[], .inl ⟨_, _, rfl, rfl⟩, by simp, by simp⟩
  · cases hv
    have hd : d = (_, _).1 := congrArg Prod.fst hx3
    dsimp only at hd
    subst hd
    rw [weights_slice Tryz.underlying22, bytesP] at hw
    have hlw : n0 ≤ 140737488351232 := by
      have := hw _ (List.mem_cons_self ..)
      rw [List.length_map, hlen] at this
      have hr : reachBytes = 140737488351232 := rfl
      omega
    rw [cellsP] at hel
    obtain ⟨T, hT⟩ := Go.Deep.choose_lt (α := List UInt8 × Jsn.J) (n := n0) (p := fun i t => (∃ z0 z1 z2 z3, W.cells? base (a.add (i * 5)) 5 = some [.string (str t.1), z0, z1, z2, z3] ∧ RV (fun _ => True) W t.2 (vv z0 z1 z2 z3)) ∧ t.1.length ≤ 140737488351232 ∧ Jsn.Fit t.2) (fun i hi => by
      have hk := hel i hi
      rw [List.getElem?_eq_getElem (by omega)] at hk
      obtain ⟨cs', c1, c2⟩ := Option.bind_eq_some_iff.1 hk
      obtain ⟨z0, z1, z2, z3, t, rfl, hr, ht⟩ := pair_in n' cs' _ c2 (fun k hk => hw k (List.mem_cons_of_mem _ (List.mem_append.2 (.inl (weightsAll_mem _ _ _ (List.mem_map.2 ⟨_, List.getElem_mem (by omega), rfl⟩) hk)))))
      exact ⟨t, ⟨z0, z1, z2, z3, c1, hr⟩, ht⟩)
    have htl : ((List.range n0).map T).length = n0 := by simp
    refine ⟨(List.range n0).map T, ?_, by rw [htl]; exact hlw, ?_⟩
    · by_cases h0 : n0 = 0
      · subst h0
        exact .inl ⟨_, _, rfl, rfl⟩
      · obtain ⟨b, off, spot⟩ := a
        obtain ⟨⟨z0, z1, z2, z3, c1, _⟩, _⟩ := hT 0 (by omega)
        have c0 := (World.cells?_some c1).2.2 0 (by omega)
        have hspot : spot = none := by simpa [Addr.add] using World.cell?_spot (c0.trans (rfl : _ = some (Value.string (str (T 0).1))))
        subst hspot
        refine .inr ⟨b, off, _, by rw [htl], by rw [htl]; exact hle, cell_in (c0.trans (rfl : _ = some (Value.string (str (T 0).1)))), fun j t hj => ?_⟩
        rw [List.getElem?_map] at hj
        have hjl : j < n0 := by
          rcases Nat.lt_or_ge j n0 with h | h
          · exact h
          · rw [List.getElem?_eq_none (by simpa using h)] at hj
            cases hj
        rw [List.getElem?_range hjl] at hj
        simp only [Option.map_some, Option.some.injEq] at hj
        subst hj
        obtain ⟨⟨y0, y1, y2, y3, c1, hr⟩, _⟩ := hT j hjl
        have hall := (World.cells?_some c1).2.2
        refine ⟨y0, y1, y2, y3, ?_, ?_, ?_, ?_, ?_, hr⟩
        · have := hall 0 (by omega)
          simpa [Go.WideShapes.add_plain] using this
        · have := hall 1 (by omega)
          simpa [Go.WideShapes.add_plain] using this
        · have := hall 2 (by omega)
          simpa [Go.WideShapes.add_plain] using this
        · have := hall 3 (by omega)
          simpa [Go.WideShapes.add_plain] using this
        · have := hall 4 (by omega)
          simpa [Go.WideShapes.add_plain] using this
    · intro p hp
      obtain ⟨i, hi, rfl⟩ := List.mem_map.1 hp
      exact (hT i (List.mem_range.1 hi)).2
end Go.Proofs.YtmmpbjpeiclacaaGreatDoor
/- The contract of theirs: pairs, copied. -/
set_option linter.unusedVariables false
set_option linter.unusedSimpArgs false
namespace Go.Proofs.YtmmpbjpeiclacaaGreatDoor
open Go.RowKit
theorem hideP {p : Prop} (h : p) : Hid p := h
/-- A pair's cells. -/
def c5 (q : List UInt8 × V4) : List Value := [.string (str q.1), q.2.1, q.2.2.1, q.2.2.2.1, q.2.2.2.2]
def cellsQ (qs : List (List UInt8 × V4)) : List Value := qs.flatMap c5
theorem cellsQ_len : ∀ qs : List (List UInt8 × V4), (cellsQ qs).length = qs.length * 5
  | [] => rfl
  | q :: qs => by
    unfold cellsQ at *
    rw [List.flatMap_cons, List.length_append, List.length_cons]
    have := cellsQ_len qs
    unfold cellsQ at this
    rw [this]
    simp [c5]
    omega
theorem cellsQ_at : ∀ (qs : List (List UInt8 × V4)) (j : Nat) (q : List UInt8 × V4) (i : Nat), qs[j]? = some q → i < 5 → (cellsQ qs)[j * 5 + i]? = (c5 q)[i]?
  | [], j, q, i, h, _ => by simp at h
  | p :: qs, 0, q, i, h, hi => by
    simp at h
    subst h
    unfold cellsQ
    rw [List.flatMap_cons, List.getElem?_append_left (by simp [c5]; omega)]
    simp
  | p :: qs, j + 1, q, i, h, hi => by
    have := cellsQ_at qs j q i (by simpa using h) hi
    unfold cellsQ at *
    rw [List.flatMap_cons, List.getElem?_append_right (by simp [c5]; omega)]
    rw [← this]
    congr 1
    simp [c5]
    omega
theorem RPs.form {w : World} {ps : List (List UInt8 × Jsn.J)} {v : Value} (h : RPs w ps v) : ∃ a c, v = .slice a ps.length c := by
  rcases h with ⟨a, c, rfl, rfl⟩ | ⟨b, o, c, rfl, _⟩
  · exact ⟨a, c, rfl⟩
  · exact ⟨_, c, rfl⟩
theorem RPs.at {w : World} {ps : List (List UInt8 × Jsn.J)} {a : Option Addr} {n c : Nat} (h : RPs w ps (.slice a n c)) {j : Nat} {p : List UInt8 × Jsn.J} (hj : ps[j]? = some p) : n = ps.length ∧ n ≤ c ∧ ∃ b o, a = some ⟨b, o, none⟩ ∧ b < w.heap.size ∧ ∃ x0 x1 x2 x3, w.cell? ⟨b, o + j * 5, none⟩ = some (.string (str p.1)) ∧ w.cell? ⟨b, o + j * 5 + 1, none⟩ = some x0 ∧ w.cell? ⟨b, o + j * 5 + 2, none⟩ = some x1 ∧ w.cell? ⟨b, o + j * 5 + 3, none⟩ = some x2 ∧ w.cell? ⟨b, o + j * 5 + 4, none⟩ = some x3 ∧ RV (fun _ => True) w p.2 (vv x0 x1 x2 x3) := by
  rcases h with ⟨a', c', he, rfl⟩ | ⟨b, o, c', he, hc, hb, hr⟩
  · simp at hj
  · cases he
    exact ⟨rfl, hc, b, o, rfl, hb, hr j p hj⟩
theorem RPs.below {w w' : World} {ps : List (List UInt8 × Jsn.J)} {v : Value} (h : RPs w ps v) (hB : Below w.heap.size w w') : RPs w' ps v := by
  rcases h with h | ⟨b, o, c, hv, hc, hb, hr⟩
  · exact .inl h
  · refine .inr ⟨b, o, c, hv, hc, by have := hB.size; omega, fun j p hj => ?_⟩
    obtain ⟨x0, x1, x2, x3, e0, e1, e2, e3, e4, hrv⟩ := hr j p hj
    have k := hB.block b hb
    exact ⟨x0, x1, x2, x3, (cell_keep k).trans e0, (cell_keep k).trans e1, (cell_keep k).trans e2, (cell_keep k).trans e3, (cell_keep k).trans e4, hrv.below hB⟩
/-- A pair's zero value. -/
abbrev vp : Value := .agg #[.string ⟨#[]⟩, .int .i64 0, .string ⟨#[]⟩, .slice none 0 0, .slice none 0 0]
theorem infoPair : (Tryz.prog.info? 68).map (fun i => (i.zero, i.size, i.bytes)) = some (some (vp), 5, 88) := by kernel_rfl
theorem RPs_of {w wr : World} {ps : List (List UInt8 × Jsn.J)} {y : Value} {j : Nat} {qs : List (List UInt8 × V4)} (hO : wr.ownsRow w.heap.size 68 5 y j (cellsQ qs)) (hq : qs.length = j) (hR : ∀ (n : Nat) (q : List UInt8 × V4) (p : List UInt8 × Jsn.J), qs[n]? = some q → ps[n]? = some p → q.1 = p.1 ∧ RV (fun _ => True) w p.2 (vv q.2.1 q.2.2.1 q.2.2.2.1 q.2.2.2.2)) (hj : j = ps.length) (hB : Below w.heap.size w wr) : RPs wr ps y := by
  have h0 := hO
  rcases hO.2 with ⟨rfl, hz⟩ | ⟨g, cap, cur, rfl, _, hg, hc, _⟩
  · exact .inl ⟨_, _, rfl, List.eq_nil_of_length_eq_zero (by omega)⟩
  · refine .inr ⟨g, 0, cap, by rw [hj], by omega, (Array.getElem?_eq_some_iff.1 hg).1, fun n p hp => ?_⟩
    have hn : n < ps.length := (List.getElem?_eq_some_iff.1 hp).1
    have hqn : qs[n]? = some qs[n] := List.getElem?_eq_getElem (by omega)
    obtain ⟨e1, e2⟩ := hR n _ p hqn hp
    have hcell : ∀ i, i < 5 → wr.cell? ⟨g, 0 + n * 5 + i, none⟩ = (c5 qs[n])[i]? := fun i hi => by
      rw [← cellsQ_at qs n _ i hqn hi]
      have := World.ownsRow.cellAt h0 (n * 5 + i) (by omega)
      rw [Nat.zero_add]
      exact this
    refine ⟨qs[n].2.1, qs[n].2.2.1, qs[n].2.2.2.1, qs[n].2.2.2.2, ?_, hcell 1 (by omega), hcell 2 (by omega), hcell 3 (by omega), hcell 4 (by omega), e2.below hB⟩
    rw [← e1]
    exact hcell 0 (by omega)
set_option maxHeartbeats 4000000 in
set_option maxRecDepth 100000 in
theorem theirs_any (ps : List (List UInt8 × Jsn.J)) (v : Value) (w : World) (h : RPs w ps v) (hl : ps.length ≤ 100) :
    Calls Tryz.prog 13 #[v] w fun e w' => ∃ v', e = .returned v' ∧ RPs w' ps v' ∧ Below w.heap.size w w' := by
  obtain ⟨a, c, rfl⟩ := h.form
  obtain ⟨i0, hi, hz0, hz1, hz2⟩ := info_parts infoPair
  have H := hideP h
  clear h
  go_enter Tryz.func13, Tryz.ntmps13
  go_wp2
  go_loopw [3, 8] (fun y i wr => ∃ (j : Nat) (qs : List (List UInt8 × V4)), i = .int .i64 j ∧ j ≤ ps.length ∧ qs.length = j ∧ wr.ownsRow w.heap.size 68 5 y j (cellsQ qs) ∧ Hid (∀ (n : Nat) (q : List UInt8 × V4) (p : List UInt8 × Jsn.J), qs[n]? = some q → ps[n]? = some p → q.1 = p.1 ∧ RV (fun _ => True) w p.2 (vv q.2.1 q.2.2.1 q.2.2.2.1 q.2.2.2.2)) ∧ Below w.heap.size w wr) (fun _ i _ => ps.length - (intOf i).toNat)
  case atStart => exact ⟨0, [], rfl, Nat.zero_le _, rfl, World.ownsRow_nil _ _ _ _, fun n q p hq => by simp at hq, Below.refl _ _⟩
  case round =>
    obtain ⟨j, qs, rfl, hj, hql, hO, HR, hB⟩ := hrel
    have HQL := hideP hql
    clear hql
    by_cases hlt : j < ps.length
    · obtain ⟨hnn, hc, b, o, rfl, hbl, x0, x1, x2, x3, e0, e1, e2, e3, e4, hrv⟩ := H.out.at (List.getElem?_eq_getElem hlt)
      clear hnn
      have kg := hB.block b hbl
      have f0 := (cell_keep kg).trans e0
      have f1 := (cell_keep kg).trans e1
      have f2 := (cell_keep kg).trans e2
      have f3 := (cell_keep kg).trans e3
      have f4 := (cell_keep kg).trans e4
      obtain ⟨da, dn, dc, db, dm, dd, hsh⟩ := hrv.shape
      have HRV := hideP hrv
      have HP : Hid (ps[j]? = some ps[j]) := List.getElem?_eq_getElem hlt
      clear e0 e1 e2 e3 e4 hrv
      generalize ps[j] = p at *
      cases hsh
      have hnew := newcells (wr.alloc (.cells #[.string (str p.1), .int .i64 p.2.kind, .string (str p.2.text), .slice da dn dc, .slice db dm dd] 29)) #[.string (str p.1), .int .i64 p.2.kind, .string (str p.2.text), .slice da dn dc, .slice db dm dd] 68
      rw [show (wr.alloc (.cells #[.string (str p.1), .int .i64 p.2.kind, .string (str p.2.text), .slice da dn dc, .slice db dm dd] 29)).heap.size = wr.heap.size + 1 by simp] at hnew
      have HNEW := hideP hnew
      clear hnew
      have hws := hB.size
      go_wp2_with (at_builtin; refine wpList_append_lies _ rfl _ _ 36 rfl w.heap.size 68 i0 vp 5 88 Tryz.underlying36 hi hz0 hz1 hz2 rfl (by decide) _ _ _ rfl (World.ownsRow.alloc (World.ownsRow.alloc hO _) _) ⟨wr.heap.size + 1, 0, none⟩ 1 1 [.string (str p.1), .int .i64 p.2.kind, .string (str p.2.text), .slice da dn dc, .slice db dm dd] rfl rfl HNEW.out (fun x hx => by simp at hx; rcases hx with rfl | rfl | rfl | rfl | rfl <;> rfl) (by decide) (by unfold maxLen; omega) (by omega) (by simp; omega) _ rfl ?_; intro g3 cap3 w3 hO3 hG3 _ _)
      have hql := HQL.out
      refine ⟨⟨j + 1, qs ++ [(p.1, .int .i64 p.2.kind, .string (str p.2.text), .slice da dn dc, .slice db dm dd)], by go_num, by omega, by simp [hql], ?_, ?_, ?_⟩, by simp [intOf]; omega⟩
      · have : cellsQ (qs ++ [(p.1, .int .i64 p.2.kind, .string (str p.2.text), .slice da dn dc, .slice db dm dd)]) = cellsQ qs ++ [.string (str p.1), .int .i64 p.2.kind, .string (str p.2.text), .slice da dn dc, .slice db dm dd] := by
          unfold cellsQ
          rw [List.flatMap_append]
          rfl
        rw [this]
        exact hO3
      · intro n q p' hq hp'
        by_cases hn : n < qs.length
        · rw [List.getElem?_append_left hn] at hq
          exact HR.out n q p' hq hp'
        · have hn2 : n = j := by
            have := (List.getElem?_eq_some_iff.1 hq).1
            simp at this
            omega
          subst hn2
          rw [List.getElem?_append_right (by omega)] at hq
          rw [HP.out] at hp'
          simp [hql] at hq hp'
          subst hq hp'
          exact ⟨rfl, HRV.out⟩
      · exact ((hB.alloc hB.size _).alloc (by simp; omega) _).grown hG3 (by simp; omega) (fun k hk => (World.ownsRow.lt hO k hk).1)
    · have hR := RPs_of hO HQL.out HR.out (by omega) hB
      go_wp2_with fail
      go_ret
      exact ⟨_, rfl, hR, hB⟩
end Go.Proofs.YtmmpbjpeiclacaaGreatDoor
/- The contract of the document's Tables. -/
set_option linter.unusedVariables false
set_option linter.unusedSimpArgs false
namespace Jsn
/-- One pair more: its key repaired, if it is new. -/
def tabS (st : List (List UInt8) × List J) (p : List UInt8 × J) : List (List UInt8) × List J := if Utf.rep p.1 ∈ st.1 then st else (st.1 ++ [Utf.rep p.1], st.2 ++ [p.2])
def tabJ (ps : List (List UInt8 × J)) : J := .mk 6 [] (ps.foldl tabS ([], [])).1 (ps.foldl tabS ([], [])).2
theorem tab_len (ps : List (List UInt8 × J)) : ∀ st, (ps.foldl tabS st).1.length ≤ st.1.length + ps.length ∧ (st.1.length = st.2.length → (ps.foldl tabS st).1.length = (ps.foldl tabS st).2.length) := by
  induction ps with
  | nil => intro st; exact ⟨by simp, fun h => h⟩
  | cons p ps ih =>
    intro st
    have h := ih (tabS st p)
    rw [List.foldl_cons]
    unfold tabS at h ⊢
    by_cases hm : Utf.rep p.1 ∈ st.1
    · rw [if_pos hm] at h ⊢
      exact ⟨by have := h.1; simp; omega, h.2⟩
    · rw [if_neg hm] at h ⊢
      refine ⟨by have := h.1; simp at this ⊢; omega, fun he => h.2 (by simp [he])⟩
end Jsn
namespace Go.Proofs.YtmmpbjpeiclacaaGreatDoor
open Go.RowKit
def c4 (q : V4) : List Value := [q.1, q.2.1, q.2.2.1, q.2.2.2]
def cells4 (qs : List V4) : List Value := qs.flatMap c4
theorem cells4_at : ∀ (qs : List V4) (j : Nat) (q : V4) (i : Nat), qs[j]? = some q → i < 4 → (cells4 qs)[j * 4 + i]? = (c4 q)[i]?
  | [], j, q, i, h, _ => by simp at h
  | p :: qs, 0, q, i, h, hi => by
    simp at h
    subst h
    unfold cells4
    rw [List.flatMap_cons, List.getElem?_append_left (by simp [c4]; omega)]
    simp
  | p :: qs, j + 1, q, i, h, hi => by
    have := cells4_at qs j q i (by simpa using h) hi
    unfold cells4 at *
    rw [List.flatMap_cons, List.getElem?_append_right (by simp [c4]; omega)]
    rw [← this]
    congr 1
    simp [c4]
    omega
def cellsT (ts : List (List UInt8)) : List Value := ts.map fun t => .string (str t)
theorem cellsT_len (ts : List (List UInt8)) : (cellsT ts).length = ts.length := by simp [cellsT]
/-- A row of texts of one's own reads as these. -/
theorem RTs_own {w : World} {B : Nat} {v : Value} {ts : List (List UInt8)} (h : w.ownsRow B 9 1 v ts.length (cellsT ts)) : RTs (fun _ => True) w ts v := by
  have h0 := h
  rcases h.2 with ⟨rfl, hz⟩ | ⟨g, cap, cur, rfl, _, hg, hc, _⟩
  · exact .inl ⟨_, _, rfl, List.eq_nil_of_length_eq_zero hz⟩
  · refine .inr ⟨g, 0, cap, trivial, rfl, hc, (Array.getElem?_eq_some_iff.1 hg).1, fun j t hj => ?_⟩
    have hn : j < ts.length := (List.getElem?_eq_some_iff.1 hj).1
    have := World.ownsRow.cellAt h0 j (by omega)
    rw [Nat.zero_add, this]
    unfold cellsT
    rw [List.getElem?_map, hj]
    rfl
/-- A row of values of one's own reads as these. -/
theorem RKs_own {w wr : World} {B : Nat} {v : Value} {cs : List Jsn.J} {qs : List V4} (h : wr.ownsRow B 27 4 v cs.length (cells4 qs)) (hq : qs.length = cs.length) (hB : Below w.heap.size w wr) (hR : ∀ (n : Nat) (q : V4) (c : Jsn.J), qs[n]? = some q → cs[n]? = some c → RV (fun _ => True) w c (vv q.1 q.2.1 q.2.2.1 q.2.2.2)) : RKs (fun _ => True) wr cs v := by
  have h0 := h
  rcases h.2 with ⟨rfl, hz⟩ | ⟨g, cap, cur, rfl, _, hg, hc, _⟩
  · exact .inl ⟨_, _, rfl, List.eq_nil_of_length_eq_zero hz⟩
  · refine .inr ⟨g, 0, cap, trivial, rfl, hc, (Array.getElem?_eq_some_iff.1 hg).1, RCs_mk fun j c hj => ?_⟩
    have hn : j < cs.length := (List.getElem?_eq_some_iff.1 hj).1
    have hqn : qs[j]? = some qs[j] := List.getElem?_eq_getElem (by omega)
    have hcell : ∀ i, i < 4 → wr.cell? ⟨g, 0 + j * 4 + i, none⟩ = (c4 qs[j])[i]? := fun i hi => by
      rw [← cells4_at qs j _ i hqn hi]
      have := World.ownsRow.cellAt h0 (j * 4 + i) (by omega)
      rw [Nat.zero_add]
      exact this
    exact ⟨_, _, _, _, hcell 0 (by omega), hcell 1 (by omega), hcell 2 (by omega), hcell 3 (by omega), (hR j _ c hqn hj).below hB⟩
theorem apartT {w : World} {B B' e e' s s' : Nat} {v v' : Value} {n n' : Nat} {xs xs' : List Value} (h : w.ownsRow B e s v n xs) (h' : w.ownsRow B' e' s' v' n' xs') (he : e ≠ e') : v.ownBlock = none ∨ v.ownBlock ≠ v'.ownBlock := by
  rcases h.2 with ⟨rfl, _⟩ | ⟨g, cap, cur, rfl, _, hg, _⟩
  · exact .inl rfl
  · right
    rcases h'.2 with ⟨rfl, _⟩ | ⟨g', cap', cur', rfl, _, hg', _⟩
    · simp [Value.ownBlock]
    · intro hh
      simp only [Value.ownBlock, Option.some.injEq] at hh
      subst hh
      rw [hg] at hg'
      simp only [Option.some.injEq, Obj.cells.injEq] at hg'
      exact he hg'.2.1
theorem row_below {w w' : World} {B : Nat} {e : TypeId} {size n : Nat} {v : Value} {xs : List Value} (h : w.ownsRow B e size v n xs) (hb : Below w.heap.size w w') : w'.ownsRow B e size v n xs := by
  refine ⟨h.1, ?_⟩
  rcases h.2 with h0 | ⟨g, cap, cur, hv, h1, hg, hc⟩
  · exact .inl h0
  · exact .inr ⟨g, cap, cur, hv, h1, (hb.block g (Array.getElem?_eq_some_iff.1 hg).1).trans hg, hc⟩
theorem row_set {w : World} {B b i : Nat} {e : TypeId} {size n : Nat} {v u : Value} {xs : List Value} (h : w.ownsRow B e size v n xs) (hb : b < B) : (w.setCell ⟨b, i, none⟩ u).ownsRow B e size v n xs := by
  refine World.ownsRow.kept (row := some b) h ⟨rfl, rfl, rfl, by simp [World.setCell], fun k _ hk => Below.heap_setCell _ _ _ _ (fun e => hk (by rw [e]))⟩ ?_
  right
  intro he
  have := (World.ownsRow.lt h b he).1
  omega
theorem row_setR {w : World} {B b : Nat} {e : TypeId} {size n : Nat} {v : Value} {xs : List Value} {cs : Array Value} (h : w.ownsRow B e size v n xs) (hb : b < B) : (w.setRow b cs).ownsRow B e size v n xs := by
  refine ⟨h.1, ?_⟩
  rcases h.2 with h0 | ⟨g, cap, cur, hv, h1, hg, hc⟩
  · exact .inl h0
  · exact .inr ⟨g, cap, cur, hv, h1, (setRow_other _ (by omega)).trans hg, hc⟩
theorem setRow_below {B c : Nat} {w w' : World} {cs : Array Value} (h : Below B w w') (hc : B ≤ c) : Below B w (w'.setRow c cs) :=
  ⟨h.os, h.tape, h.output, by rw [setRow_len]; exact h.size, fun q hq => by rw [setRow_other _ (show q ≠ c by omega)]; exact h.block q hq⟩
theorem VAt_grown {w w' : World} {b : Nat} {x0 x1 x2 x3 : Value} {row : Option Nat} (h : VAt w b x0 x1 x2 x3) (hG : w.grownBy w' row) (hr : row ≠ some b) : VAt w' b x0 x1 x2 x3 := h.keep (hG.block b h.lt (fun e => hr e.symm))
theorem VAt_other' {w : World} {b c i : Nat} {v : Value} {x0 x1 x2 x3 : Value} (h : VAt w b x0 x1 x2 x3) (hne : b ≠ c) : VAt (w.setCell ⟨c, i, none⟩ v) b x0 x1 x2 x3 := h.keep (Below.heap_setCell _ _ _ _ (fun e => hne e))
theorem own_ne {w : World} {B b : Nat} {e : TypeId} {size n : Nat} {v : Value} {xs : List Value} (h : w.ownsRow B e size v n xs) (hb : b < B) : v.ownBlock ≠ some b := fun he => by
  have := (World.ownsRow.lt h b he).1
  omega
theorem own_form {w : World} {B : Nat} {e : TypeId} {size n : Nat} {v : Value} {xs : List Value} (h : w.ownsRow B e size v n xs) : ∃ a c, v = .slice a n c := by
  rcases h.2 with ⟨rfl, hz⟩ | ⟨g, cap, cur, rfl, _⟩
  · exact ⟨none, 0, by rw [hz]⟩
  · exact ⟨_, _, rfl⟩
theorem key_grown {w w3 w4 : World} {t0 t1 : Value} {kv cv : Value} {n m : Nat} {xs ys : List Value} {z0 z1 z2 z3 : Value} {O : Obj} (hV3 : VAt w3 (w.heap.size + 1) t0 t1 kv cv) (hR3 : VAt w3 w.heap.size z0 z1 z2 z3) (hOk3 : w3.ownsRow (w.heap.size + 2) 9 1 kv n xs) (hOc3 : w3.ownsRow (w.heap.size + 2) 27 4 cv m ys) (hB3 : Below w.heap.size w w3) (hs3 : w.heap.size + 2 ≤ w3.heap.size) (hG : (w3.alloc O).grownBy w4 kv.ownBlock) : VAt w4 (w.heap.size + 1) t0 t1 kv cv ∧ VAt w4 w.heap.size z0 z1 z2 z3 ∧ w4.ownsRow (w.heap.size + 2) 27 4 cv m ys ∧ Below w.heap.size w w4 ∧ w.heap.size + 2 ≤ w4.heap.size := by
  have hVa : VAt (w3.alloc O) (w.heap.size + 1) t0 t1 kv cv := VAtb hV3 ((Below.refl _ _).alloc (Nat.le_refl _) _)
  have hRa : VAt (w3.alloc O) w.heap.size z0 z1 z2 z3 := VAtb hR3 ((Below.refl _ _).alloc (Nat.le_refl _) _)
  have hB4 : Below w.heap.size w w4 := (hB3.alloc hB3.size _).grown hG (by simp; omega) (fun q hq => by have := (World.ownsRow.lt hOk3 q hq).1; omega)
  refine ⟨VAt_grown hVa hG (own_ne hOk3 (by omega)), VAt_grown hRa hG (own_ne hOk3 (by omega)), World.ownsRow.kept (World.ownsRow.alloc hOc3 _) hG (apartT hOc3 hOk3 (by decide)), hB4, ?_⟩
  have := (VAt_grown hVa hG (own_ne hOk3 (by omega))).lt
  omega
theorem kid_grown {w w3 w4 : World} {t0 t1 : Value} {kv cv : Value} {n m : Nat} {xs ys : List Value} {z0 z1 z2 z3 : Value} {O : Obj} (hV3 : VAt w3 (w.heap.size + 1) t0 t1 kv cv) (hR3 : VAt w3 w.heap.size z0 z1 z2 z3) (hOk3 : w3.ownsRow (w.heap.size + 2) 9 1 kv n xs) (hOc3 : w3.ownsRow (w.heap.size + 2) 27 4 cv m ys) (hB3 : Below w.heap.size w w3) (hs3 : w.heap.size + 2 ≤ w3.heap.size) (hG : (w3.alloc O).grownBy w4 cv.ownBlock) : VAt w4 (w.heap.size + 1) t0 t1 kv cv ∧ VAt w4 w.heap.size z0 z1 z2 z3 ∧ w4.ownsRow (w.heap.size + 2) 9 1 kv n xs ∧ Below w.heap.size w w4 ∧ w.heap.size + 2 ≤ w4.heap.size := by
  have hVa : VAt (w3.alloc O) (w.heap.size + 1) t0 t1 kv cv := VAtb hV3 ((Below.refl _ _).alloc (Nat.le_refl _) _)
  have hRa : VAt (w3.alloc O) w.heap.size z0 z1 z2 z3 := VAtb hR3 ((Below.refl _ _).alloc (Nat.le_refl _) _)
  have hB4 : Below w.heap.size w w4 := (hB3.alloc hB3.size _).grown hG (by simp; omega) (fun q hq => by have := (World.ownsRow.lt hOc3 q hq).1; omega)
  refine ⟨VAt_grown hVa hG (own_ne hOc3 (by omega)), VAt_grown hRa hG (own_ne hOc3 (by omega)), World.ownsRow.kept (World.ownsRow.alloc hOk3 _) hG (apartT hOk3 hOc3 (by decide)), hB4, ?_⟩
  have := (VAt_grown hVa hG (own_ne hOc3 (by omega))).lt
  omega
theorem hq_app {w : World} {qs : List V4} {cs : List Jsn.J} {q : V4} {t : Jsn.J} (h : qs.length = cs.length ∧ ∀ (n : Nat) (q : V4) (c : Jsn.J), qs[n]? = some q → cs[n]? = some c → RV (fun _ => True) w c (vv q.1 q.2.1 q.2.2.1 q.2.2.2)) (hq : RV (fun _ => True) w t (vv q.1 q.2.1 q.2.2.1 q.2.2.2)) : (qs ++ [q]).length = (cs ++ [t]).length ∧ ∀ (n : Nat) (r : V4) (c : Jsn.J), (qs ++ [q])[n]? = some r → (cs ++ [t])[n]? = some c → RV (fun _ => True) w c (vv r.1 r.2.1 r.2.2.1 r.2.2.2) := by
  refine ⟨by simp [h.1], fun n r c hr hc => ?_⟩
  by_cases hn : n < qs.length
  · rw [List.getElem?_append_left hn] at hr
    rw [List.getElem?_append_left (by rw [← h.1]; exact hn)] at hc
    exact h.2 n r c hr hc
  · rw [List.getElem?_append_right (by omega)] at hr
    rw [List.getElem?_append_right (by rw [← h.1]; omega)] at hc
    have h0 : n - qs.length = 0 := by
      have := (List.getElem?_eq_some_iff.1 hr).1
      simp at this
      omega
    rw [h0] at hr
    rw [← h.1, h0] at hc
    simp at hr hc
    subst hr hc
    exact hq
set_option maxHeartbeats 8000000 in
set_option maxRecDepth 100000 in
theorem RTables_any (ps : List (List UInt8 × Jsn.J)) (v : Value) (w : World) (h : RPs w ps v) (hl : ps.length ≤ 100) (hk : ∀ p ∈ ps, p.1.length ≤ 300) :
    Calls Tryz.prog 14 #[v] w fun e w' => ∃ v', e = .returned v' ∧ RV (fun _ => True) w' (Jsn.tabJ ps) v' ∧ Below w.heap.size w w' := by
  obtain ⟨a, c, rfl⟩ := h.form
  obtain ⟨i1, gi1, gz0, gz1, gz2⟩ := info_parts infoStr
  obtain ⟨i0, hi, hz0, hz1, hz2⟩ := info_parts infoVal
  have H := hideP h
  have HKL := hideP hk
  clear h hk
  have hB2 : Below w.heap.size w ((w.alloc (.cells #[.int .i64 0, .string ⟨#[]⟩, .slice none 0 0, .slice none 0 0] 27)).alloc (.cells #[.int .i64 6, .string ⟨#[]⟩, .slice none 0 0, .slice none 0 0] 27)) := ((Below.refl _ w).alloc (Nat.le_refl _) _).alloc (by simp) _
  have hR2 : VAt ((w.alloc (.cells #[.int .i64 0, .string ⟨#[]⟩, .slice none 0 0, .slice none 0 0] 27)).alloc (.cells #[.int .i64 6, .string ⟨#[]⟩, .slice none 0 0, .slice none 0 0] 27)) w.heap.size (.int .i64 0) (.string ⟨#[]⟩) (.slice none 0 0) (.slice none 0 0) := VAtb (val_new w _) ((Below.refl _ _).alloc (Nat.le_refl _) _)
  have hV2 : VAt ((w.alloc (.cells #[.int .i64 0, .string ⟨#[]⟩, .slice none 0 0, .slice none 0 0] 27)).alloc (.cells #[.int .i64 6, .string ⟨#[]⟩, .slice none 0 0, .slice none 0 0] 27)) (w.heap.size + 1) (.int .i64 6) (.string ⟨#[]⟩) (.slice none 0 0) (.slice none 0 0) := by
    have := val_new (w.alloc (.cells #[.int .i64 0, .string ⟨#[]⟩, .slice none 0 0, .slice none 0 0] 27)) (.cells #[.int .i64 6, .string ⟨#[]⟩, .slice none 0 0, .slice none 0 0] 27)
    rw [show (w.alloc (.cells #[.int .i64 0, .string ⟨#[]⟩, .slice none 0 0, .slice none 0 0] 27)).heap.size = w.heap.size + 1 by simp] at this
    exact this
  go_enter Tryz.func14, Tryz.ntmps14
  go_upto_region 2 with fail
  generalize (w.alloc (.cells #[.int .i64 0, .string ⟨#[]⟩, .slice none 0 0, .slice none 0 0] 27)).alloc (.cells #[.int .i64 6, .string ⟨#[]⟩, .slice none 0 0, .slice none 0 0] 27) = w2 at *
  go_wp2
  go_loopw [4] (fun i wr => ∃ (j : Nat) (ks : List (List UInt8)) (cs : List Jsn.J) (qs : List V4) (kv cv : Value), i = .int .i64 j ∧ j ≤ ps.length ∧ Hid ((ps.take j).foldl Jsn.tabS ([], []) = (ks, cs)) ∧ VAt wr (w.heap.size + 1) (.int .i64 6) (.string ⟨#[]⟩) kv cv ∧ VAt wr w.heap.size (.int .i64 0) (.string ⟨#[]⟩) (.slice none 0 0) (.slice none 0 0) ∧ wr.ownsRow (w.heap.size + 2) 9 1 kv ks.length (cellsT ks) ∧ wr.ownsRow (w.heap.size + 2) 27 4 cv cs.length (cells4 qs) ∧ Hid (qs.length = cs.length ∧ ∀ (n : Nat) (q : V4) (c : Jsn.J), qs[n]? = some q → cs[n]? = some c → RV (fun _ => True) w c (vv q.1 q.2.1 q.2.2.1 q.2.2.2)) ∧ Below w.heap.size w wr ∧ w.heap.size + 2 ≤ wr.heap.size) (fun i _ => ps.length - (intOf i).toNat)
  case atStart => exact ⟨0, [], [], [], _, _, rfl, Nat.zero_le _, rfl, hV2, hR2, World.ownsRow_nil _ _ _ _, World.ownsRow_nil _ _ _ _, ⟨rfl, fun n q c hq => by simp at hq⟩, hB2, by have := hV2.lt; omega⟩
  case round =>
    obtain ⟨j, ks, cs, qs, kv, cv, rfl, hj, HF, hV, hR, hOk, hOc, HQ, hB, hsz⟩ := hrel
    clear hV2 hR2 hB2
    have hkl : ks.length ≤ 100 ∧ cs.length ≤ 100 := by
      have h1 := Jsn.tab_len (ps.take j) ([], [])
      rw [HF.out] at h1
      have h2 := h1.2 rfl
      have h3 := h1.1
      rw [List.length_take] at h3
      simp at h2 h3
      omega
    obtain ⟨ka, kc, rfl⟩ := own_form hOk
    obtain ⟨ca, cc, rfl⟩ := own_form hOc
    by_cases hlt : j < ps.length
    · obtain ⟨hnn, hc, b, o, rfl, hbl, x0, x1, x2, x3, e0, e1, e2, e3, e4, hrv⟩ := H.out.at (List.getElem?_eq_getElem hlt)
      clear hnn
      obtain ⟨da, dn, dc, db, dm, dd, hsh⟩ := hrv.shape
      have HRV := hideP hrv
      have HP : Hid ((ps.take (j + 1)).foldl Jsn.tabS ([], []) = Jsn.tabS (ks, cs) ps[j]) := by
        show (ps.take (j + 1)).foldl Jsn.tabS ([], []) = _
        rw [List.take_succ_eq_append_getElem hlt, List.foldl_append, HF.out]
        rfl
      have hp3 := HKL.out _ (List.getElem_mem hlt)
      have HCEL : Hid (∀ W, Below w.heap.size w W → W.cell? ⟨b, o + j * 5 + 1, none⟩ = some x0 ∧ W.cell? ⟨b, o + j * 5 + 2, none⟩ = some x1 ∧ W.cell? ⟨b, o + j * 5 + 3, none⟩ = some x2 ∧ W.cell? ⟨b, o + j * 5 + 4, none⟩ = some x3) := fun W hW => ⟨(cell_keep (hW.block b hbl)).trans e1, (cell_keep (hW.block b hbl)).trans e2, (cell_keep (hW.block b hbl)).trans e3, (cell_keep (hW.block b hbl)).trans e4⟩
      have f0 := (cell_keep (hB.block b hbl)).trans e0
      clear e0 e1 e2 e3 e4 hrv HF
      generalize ps[j] = p at *
      cases hsh
      have CR := hideP (RRepair_any p.1 wr (by omega))
      have hrl := Utf.rep_len p.1
      go_upto_region 6 with (go_at_call 10; refine CR.out.mono ?_; rintro e w3 ⟨rfl, hB3⟩)
      have hV3 := VAtb hV hB3
      have hR3 := VAtb hR hB3
      have hOk3 := row_below hOk hB3
      have hOc3 := row_below hOc hB3
      have hB3' := bel hB hB3
      have hs3 : w.heap.size + 2 ≤ w3.heap.size := by have := hB3.size; omega
      clear hV hR hOk hOc hB hB3 hsz CR f0
      have CH := hideP (RHas_any ks (Utf.rep p.1) _ w3 (RTs_own hOk3) (by omega))
      have q2 : w3.cell? ⟨w.heap.size + 1, 2, none⟩ = some (.slice ka ks.length kc) := hV3.cell 2
      by_cases hm : Utf.rep p.1 ∈ ks
      · rw [decide_eq_true hm] at CH
        have HP2 : Hid ((ps.take (j + 1)).foldl Jsn.tabS ([], []) = (ks, cs)) := by show _ = _; rw [HP.out]; unfold Jsn.tabS; rw [if_pos hm]
        clear HP hm
        generalize Utf.rep p.1 = key at *
        go_wp2_with (go_at_call 35; refine CH.out.mono ?_; rintro e w4 ⟨rfl, he⟩; replace he := he.symm; subst he)
        exact ⟨⟨j + 1, ks, cs, qs, _, _, by go_num, by omega, HP2, hV3, hR3, hOk3, hOc3, HQ, hB3', hs3⟩, by simp [intOf]; omega⟩
      · rw [decide_eq_false hm] at CH
        have HP2 : Hid ((ps.take (j + 1)).foldl Jsn.tabS ([], []) = (ks ++ [Utf.rep p.1], cs ++ [p.2])) := by show _ = _; rw [HP.out]; unfold Jsn.tabS; rw [if_neg hm]
        clear HP hm
        generalize Utf.rep p.1 = key at *
        go_upto_region 8 with (first
          | (go_at_call 35; refine CH.out.mono ?_; rintro e w4 ⟨rfl, he⟩; replace he := he.symm; subst he)
          | (at_builtin; refine wpList_append_own _ rfl _ _ 25 rfl (w.heap.size + 2) 9 i1 (.string ByteArray.empty) 1 16 Tryz.underlying25 gi1 gz0 gz1 gz2 rfl (by decide) _ _ _ rfl (World.ownsRow.alloc hOk3 _) ⟨w3.heap.size, 0, none⟩ 1 1 [.string (str key)] rfl rfl (cell_one_new _ _ _) (fun x hx => by simp at hx; subst hx; rfl) (by unfold maxLen; omega) (by omega) (by simp; omega) ?_; intro v' w4 hown' hgrow hnil; obtain ⟨na, nc, rfl⟩ := own_form hown'; obtain ⟨hV4, hR4, hOc4, hB4, hs4⟩ := key_grown hV3 hR3 hOk3 hOc3 hB3' hs3 hgrow; have f4 := hV4.free 2; have q4 := hV4.cell 2))
        have hV5 := hV4.keys (.slice na (ks.length + 1) nc)
        have hR5 := VAt_other' (i := 2) (v := .slice na (ks.length + 1) nc) hR4 (show w.heap.size ≠ w.heap.size + 1 by omega)
        have hOk5 := row_set (b := w.heap.size + 1) (i := 2) (u := .slice na (ks.length + 1) nc) hown' (by omega)
        have hOc5 := row_set (b := w.heap.size + 1) (i := 2) (u := .slice na (ks.length + 1) nc) hOc4 (by omega)
        have hB5 : Below w.heap.size w (w4.setCell ⟨w.heap.size + 1, 2, none⟩ (.slice na (ks.length + 1) nc)) := hB4.setCell (p := ⟨w.heap.size + 1, 2, none⟩) (by simp) _
        have hs5 : w.heap.size + 2 ≤ (w4.setCell ⟨w.heap.size + 1, 2, none⟩ (.slice na (ks.length + 1) nc)).heap.size := by simpa [World.setCell] using hs4
        clear hV4 hR4 hOc4 hB4 hs4 hown' hgrow hnil hV3 hR3 hOk3 hOc3 hB3' hs3 f4 q4 q2 CH
        refine wp_region_held_drew (S := fun _ => True) (by kernel_rfl) trivial (fun hS => ?_)
        generalize w4.setCell ⟨w.heap.size + 1, 2, none⟩ (.slice na (ks.length + 1) nc) = w5 at *
        have hVd : VAt w5.drew (w.heap.size + 1) (.int .i64 6) (.string ⟨#[]⟩) (.slice na (ks.length + 1) nc) (.slice ca cs.length cc) := hV5
        have hRd : VAt w5.drew w.heap.size (.int .i64 0) (.string ⟨#[]⟩) (.slice none 0 0) (.slice none 0 0) := hR5
        have hOkd := ownsRow_drew hOk5
        have hOcd := ownsRow_drew hOc5
        have hBd : Below w.heap.size w w5.drew := hB5.drew
        have hsd : w.heap.size + 2 ≤ w5.drew.heap.size := hs5
        clear hV5 hR5 hOk5 hOc5 hB5 hs5
        generalize w5.drew = wd at *
        obtain ⟨g1, g2, g3, g4⟩ := HCEL.out wd hBd
        have q3 : wd.cell? ⟨w.heap.size + 1, 3, none⟩ = some (.slice ca cs.length cc) := hVd.cell 3
        have q3' : (wd.alloc (.cells #[.int .i64 p.2.kind, .string (str p.2.text), .slice da dn dc, .slice db dm dd] 27)).cell? ⟨w.heap.size + 1, 3, none⟩ = some (.slice ca cs.length cc) := (VAtb hVd ((Below.refl _ _).alloc (Nat.le_refl _) _)).cell 3
        refine takeH 0 30 (.pointer (some ⟨w.heap.size + 1, 3, none⟩)) rfl rfl (by kernel_rfl) (by kernel_rfl) (by kernel_rfl) (fun _ _ _ h => h) (Or.inl ⟨by kernel_rfl, fun W _ => by go_simp⟩) hS ?_
        simp only [Act.put, List.setIfInBounds_toArray, List.set_cons_zero, List.set_cons_succ]
        refine takeH 2 32 (.slice (some ⟨b, o, none⟩) ps.length c) rfl rfl (by kernel_rfl) (by kernel_rfl) (by kernel_rfl) (fun _ _ _ h => h) (Or.inl ⟨by kernel_rfl, fun W _ => by go_simp⟩) hS ?_
        simp only [Act.put, List.setIfInBounds_toArray, List.set_cons_zero, List.set_cons_succ]
        refine takeH 3 33 (.int .i64 j) rfl rfl (by kernel_rfl) (by kernel_rfl) (by kernel_rfl) (fun _ _ _ h => h) (Or.inl ⟨by kernel_rfl, fun W _ => by go_simp⟩) hS ?_
        simp only [Act.put, List.setIfInBounds_toArray, List.set_cons_zero, List.set_cons_succ]
        refine takeH 4 34 (.pointer (some ⟨b, o + j * 5, none⟩)) rfl rfl (by kernel_rfl) (by kernel_rfl) (by kernel_rfl) (fun _ _ _ h => h) (Or.inl ⟨by kernel_rfl, fun W _ => by go_simp⟩) hS ?_
        simp only [Act.put, List.setIfInBounds_toArray, List.set_cons_zero, List.set_cons_succ]
        refine takeH 5 35 (.pointer (some ⟨b, o + j * 5 + 1, none⟩)) rfl rfl (by kernel_rfl) (by kernel_rfl) (by kernel_rfl) (fun _ _ _ h => h) (Or.inl ⟨by kernel_rfl, fun W _ => by go_simp⟩) hS ?_
        simp only [Act.put, List.setIfInBounds_toArray, List.set_cons_zero, List.set_cons_succ]
        refine wpAnyH_ready (rs := [1, 6]) (by kernel_rfl) (by simp) ?_
        refine AllReadyH.cons rfl (fun K hK => ?_) (AllReadyH.cons rfl (fun K hK => ?_) AllReadyH.nil)
        · go_simp
          refine hK.out _ _ trivial (fun hS => ?_)
          clear hK K
          try (simp only [Act.put, List.setIfInBounds_toArray, List.set_cons_zero, List.set_cons_succ])
          refine wpAnyH_ready (rs := [6]) (by kernel_rfl) (by simp) ?_
          refine AllReadyH.cons rfl (fun K hK => ?_) AllReadyH.nil
          go_simp
          refine hK.out _ _ trivial (fun hS => ?_)
          clear hK K
          try (simp only [Act.put, List.setIfInBounds_toArray, List.set_cons_zero, List.set_cons_succ])
          refine wpAnyH_ready (rs := [7]) (by kernel_rfl) (by simp) ?_
          refine AllReadyH.cons rfl (fun K hK => ?_) AllReadyH.nil
          go_simp
          refine hK.out _ _ trivial (fun hS => ?_)
          clear hK K
          try (simp only [Act.put, List.setIfInBounds_toArray, List.set_cons_zero, List.set_cons_succ])
          refine wpAnyH_ready (rs := [8]) (by kernel_rfl) (by simp) ?_
          refine AllReadyH.cons rfl (fun K hK => ?_) AllReadyH.nil
          refine step_append_lies _ rfl _ _ 24 rfl (w.heap.size + 2) 27 i0 (vv (.int .i64 0) (.string ⟨#[]⟩) (.slice none 0 0) (.slice none 0 0)) 4 72 Tryz.underlying24 hi hz0 hz1 hz2 rfl (by decide) _ _ _ rfl (World.ownsRow.alloc hOcd _) ⟨wd.heap.size, 0, none⟩ 1 1 [.int .i64 p.2.kind, .string (str p.2.text), .slice da dn dc, .slice db dm dd] rfl rfl (newcells wd _ _) (fun x hx => by simp at hx; rcases hx with rfl | rfl | rfl | rfl <;> rfl) (by decide) (by unfold maxLen; omega) (by omega) (by simp; omega) _ rfl ?_
          intro g3 cap3 w6 hO6 hG6 _ _
          refine hK.out _ _ trivial (fun hS => ?_)
          clear hK K
          try (simp only [Act.put, List.setIfInBounds_toArray, List.set_cons_zero, List.set_cons_succ])
          obtain ⟨hV6, hR6, hOk6, hB6, hs6⟩ := kid_grown hVd hRd hOkd hOcd hBd hsd hG6
          have f6 := hV6.free 3
          have q6 := hV6.cell 3
          clear hVd hRd hOkd hOcd hBd hsd hG6 q3 q3' g1 g2
          refine takeH 9 39 (.pointer (some ⟨w.heap.size + 1, 3, none⟩)) rfl rfl (by kernel_rfl) (by kernel_rfl) (by kernel_rfl) (fun _ _ _ h => h) (Or.inl ⟨by kernel_rfl, fun W _ => by go_simp⟩) hS ?_
          simp only [Act.put, List.setIfInBounds_toArray, List.set_cons_zero, List.set_cons_succ]
          refine wpAnyH_ready (rs := [10]) (by kernel_rfl) (by simp) ?_
          refine AllReadyH.cons rfl (fun K hK => ?_) AllReadyH.nil
          go_simp
          refine hK.out _ _ trivial (fun hS => ?_)
          clear hK K
          refine wpAnyH_done (by kernel_rfl) ?_ _
          go_wp2
          exact ⟨⟨j + 1, ks ++ [key], cs ++ [p.2], qs ++ [(.int .i64 p.2.kind, .string (str p.2.text), .slice da dn dc, .slice db dm dd)], _, _, by go_num, by omega, HP2, hV6.kids _, VAt_other' hR6 (by omega), row_set (by simpa [cellsT] using hOk6) (by omega), row_set (by simpa [cells4, c4] using hO6) (by omega), hq_app HQ.out HRV.out, hB6.setCell (p := ⟨w.heap.size + 1, 3, none⟩) (by simp) _, by simpa [World.setCell] using hs6⟩, by simp [intOf]; omega⟩
        · go_simp
          refine hK.out _ _ trivial (fun hS => ?_)
          clear hK K
          try (simp only [Act.put, List.setIfInBounds_toArray, List.set_cons_zero, List.set_cons_succ])
          refine wpAnyH_ready (rs := [1, 7]) (by kernel_rfl) (by simp) ?_
          refine AllReadyH.cons rfl (fun K hK => ?_) (AllReadyH.cons rfl (fun K hK => ?_) AllReadyH.nil)
          · go_simp
            refine hK.out _ _ trivial (fun hS => ?_)
            clear hK K
            try (simp only [Act.put, List.setIfInBounds_toArray, List.set_cons_zero, List.set_cons_succ])
            refine wpAnyH_ready (rs := [7]) (by kernel_rfl) (by simp) ?_
            refine AllReadyH.cons rfl (fun K hK => ?_) AllReadyH.nil
            go_simp
            refine hK.out _ _ trivial (fun hS => ?_)
            clear hK K
            try (simp only [Act.put, List.setIfInBounds_toArray, List.set_cons_zero, List.set_cons_succ])
            refine wpAnyH_ready (rs := [8]) (by kernel_rfl) (by simp) ?_
            refine AllReadyH.cons rfl (fun K hK => ?_) AllReadyH.nil
            refine step_append_lies _ rfl _ _ 24 rfl (w.heap.size + 2) 27 i0 (vv (.int .i64 0) (.string ⟨#[]⟩) (.slice none 0 0) (.slice none 0 0)) 4 72 Tryz.underlying24 hi hz0 hz1 hz2 rfl (by decide) _ _ _ rfl (World.ownsRow.alloc hOcd _) ⟨wd.heap.size, 0, none⟩ 1 1 [.int .i64 p.2.kind, .string (str p.2.text), .slice da dn dc, .slice db dm dd] rfl rfl (newcells wd _ _) (fun x hx => by simp at hx; rcases hx with rfl | rfl | rfl | rfl <;> rfl) (by decide) (by unfold maxLen; omega) (by omega) (by simp; omega) _ rfl ?_
            intro g3 cap3 w6 hO6 hG6 _ _
            refine hK.out _ _ trivial (fun hS => ?_)
            clear hK K
            try (simp only [Act.put, List.setIfInBounds_toArray, List.set_cons_zero, List.set_cons_succ])
            obtain ⟨hV6, hR6, hOk6, hB6, hs6⟩ := kid_grown hVd hRd hOkd hOcd hBd hsd hG6
            have f6 := hV6.free 3
            have q6 := hV6.cell 3
            clear hVd hRd hOkd hOcd hBd hsd hG6 q3 q3' g1 g2
            refine takeH 9 39 (.pointer (some ⟨w.heap.size + 1, 3, none⟩)) rfl rfl (by kernel_rfl) (by kernel_rfl) (by kernel_rfl) (fun _ _ _ h => h) (Or.inl ⟨by kernel_rfl, fun W _ => by go_simp⟩) hS ?_
            simp only [Act.put, List.setIfInBounds_toArray, List.set_cons_zero, List.set_cons_succ]
            refine wpAnyH_ready (rs := [10]) (by kernel_rfl) (by simp) ?_
            refine AllReadyH.cons rfl (fun K hK => ?_) AllReadyH.nil
            go_simp
            refine hK.out _ _ trivial (fun hS => ?_)
            clear hK K
            refine wpAnyH_done (by kernel_rfl) ?_ _
            go_wp2
            exact ⟨⟨j + 1, ks ++ [key], cs ++ [p.2], qs ++ [(.int .i64 p.2.kind, .string (str p.2.text), .slice da dn dc, .slice db dm dd)], _, _, by go_num, by omega, HP2, hV6.kids _, VAt_other' hR6 (by omega), row_set (by simpa [cellsT] using hOk6) (by omega), row_set (by simpa [cells4, c4] using hO6) (by omega), hq_app HQ.out HRV.out, hB6.setCell (p := ⟨w.heap.size + 1, 3, none⟩) (by simp) _, by simpa [World.setCell] using hs6⟩, by simp [intOf]; omega⟩
          · go_simp
            refine hK.out _ _ trivial (fun hS => ?_)
            clear hK K
            try (simp only [Act.put, List.setIfInBounds_toArray, List.set_cons_zero, List.set_cons_succ])
            refine wpAnyH_ready (rs := [1]) (by kernel_rfl) (by simp) ?_
            refine AllReadyH.cons rfl (fun K hK => ?_) AllReadyH.nil
            go_simp
            refine hK.out _ _ trivial (fun hS => ?_)
            clear hK K
            try (simp only [Act.put, List.setIfInBounds_toArray, List.set_cons_zero, List.set_cons_succ])
            refine wpAnyH_ready (rs := [8]) (by kernel_rfl) (by simp) ?_
            refine AllReadyH.cons rfl (fun K hK => ?_) AllReadyH.nil
            refine step_append_lies _ rfl _ _ 24 rfl (w.heap.size + 2) 27 i0 (vv (.int .i64 0) (.string ⟨#[]⟩) (.slice none 0 0) (.slice none 0 0)) 4 72 Tryz.underlying24 hi hz0 hz1 hz2 rfl (by decide) _ _ _ rfl (World.ownsRow.alloc hOcd _) ⟨wd.heap.size, 0, none⟩ 1 1 [.int .i64 p.2.kind, .string (str p.2.text), .slice da dn dc, .slice db dm dd] rfl rfl (newcells wd _ _) (fun x hx => by simp at hx; rcases hx with rfl | rfl | rfl | rfl <;> rfl) (by decide) (by unfold maxLen; omega) (by omega) (by simp; omega) _ rfl ?_
            intro g3 cap3 w6 hO6 hG6 _ _
            refine hK.out _ _ trivial (fun hS => ?_)
            clear hK K
            try (simp only [Act.put, List.setIfInBounds_toArray, List.set_cons_zero, List.set_cons_succ])
            obtain ⟨hV6, hR6, hOk6, hB6, hs6⟩ := kid_grown hVd hRd hOkd hOcd hBd hsd hG6
            have f6 := hV6.free 3
            have q6 := hV6.cell 3
            clear hVd hRd hOkd hOcd hBd hsd hG6 q3 q3' g1 g2
            refine takeH 9 39 (.pointer (some ⟨w.heap.size + 1, 3, none⟩)) rfl rfl (by kernel_rfl) (by kernel_rfl) (by kernel_rfl) (fun _ _ _ h => h) (Or.inl ⟨by kernel_rfl, fun W _ => by go_simp⟩) hS ?_
            simp only [Act.put, List.setIfInBounds_toArray, List.set_cons_zero, List.set_cons_succ]
            refine wpAnyH_ready (rs := [10]) (by kernel_rfl) (by simp) ?_
            refine AllReadyH.cons rfl (fun K hK => ?_) AllReadyH.nil
            go_simp
            refine hK.out _ _ trivial (fun hS => ?_)
            clear hK K
            refine wpAnyH_done (by kernel_rfl) ?_ _
            go_wp2
            exact ⟨⟨j + 1, ks ++ [key], cs ++ [p.2], qs ++ [(.int .i64 p.2.kind, .string (str p.2.text), .slice da dn dc, .slice db dm dd)], _, _, by go_num, by omega, HP2, hV6.kids _, VAt_other' hR6 (by omega), row_set (by simpa [cellsT] using hOk6) (by omega), row_set (by simpa [cells4, c4] using hO6) (by omega), hq_app HQ.out HRV.out, hB6.setCell (p := ⟨w.heap.size + 1, 3, none⟩) (by simp) _, by simpa [World.setCell] using hs6⟩, by simp [intOf]; omega⟩
    · have hje : j = ps.length := by omega
      subst hje
      go_wp2_with (first
        | ((with_reducible show wpList _ _ _ ({ op := Op.load 27 _, .. } :: _) _ _); refine wpList_load_V _ rfl rfl _ _ _ _ _ rfl hV ?_)
        | ((with_reducible show wpList _ _ _ ({ op := Op.store 27 _ _, .. } :: _) _ _); refine wpList_store_V _ _ rfl rfl _ _ _ _ _ rfl rfl hR (ones_mk _ _ _ _ _ _ _ _) ?_))
      have hs7 := setRow_len wr w.heap.size #[.int .i64 6, .string ⟨#[]⟩, .slice ka ks.length kc, .slice ca cs.length cc]
      refine ret_V rfl rfl rfl (setRow_V hR _ _ _ _) ⟨_, rfl, ?_, ?_⟩
      · have hJ : Jsn.tabJ ps = .mk 6 [] ks cs := by
          unfold Jsn.tabJ
          have := HF.out
          rw [List.take_length] at this
          rw [this]
        rw [hJ]
        refine RV_mk.2 ⟨_, _, rfl, RTs_own (row_setR hOk (by omega)), RKs_own (row_setR hOc (by omega)) HQ.out.1 (setRow_below hB (by omega)) HQ.out.2⟩
      · exact setRow_below hB (by omega)
end Go.Proofs.YtmmpbjpeiclacaaGreatDoor
