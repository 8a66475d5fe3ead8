/- Lists of values, and of texts, while they grow. -/
import Derived.Test.YtfjgmejobldjoaaDoorKYL
import Derived.Laws.OwnMore
set_option linter.unusedVariables false
set_option linter.unusedSimpArgs false
namespace Go.Proofs.YtfjgmejobldjoaaDoor
open Go.RowKit
abbrev V4 := Value × Value × Value × Value
def flat (vs : List V4) : List Value := vs.flatMap fun x => [x.1, x.2.1, x.2.2.1, x.2.2.2]
theorem flat_snoc (vs : List V4) (x : V4) : flat (vs ++ [x]) = flat vs ++ [x.1, x.2.1, x.2.2.1, x.2.2.2] := by simp [flat]
theorem flat_len : ∀ vs : List V4, (flat vs).length = vs.length * 4
  | [] => rfl
  | x :: vs => by
    have := flat_len vs
    simp only [flat, List.flatMap_cons, List.length_append, List.length_cons, List.length_nil] at this ⊢
    omega
theorem flat_at : ∀ (vs : List V4) (j : Nat) (x : V4), vs[j]? = some x → (flat vs)[j * 4]? = some x.1 ∧ (flat vs)[j * 4 + 1]? = some x.2.1 ∧ (flat vs)[j * 4 + 2]? = some x.2.2.1 ∧ (flat vs)[j * 4 + 3]? = some x.2.2.2
  | [], j, x, h => by simp at h
  | y :: vs, 0, x, h => by
    simp at h
    subst h
    exact ⟨rfl, rfl, rfl, rfl⟩
  | y :: vs, j + 1, x, h => by
    have := flat_at vs j x (by simpa using h)
    have e : flat (y :: vs) = y.1 :: y.2.1 :: y.2.2.1 :: y.2.2.2 :: flat vs := rfl
    rw [e, show (j + 1) * 4 = j * 4 + 1 + 1 + 1 + 1 from by omega]
    simpa using this
/-- What a growing list's values may lie in: blocks from B on, but not the list's own row. -/
def off (B : Nat) (v : Value) (k : Nat) : Prop := B ≤ k ∧ some k ≠ v.ownBlock
structure GKids (B : Nat) (w : World) (v : Value) (cs : List Jsn.J) (vs : List V4) : Prop where
  own : w.ownsRow B 25 4 v cs.length (flat vs)
  len : vs.length = cs.length
  read : ∀ (j : Nat) (c : Jsn.J) (x : V4), cs[j]? = some c → vs[j]? = some x → RV (off B v) w c (vv x.1 x.2.1 x.2.2.1 x.2.2.2)
theorem GKids.nil (B : Nat) (w : World) : GKids B w (.slice none 0 0) [] [] := ⟨World.ownsRow_nil _ _ _ _, rfl, fun j c x h => by simp at h⟩
theorem own_keep {B e size n : Nat} {v : Value} {xs : List Value} {w w' : World} (h : w.ownsRow B e size v n xs) (hk : ∀ k, B ≤ k → k < w.heap.size → w'.heap[k]? = w.heap[k]?) : w'.ownsRow B e size v n xs := by
  refine ⟨h.1, ?_⟩
  rcases h.2 with h2 | ⟨g, cap, cur, h1, h2, h3, h4⟩
  · exact .inl h2
  · exact .inr ⟨g, cap, cur, h1, h2, (hk g h2 (Array.getElem?_eq_some_iff.1 h3).1).trans h3, h4⟩
theorem GKids.keep {B : Nat} {w w' : World} {v : Value} {cs : List Jsn.J} {vs : List V4} (h : GKids B w v cs vs) (hs : w.heap.size ≤ w'.heap.size) (hk : ∀ k, B ≤ k → k < w.heap.size → w'.heap[k]? = w.heap[k]?) : GKids B w' v cs vs :=
  ⟨own_keep h.own hk, h.len, fun j c x hc hx => RV.keep hs (fun k hq hl => ⟨hq, hk k hq.1 hl⟩) (h.read j c x hc hx)⟩
theorem GKids.form {B : Nat} {w : World} {v : Value} {cs : List Jsn.J} {vs : List V4} (h : GKids B w v cs vs) : ∃ a c, v = .slice a cs.length c := by
  rcases h.own.2 with ⟨rfl, h0⟩ | ⟨g, cap, cur, rfl, _⟩
  · exact ⟨none, 0, by rw [h0]⟩
  · exact ⟨_, _, rfl⟩
/-- One more. -/
theorem GKids.more {B g cap H : Nat} {w w' : World} {v x0 x1 x2 x3 : Value} {cs : List Jsn.J} {vs : List V4} {c : Jsn.J} (h : GKids B w v cs vs) (hg : w.grownBy w' v.ownBlock) (hat : v.ownBlock = some g ∨ g = H) (hH : w.heap.size = H)
    (hown : w'.ownsRow B 25 4 (.slice (some ⟨g, 0, none⟩) (cs.length + 1) cap) (cs.length + 1) (flat vs ++ [x0, x1, x2, x3])) (hr : RV (off B v) w c (vv x0 x1 x2 x3)) :
    GKids B w' (.slice (some ⟨g, 0, none⟩) (cs.length + 1) cap) (cs ++ [c]) (vs ++ [(x0, x1, x2, x3)]) := by
  have hk : ∀ {c : Jsn.J} {u : Value}, RV (off B v) w c u → RV (off B (.slice (some ⟨g, 0, none⟩) (cs.length + 1) cap)) w' c u := fun {c u} hr =>
    RV.keep hg.size (fun k hq hl => ⟨⟨hq.1, fun e => by
      have e2 : k = g := Option.some.inj e
      rcases hat with h1 | h1
      · exact hq.2 (by rw [e2, h1])
      · omega⟩, hg.block k hl hq.2⟩) hr
  refine ⟨by rw [List.length_append, flat_snoc]; exact hown, by simp [h.len], fun j d x hd hx => ?_⟩
  by_cases hj : j < cs.length
  · rw [List.getElem?_append_left hj] at hd
    rw [List.getElem?_append_left (by rw [h.len]; exact hj)] at hx
    exact hk (h.read j d x hd hx)
  · have hj2 : j = cs.length := by
      have := (List.getElem?_eq_some_iff.1 hd).1
      simp at this
      omega
    subst hj2
    rw [List.getElem?_append_right (Nat.le_refl _)] at hd
    rw [List.getElem?_append_right (by rw [h.len]; exact Nat.le_refl _), h.len] at hx
    simp at hd hx
    subst hd; subst hx
    exact hk hr
theorem GKids.reads {B : Nat} {w : World} {v : Value} {cs : List Jsn.J} {vs : List V4} (h : GKids B w v cs vs) : RKs (B ≤ ·) w cs v := by
  rcases h.own.2 with ⟨rfl, h0⟩ | ⟨g, cap, cur, rfl, hB, hg, hc, _, hcs, ht⟩
  · exact .inl ⟨_, _, rfl, List.eq_nil_of_length_eq_zero h0⟩
  · have hlt : g < w.heap.size := (Array.getElem?_eq_some_iff.1 hg).1
    refine .inr ⟨g, 0, cap, hB, rfl, hc, hlt, RCs_mk fun j c hj => ?_⟩
    have hjl : j < cs.length := (List.getElem?_eq_some_iff.1 hj).1
    obtain ⟨x, hx⟩ : ∃ x, vs[j]? = some x := ⟨_, List.getElem?_eq_getElem (by rw [h.len]; exact hjl)⟩
    have e := flat_at vs j x hx
    have cell : ∀ i, i < cs.length * 4 → w.cell? ⟨g, i, none⟩ = (flat vs)[i]? := fun i hi => World.ownsRow.cellAt (w := w) (base := B) (e := 25) (size := 4) (g := g) (cap := cap) (n := cs.length) (xs := flat vs) h.own i hi
    refine ⟨x.1, x.2.1, x.2.2.1, x.2.2.2, ?_, ?_, ?_, ?_, RV.keep (Nat.le_refl _) (fun k hq _ => ⟨hq.1, rfl⟩) (h.read j c x hj hx)⟩
    · rw [Nat.zero_add, cell _ (by omega)]; exact e.1
    · rw [Nat.zero_add, cell _ (by omega)]; exact e.2.1
    · rw [Nat.zero_add, cell _ (by omega)]; exact e.2.2.1
    · rw [Nat.zero_add, cell _ (by omega)]; exact e.2.2.2
/-- A row of texts of one's own. -/
def GTexts (B : Nat) (w : World) (v : Value) (ts : List (List UInt8)) : Prop := w.ownsRow B 9 1 v ts.length (ts.map fun t => .string (str t))
theorem GTexts.nil (B : Nat) (w : World) : GTexts B w (.slice none 0 0) [] := World.ownsRow_nil _ _ _ _
theorem GTexts.reads {B : Nat} {w : World} {v : Value} {ts : List (List UInt8)} (h : GTexts B w v ts) : RTs (B ≤ ·) w ts v := by
  rcases h.2 with ⟨rfl, h0⟩ | ⟨g, cap, cur, rfl, hB, hg, hc, _, hcs, ht⟩
  · exact .inl ⟨_, _, rfl, List.eq_nil_of_length_eq_zero h0⟩
  · have hlt : g < w.heap.size := (Array.getElem?_eq_some_iff.1 hg).1
    refine .inr ⟨g, 0, cap, hB, rfl, hc, hlt, fun j t hj => ?_⟩
    have hjl : j < ts.length := (List.getElem?_eq_some_iff.1 hj).1
    have := World.ownsRow.cellAt (w := w) (base := B) (e := 9) (size := 1) (g := g) (cap := cap) (n := ts.length) (xs := ts.map fun t => .string (str t)) h j (by omega)
    rw [Nat.zero_add, this, List.getElem?_map, hj]
    rfl
theorem GTexts.form {B : Nat} {w : World} {v : Value} {ts : List (List UInt8)} (h : GTexts B w v ts) : ∃ a c, v = .slice a ts.length c := by
  rcases h.2 with ⟨rfl, h0⟩ | ⟨g, cap, cur, rfl, _⟩
  · exact ⟨none, 0, by rw [h0]⟩
  · exact ⟨_, _, rfl⟩
theorem GTexts.of {B : Nat} {w : World} {v : Value} {ts : List (List UInt8)} {t : List UInt8} (h : w.ownsRow B 9 1 v (ts.length + 1) ((ts.map fun t => .string (str t)) ++ [.string (str t)])) : GTexts B w v (ts ++ [t]) := by
  unfold GTexts
  rw [List.map_append, List.length_append]
  exact h
end Go.Proofs.YtfjgmejobldjoaaDoor
