/- Plain functions: the parts of a path that are kept, and the path. -/
import Derived.Test.YtlkhjloeonbjaaaGreatDoorUrlMath
import Derived.Test.YtlkhjloeonbjaaaGreatDoorAscJoined
namespace Url
open Go
/-- One part more. -/
def pstep (k : List (List UInt8)) (p : List UInt8) (last : Bool) : List (List UInt8) :=
  if dots p = 0 then k ++ [p] else (if dots p = 2 then k.dropLast else k) ++ (if last then [[]] else [])
def fold (ps : List (List UInt8)) : List (List UInt8) := ps.foldl (fun k p => pstep k p false) []
/-- The parts that are kept of the first n ones. -/
def st (ps : List (List UInt8)) (n : Nat) : List (List UInt8) :=
  if n < ps.length then fold (ps.take n) else pstep (fold ps.dropLast) (ps.getLast?.getD []) true
def kept (ps : List (List UInt8)) : List (List UInt8) := st ps ps.length
def pparts (l : List UInt8) : List (List UInt8) := Asc.split (Pct.mark freeP (Lib.trimPrefix (Pct.turned l 92 47) [47])) 47
def path (l : List UInt8) : List UInt8 := 47 :: Lib.join (kept (pparts l)) [47]
theorem st_zero (ps : List (List UInt8)) (h : ps ≠ []) : st ps 0 = [] := by
  unfold st
  rw [if_pos (List.length_pos_iff.2 h)]
  rfl
theorem last_at (ps : List (List UInt8)) (k : Nat) (h : k < ps.length) (hl : k + 1 = ps.length) : ps.getLast?.getD [] = ps[k] ∧ ps.dropLast = ps.take k := by
  refine ⟨?_, ?_⟩
  · rw [List.getLast?_eq_getElem?, List.getElem?_eq_getElem (by omega)]
    simp only [Option.getD_some]
    congr 1
    omega
  · rw [List.dropLast_eq_take, ← hl]
    rfl
theorem st_next (ps : List (List UInt8)) (k : Nat) (h : k < ps.length) : st ps (k + 1) = pstep (st ps k) ps[k] (decide (k + 1 = ps.length)) := by
  by_cases hl : k + 1 = ps.length
  · obtain ⟨h1, h2⟩ := last_at ps k h hl
    unfold st
    rw [if_neg (by omega), if_pos h, h1, h2, decide_eq_true hl]
  · unfold st
    rw [if_pos (by omega), if_pos h, decide_eq_false hl]
    unfold fold
    rw [List.take_succ_eq_append_getElem h, List.foldl_append]
    rfl
theorem st_len (ps : List (List UInt8)) (hne : ps ≠ []) : ∀ k, k ≤ ps.length → (st ps k).length ≤ k
  | 0, _ => by rw [st_zero ps hne]; simp
  | k + 1, h => by
    have ih := st_len ps hne k (by omega)
    rw [st_next ps k (by omega)]
    unfold pstep
    split
    · simp; omega
    · have h1 : (if dots ps[k] = 2 then (st ps k).dropLast else st ps k).length ≤ k := by
        split
        · simp; omega
        · exact ih
      have h2 : (if decide (k + 1 = ps.length) = true then [([] : List UInt8)] else []).length ≤ 1 := by split <;> simp
      rw [List.length_append]
      omega
/-- What is kept was a part, or is empty. -/
theorem mem_pstep {k : List (List UInt8)} {p : List UInt8} {b : Bool} {x : List UInt8} (h : x ∈ pstep k p b) : x ∈ k ∨ (x = p ∧ dots p = 0) ∨ x = [] := by
  unfold pstep at h
  split at h
  · rename_i hd
    rw [List.mem_append, List.mem_singleton] at h
    rcases h with h | h
    · exact .inl h
    · exact .inr (.inl ⟨h, hd⟩)
  · rw [List.mem_append] at h
    rcases h with h | h
    · split at h
      · exact .inl ((List.dropLast_sublist _).subset h)
      · exact .inl h
    · split at h
      · exact .inr (.inr (by simpa using h))
      · simp at h
theorem mem_st (ps : List (List UInt8)) (hne : ps ≠ []) : ∀ k, k ≤ ps.length → ∀ x ∈ st ps k, (x ∈ ps ∨ x = []) ∧ dots x = 0
  | 0, _, x, hx => by rw [st_zero ps hne] at hx; simp at hx
  | k + 1, h, x, hx => by
    rw [st_next ps k (by omega)] at hx
    rcases mem_pstep hx with h1 | ⟨h1, h2⟩ | h1
    · exact mem_st ps hne k (by omega) x h1
    · subst h1
      exact ⟨.inl (List.getElem_mem _), h2⟩
    · subst h1
      exact ⟨.inr rfl, rfl⟩
theorem kept_ne (ps : List (List UInt8)) (hne : ps ≠ []) : kept ps ≠ [] := by
  have hl := List.length_pos_iff.2 hne
  unfold kept
  have := st_next ps (ps.length - 1) (by omega)
  rw [show ps.length - 1 + 1 = ps.length by omega, decide_eq_true rfl] at this
  rw [this]
  unfold pstep
  split
  · simp
  · simp
/-- Parts of which none is dots are kept. -/
theorem st_plain (ps : List (List UInt8)) (hne : ps ≠ []) (h : ∀ p ∈ ps, dots p = 0) : ∀ k, k ≤ ps.length → st ps k = ps.take k
  | 0, _ => by rw [st_zero ps hne]; simp
  | k + 1, hk => by
    rw [st_next ps k (by omega), st_plain ps hne h k (by omega), List.take_succ_eq_append_getElem (by omega)]
    unfold pstep
    rw [if_pos (h _ (List.getElem_mem _))]
theorem kept_plain (ps : List (List UInt8)) (hne : ps ≠ []) (h : ∀ p ∈ ps, dots p = 0) : kept ps = ps := by
  unfold kept
  rw [st_plain ps hne h _ (Nat.le_refl _), List.take_length]
theorem pparts_ne (l : List UInt8) : pparts l ≠ [] := by
  have := Asc.split_pos 47 (Pct.mark freeP (Lib.trimPrefix (Pct.turned l 92 47) [47]))
  intro h
  unfold pparts at h
  rw [h] at this
  simp at this
/-- What holds of each byte of a text holds of each byte of its parts. -/
theorem split_mem (b : UInt8) (l : List UInt8) : ∀ p ∈ Asc.split l b, ∀ c ∈ p, c ∈ l := by
  have key : ∀ l : List UInt8, (∀ p ∈ (Asc.sst b l).1, ∀ c ∈ p, c ∈ l) ∧ ∀ c ∈ (Asc.sst b l).2, c ∈ l := by
    intro l
    refine Asc.snoc_ind (P := fun l => (∀ p ∈ (Asc.sst b l).1, ∀ c ∈ p, c ∈ l) ∧ ∀ c ∈ (Asc.sst b l).2, c ∈ l) ?_ ?_ l
    · simp [Asc.sst]
    · intro l x ih
      rw [Asc.sst_snoc]
      unfold Asc.sstep
      split
      · refine ⟨fun p hp c hc => ?_, by simp⟩
        rw [List.mem_append, List.mem_singleton] at hp
        rw [List.mem_append]
        rcases hp with hp | hp
        · exact .inl (ih.1 p hp c hc)
        · subst hp; exact .inl (ih.2 c hc)
      · refine ⟨fun p hp c hc => List.mem_append.2 (.inl (ih.1 p hp c hc)), fun c hc => ?_⟩
        rw [List.mem_append] at hc ⊢
        rcases hc with hc | hc
        · exact .inl (ih.2 c hc)
        · exact .inr hc
  intro p hp c hc
  unfold Asc.split at hp
  rw [List.mem_append, List.mem_singleton] at hp
  rcases hp with hp | hp
  · exact (key l).1 p hp c hc
  · subst hp; exact (key l).2 c hc
theorem turned_92 (l : List UInt8) : ∀ c ∈ Pct.turned l 92 47, c ≠ 92 := by
  intro c hc
  unfold Pct.turned at hc
  rw [List.mem_map] at hc
  obtain ⟨x, _, rfl⟩ := hc
  split
  · decide
  · assumption
theorem trimPrefix_mem (l p : List UInt8) : ∀ c ∈ Lib.trimPrefix l p, c ∈ l := by
  intro c hc
  unfold Lib.trimPrefix at hc
  split at hc
  · exact List.mem_of_mem_drop hc
  · exact hc
theorem mark_92 (l : List UInt8) (h : ∀ c ∈ l, c ≠ 92) : ∀ b ∈ Pct.mark freeP l, b ≠ 92 := by
  intro b hb
  unfold Pct.mark at hb
  rw [List.mem_flatMap] at hb
  obtain ⟨c, hc, hb⟩ := hb
  cases hs : Pct.stays freeP c
  · rw [Pct.one_no hs] at hb
    rcases mk_bytes c b hb with rfl | h1 | h1
    · decide
    · rintro rfl; simp at h1
    · rintro rfl; simp at h1
  · rw [Pct.one_yes hs, List.mem_singleton] at hb
    rw [hb]
    exact h c hc
/-- The bytes of what is kept of a path's text. -/
theorem kept_bytes (l : List UInt8) : ∀ p ∈ kept (pparts l), dots p = 0 ∧ ∀ c ∈ p, c ≠ 47 ∧ c ≠ 92 ∧ Pct.stays freeP c = true := by
  intro p hp
  obtain ⟨h1, h2⟩ := mem_st (pparts l) (pparts_ne l) _ (Nat.le_refl _) p hp
  refine ⟨h2, ?_⟩
  rcases h1 with h1 | h1
  · intro c hc
    have hm := split_mem 47 _ p h1 c hc
    exact ⟨Asc.split_free 47 _ p h1 c hc, mark_92 _ (fun x hx => turned_92 l x (trimPrefix_mem _ _ x hx)) c hm, mark_stay freeP (by decide) _ c hm⟩
  · subst h1; simp
theorem join_mem (ts : List (List UInt8)) (b : UInt8) : ∀ c ∈ Lib.join ts [b], c = b ∨ ∃ t ∈ ts, c ∈ t := by
  refine Asc.snoc_ind (P := fun ts => ∀ c ∈ Lib.join ts [b], c = b ∨ ∃ t ∈ ts, c ∈ t) ?_ ?_ ts
  · intro c hc; rw [Lib.join_nil] at hc; simp at hc
  · intro ts t ih c hc
    rw [Asc.join_snoc] at hc
    split at hc
    · exact .inr ⟨t, by simp, hc⟩
    · rw [List.mem_append, List.mem_append, List.mem_singleton] at hc
      rcases hc with (hc | hc) | hc
      · rcases ih c hc with h | ⟨x, hx, hc⟩
        · exact .inl h
        · exact .inr ⟨x, by simp [hx], hc⟩
      · exact .inl hc
      · exact .inr ⟨t, by simp, hc⟩
/-- The bytes of a path. -/
theorem path_bytes (l : List UInt8) : ∀ c ∈ path l, c ≠ 92 ∧ Pct.stays freeP c = true := by
  intro c hc
  unfold path at hc
  rw [List.mem_cons] at hc
  have h47 : (47 : UInt8) ≠ 92 ∧ Pct.stays freeP 47 = true := by decide
  rcases hc with rfl | hc
  · exact h47
  · rcases join_mem _ _ c hc with rfl | ⟨t, ht, hc⟩
    · exact h47
    · exact ((kept_bytes l t ht).2 c hc).2
theorem turned_self (l : List UInt8) (h : ∀ c ∈ l, c ≠ 92) : Pct.turned l 92 47 = l := by
  unfold Pct.turned
  conv => rhs; rw [← List.map_id l]
  apply List.map_congr_left
  intro c hc
  rw [if_neg (h c hc)]
  rfl
theorem pparts_path (l : List UInt8) : pparts (path l) = kept (pparts l) := by
  have hb := path_bytes l
  unfold pparts
  rw [turned_self _ (fun c hc => (hb c hc).1)]
  have h1 : Lib.trimPrefix (path l) [47] = Lib.join (kept (pparts l)) [47] := by
    unfold Lib.trimPrefix Lib.hasPrefix path
    rw [if_pos (by simp [List.isPrefixOf])]
    rfl
  rw [h1, mark_self _ _ (fun b hb' => (hb b (by unfold path; exact List.mem_cons_of_mem _ hb')).2)]
  exact Pct.split_join 47 _ (fun t ht c hc => ((kept_bytes l t ht).2 c hc).1) (kept_ne _ (pparts_ne l))
theorem path_path (l : List UInt8) : path (path l) = path l := by
  show 47 :: Lib.join (kept (pparts (path l))) [47] = path l
  rw [pparts_path, kept_plain _ (kept_ne _ (pparts_ne l)) (fun p hp => (kept_bytes l p hp).1)]
  rfl
theorem mark_lens (free : List UInt8) (l : List UInt8) : (Pct.mark free l).length ≤ 3 * l.length := Pct.mark_len free l
theorem pparts_count (l : List UInt8) : (pparts l).length ≤ 3 * l.length + 1 := by
  have h1 := Asc.split_len 47 (Pct.mark freeP (Lib.trimPrefix (Pct.turned l 92 47) [47]))
  have h2 := Pct.mark_len freeP (Lib.trimPrefix (Pct.turned l 92 47) [47])
  have h3 : (Lib.trimPrefix (Pct.turned l 92 47) [47]).length ≤ l.length := by
    unfold Lib.trimPrefix
    split
    · simp [Pct.turned]
    · simp [Pct.turned]
  unfold pparts
  omega
theorem lens_dropLast (k : List (List UInt8)) : Lib.lens k.dropLast ≤ Lib.lens k := by
  refine Asc.snoc_ind (P := fun k => Lib.lens k.dropLast ≤ Lib.lens k) ?_ ?_ k
  · simp
  · intro k t _
    rw [List.dropLast_concat, Asc.lens_snoc]
    omega
theorem lens_pstep (k : List (List UInt8)) (p : List UInt8) (b : Bool) : Lib.lens (pstep k p b) ≤ Lib.lens k + p.length := by
  have h := lens_dropLast k
  unfold pstep
  split
  · rw [Asc.lens_snoc]; omega
  · have h0 : ∀ x : List (List UInt8), Lib.lens (x ++ if b = true then [[]] else []) = Lib.lens x := by
      intro x
      split
      · rw [Asc.lens_snoc]; rfl
      · rw [List.append_nil]
    rw [h0]
    split <;> omega
theorem lens_take (ps : List (List UInt8)) (k : Nat) (h : k < ps.length) : Lib.lens (ps.take (k + 1)) = Lib.lens (ps.take k) + ps[k].length := by
  rw [List.take_succ_eq_append_getElem h, Asc.lens_snoc]
theorem st_lens (ps : List (List UInt8)) (hne : ps ≠ []) : ∀ k, k ≤ ps.length → Lib.lens (st ps k) ≤ Lib.lens (ps.take k)
  | 0, _ => by rw [st_zero ps hne]; simp [Lib.lens]
  | k + 1, h => by
    have ih := st_lens ps hne k (by omega)
    rw [st_next ps k (by omega), lens_take ps k (by omega)]
    exact Nat.le_trans (lens_pstep _ _ _) (by omega)
theorem split_lens (b : UInt8) (l : List UInt8) : Lib.lens (Asc.split l b) ≤ l.length := by
  have key : ∀ l : List UInt8, Lib.lens (Asc.sst b l).1 + (Asc.sst b l).2.length ≤ l.length := by
    intro l
    refine Asc.snoc_ind (P := fun l => Lib.lens (Asc.sst b l).1 + (Asc.sst b l).2.length ≤ l.length) ?_ ?_ l
    · simp [Asc.sst, Lib.lens]
    · intro l c ih
      rw [Asc.sst_snoc]
      unfold Asc.sstep
      split
      · rw [Asc.lens_snoc]; simp; omega
      · simp; omega
  unfold Asc.split
  rw [Asc.lens_snoc]
  exact key l
theorem kept_size (l : List UInt8) : (Lib.join (kept (pparts l)) [47]).length ≤ 6 * l.length + 1 := by
  have h1 := Asc.join_len (kept (pparts l)) [47]
  have h2 := st_len (pparts l) (pparts_ne l) _ (Nat.le_refl _)
  have h3 := st_lens (pparts l) (pparts_ne l) _ (Nat.le_refl _)
  rw [List.take_length] at h3
  have h4 := pparts_count l
  have h5 := split_lens 47 (Pct.mark freeP (Lib.trimPrefix (Pct.turned l 92 47) [47]))
  have h6 := Pct.mark_len freeP (Lib.trimPrefix (Pct.turned l 92 47) [47])
  have h7 : (Lib.trimPrefix (Pct.turned l 92 47) [47]).length ≤ l.length := by
    unfold Lib.trimPrefix
    split
    · simp [Pct.turned]
    · simp [Pct.turned]
  unfold pparts at h3 h4 h2 h1 ⊢
  unfold kept at h1 ⊢
  simp only [List.length_cons, List.length_nil] at h1
  omega
end Url
