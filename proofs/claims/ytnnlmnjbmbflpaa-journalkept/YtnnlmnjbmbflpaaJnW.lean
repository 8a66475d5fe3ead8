/- Journals that are opened, with the records that they give as rows of one's own. -/
import Derived.Test.YtnnlmnjbmbflpaaJnV
set_option linter.unusedVariables false
set_option linter.unusedSimpArgs false
namespace Go.Proofs.Ytnnlmnjbmbflpaa
open Go.RowKit
/-- A row of rows of bytes of one's own, beside the blocks T. -/
structure OQ' (T : Nat → Prop) (w : World) (v : Value) (rs : List (List UInt8)) (xs : List Value) : Prop where
  len : xs.length = rs.length
  row : w.ownsRow 0 27 1 v rs.length xs
  o : Out T w v
  each : ∀ (j : Nat) x r, xs[j]? = some x → rs[j]? = some r → OwnsBytes w 0 x r ∧ Ap x v ∧ Out T w x
def OQ (T : Nat → Prop) (w : World) (v : Value) (rs : List (List UInt8)) : Prop := ∃ xs, OQ' T w v rs xs
theorem OQ.form {T : Nat → Prop} {w : World} {v : Value} {rs : List (List UInt8)} (h : OQ T w v rs) : ∃ a c, v = .slice a rs.length c := by
  obtain ⟨xs, h⟩ := h
  rcases h.row.2 with ⟨rfl, hz⟩ | ⟨g, cap, cur, rfl, _⟩
  · exact ⟨none, 0, by rw [hz]⟩
  · exact ⟨_, _, rfl⟩
theorem OQ.own {T T' : Nat → Prop} {w w' : World} {v : Value} {rs : List (List UInt8)} (h : OQ T w v rs) (hs : ∀ k, T' k → T k ∨ w.heap.size ≤ k) (hO : Own T w w') : OQ T' w' v rs := by
  obtain ⟨xs, h⟩ := h
  have ho : ∀ x, Out T w x → Out T' w' x := fun x hx k e => ⟨fun hk => (hs k hk).elim (hx k e).1 (fun h9 => by have := (hx k e).2; omega), Nat.lt_of_lt_of_le (hx k e).2 hO.size⟩
  exact ⟨xs, h.len, row_keep h.row (fun k e hl => hO.block k hl (h.o k e).1), ho _ h.o, fun j x r h1 h2 => ⟨(h.each j x r h1 h2).1.keep (fun k e hl => hO.block k hl ((h.each j x r h1 h2).2.2 k e).1), (h.each j x r h1 h2).2.1, ho _ (h.each j x r h1 h2).2.2⟩⟩
theorem OQ.mono {T T' : Nat → Prop} {w : World} {v : Value} {rs : List (List UInt8)} (h : OQ T w v rs) (hT : ∀ k, T' k → T k) : OQ T' w v rs := h.own (fun k hk => .inl (hT k hk)) (Own.refl _ _)
theorem OQ.dp9 {w0 w w' : World} {T T' : Nat → Prop} {b : Nat} {d : Dk.D} {v : Value} {rs : List (List UInt8)} (h : OQ (fun k => T k ∨ k < w0.heap.size) w v rs) (hD : Dp w T T' b d w') : OQ (fun k => T' k ∨ k < w0.heap.size) w' v rs :=
  h.own (fun k hk => hk.elim (fun hx => (hD.sub k hx).elim (fun h => .inl (.inl h)) .inr) (fun h => .inl (.inr h))) (hD.own.mono9 (fun k hk => .inl hk))
theorem OR.oq {w w' : World} {T : Nat → Prop} {v : Value} {rs : List (List UInt8)} (h : OR w' w.heap.size v rs) (hl : ∀ k, T k → k < w.heap.size) : OQ T w' v rs := by
  obtain ⟨xs, hx⟩ := h
  refine ⟨xs, hx.len, ?_, fun k e => ?_, fun j x r h1 h2 => ?_⟩
  · refine ⟨hx.row.1, ?_⟩
    rcases hx.row.2 with hn | ⟨g, cap, cur, he, hb, rest⟩
    · exact .inl hn
    · exact .inr ⟨g, cap, cur, he, Nat.zero_le _, rest⟩
  · have := World.ownsRow.lt hx.row k e
    exact ⟨fun ht => by have := hl k ht; omega, this.2⟩
  · have h9 := hx.each j x r h1 h2
    refine ⟨h9.1.base (fun _ _ => Nat.zero_le _), h9.2, fun k e => ?_⟩
    have := h9.1.lt e
    exact ⟨fun ht => by have := hl k ht; omega, this.2⟩
set_option maxHeartbeats 2000000 in
set_option maxRecDepth 100000 in
theorem mendO_any {w : World} {T : Nat → Prop} {b : Nat} {d : Dk.D} (h : DskE w T b d) (f : Int) (hf : f = 0 ∨ f = 1) (hon : d.on = true) {r : Int × Dk.D} (e : Hid (Jn.mend d f = r)) {rs : List (List UInt8)} (hr : Hid (Jn.recs d f = rs)) :
    Calls Try.prog 56 #[ptr b 0, .int .i64 f] w (fun e w' => ∃ u T', e = .returned (.tuple #[u, .int .i64 r.1]) ∧ Dp w T T' b r.2 w' ∧ (r.1 = 0 → OQ (fun k => T' k ∨ k < w.heap.size) w' u rs)) := by
  obtain ⟨l, hl⟩ : ∃ l, Hid ((d.at f).now = l) := ⟨_, rfl⟩
  have hlen : l.length ≤ 1048576 := by rw [← hl.out]; exact (h.fine.at f).now
  have H1 := h.read f hf hon hl
  have e' := e.out
  unfold Jn.mend at e'
  have hrs : Jn.scan l = rs := by rw [← hl.out]; exact hr.out
  rw [hr.out, hl.out] at e'
  have HD := hide9 h
  have hss : (Jn.frames rs).length ≤ l.length := by rw [← hrs]; exact Jn.scan_size l
  have HL := hide9 h.low
  clear e hr h
  obtain ⟨S, HS⟩ : ∃ S, Hid ((Jn.frames rs).length = S) := ⟨_, rfl⟩
  rw [HS.out] at e' hss
  obtain ⟨q, dq⟩ := r
  by_cases hq : S = l.length
  · rw [if_pos hq] at e'
    cases e'
    clear hf hon
    go_enter Try.func56, Try.ntmps56
    go_wp2_with (first
      | (go_at_call 20; refine H1.mono ?_; rintro e w1 ⟨a, c, rfl, ho1, hB1⟩; have H2 := Scan_any ho1.reads (by omega); rw [hrs, HS.out] at H2; clear H1)
      | (go_at_call 38; refine H2.mono ?_; rintro e w2 ⟨u, rfl, ho2, hB2⟩))
    go_ret2
    exact ⟨_, T, rfl, (Dp.refl HD.out).behind (bel hB1 hB2), fun _ => ho2.oq (T := fun k => T k ∨ k < w.heap.size) (fun k hk => Nat.lt_of_lt_of_le (hk.elim (HL.out k) id) hB1.size)⟩
  · rw [if_neg hq] at e'
    have E := hide9 e'
    clear e' hf hon
    by_cases hc : q = 0
    · subst hc
      go_enter Try.func56, Try.ntmps56
      go_wp2_with (first
        | (go_at_call 20; refine H1.mono ?_; rintro e w1 ⟨a, c, rfl, ho1, hB1⟩; have H2 := Scan_any ho1.reads (by omega); rw [hrs, HS.out] at H2; clear H1)
        | (go_at_call 38; refine H2.mono ?_; rintro e w2 ⟨u, rfl, ho2, hB2⟩; have H3 := cut_any (HD.out.below (bel hB1 hB2)) f S E; clear H2)
        | (go_at_call 70; refine H3.mono ?_; rintro e w3 ⟨T3, rfl, hD3⟩; clear H3))
      go_ret2
      exact ⟨_, T3, rfl, Dp.ahead (bel hB1 hB2) hD3, fun _ => (ho2.oq (T := fun k => T k ∨ k < w.heap.size) (fun k hk => Nat.lt_of_lt_of_le (hk.elim (HL.out k) id) hB1.size)).dp9 hD3⟩
    · have hcb : (q == 0) = false := by simpa using hc
      go_enter Try.func56, Try.ntmps56
      go_wp2_with (first
        | (go_at_call 20; refine H1.mono ?_; rintro e w1 ⟨a, c, rfl, ho1, hB1⟩; have H2 := Scan_any ho1.reads (by omega); rw [hrs, HS.out] at H2; clear H1)
        | (go_at_call 38; refine H2.mono ?_; rintro e w2 ⟨u, rfl, ho2, hB2⟩; have H3 := cut_any (HD.out.below (bel hB1 hB2)) f S E; clear H2)
        | (go_at_call 70; refine H3.mono ?_; rintro e w3 ⟨T3, rfl, hD3⟩; clear H3))
      go_ret2
      exact ⟨_, T3, rfl, Dp.ahead (bel hB1 hB2) hD3, fun hx => absurd hx hc⟩
theorem openO_end {w w3 : World} {T T' : Nat → Prop} {b : Nat} {d' : Dk.D} {rs : List (List UInt8)} {u : Value} (hD : Dp w T T' b d' w3) (hR : OQ (fun k => T' k ∨ k < w.heap.size) w3 u rs) : ∃ T' jb u', Ending.returned (.tuple #[.pointer (some ⟨w3.heap.size, 0, none⟩), u, .int .i64 0]) = .returned (.tuple #[ptr jb 0, u', .int .i64 0]) ∧ Dp w T T' b d' (w3.alloc (.cells #[ptr b 0, .slice none 0 0, .int .i64 0] 86)) ∧ JAt (w3.alloc (.cells #[ptr b 0, .slice none 0 0, .int .i64 0] 86)) jb b (.slice none 0 0) [] 0 ∧ ¬ T' jb ∧ w.heap.size ≤ jb ∧ OQ (fun k => (T' k ∨ k = jb) ∨ k < w.heap.size) (w3.alloc (.cells #[ptr b 0, .slice none 0 0, .int .i64 0] 86)) u' rs := by
  refine ⟨T', w3.heap.size, u, rfl, hD.behind (alloc1 _ _), JAt.new w3 b, fun hx => ?_, hD.own.size, ?_⟩
  · have := hD.dsk.low _ hx
    omega
  · exact hR.own (fun k hk => hk.elim (fun h => h.elim (fun h => .inl (.inl h)) (fun e => .inr (by omega))) (fun h => .inl (.inr h))) (Own.of (alloc1 _ _))
set_option maxHeartbeats 2000000 in
set_option maxRecDepth 100000 in
theorem OpenO_yes {w : World} {T : Nat → Prop} {b : Nat} {d : Dk.D} (h : DskE w T b d) (hon : d.on = true) {d' : Dk.D} (e : Hid (Jn.opens d = (0, d'))) {rs : List (List UInt8)} (hr : Hid (Jn.recs d d.root = rs)) :
    Calls Try.prog 23 #[ptr b 0] w fun e w' => ∃ T' jb u, e = .returned (.tuple #[ptr jb 0, u, .int .i64 0]) ∧ Dp w T T' b d' w' ∧ JAt w' jb b (.slice none 0 0) [] 0 ∧ ¬ T' jb ∧ w.heap.size ≤ jb ∧ OQ (fun k => (T' k ∨ k = jb) ∨ k < w.heap.size) w' u rs := by
  have H := h.root
  rw [hon] at H
  simp only [if_true] at H
  have e' := e.out
  unfold Jn.opens at e'
  rw [if_neg (by simp [hon])] at e'
  have hm := mendO_any h d.root h.fine.root hon (r := Jn.mend d d.root) (by exact (rfl : _ = _)) hr
  have hsame := Jn.mend_same (d := d) (f := d.root)
  generalize Jn.mend d d.root = r1 at *
  obtain ⟨c1, d1⟩ := r1
  dsimp only at *
  by_cases hc : c1 = 0
  · subst hc
    rw [if_neg (by simp)] at e'
    have hon1 : d1.on = true := by rw [(hsame rfl).1]; exact hon
    have E := hide9 e'
    have HF := hide9 (h.fine.root)
    clear e e' hsame hr h
    have hroot := HF.out
    generalize d.root = rt at *
    clear hon HF
    rcases hroot with rfl | rfl
    · have E1 : Hid (Jn.empty d1 1 = (0, d')) := E
      go_enter Try.func23, Try.ntmps23
      go_wp2_with (first
        | (go_at_call 19; refine H.mono ?_; rintro e w1 ⟨rfl, he⟩; replace he := he.symm; subst he)
        | (go_at_call 56; refine hm.mono ?_; rintro e w2 ⟨u, T2, rfl, hD2, hR⟩; have hR2 := hide9 (hR (by first | rfl | trivial)); obtain ⟨ua, uc, rfl⟩ := hR2.out.form; have H3 := empty_any hD2.dsk 1 (.inr rfl) hon1 E1; clear hR)
        | (go_at_call 57; refine H3.mono ?_; rintro e w3 ⟨T3, rfl, hD3⟩; clear H3 H hm))
      go_ret3
      exact openO_end (hD2.trans hD3) (hR2.out.dp9 hD3)
    · have E1 : Hid (Jn.empty d1 0 = (0, d')) := E
      go_enter Try.func23, Try.ntmps23
      go_wp2_with (first
        | (go_at_call 19; refine H.mono ?_; rintro e w1 ⟨rfl, he⟩; replace he := he.symm; subst he)
        | (go_at_call 56; refine hm.mono ?_; rintro e w2 ⟨u, T2, rfl, hD2, hR⟩; have hR2 := hide9 (hR (by first | rfl | trivial)); obtain ⟨ua, uc, rfl⟩ := hR2.out.form; have H3 := empty_any hD2.dsk 0 (.inl rfl) hon1 E1; clear hR)
        | (go_at_call 57; refine H3.mono ?_; rintro e w3 ⟨T3, rfl, hD3⟩; clear H3 H hm))
      go_ret3
      exact openO_end (hD2.trans hD3) (hR2.out.dp9 hD3)
  · rw [if_pos hc] at e'
    cases e'
    exact absurd rfl hc
/-- A disk's journal is opened. -/
theorem Lt.opensO {w0 W : World} {T : Nat → Prop} {b : Nat} {d d' : Dk.D} (h : Lt w0 T b d W) (hon : d.on = true) (e : Hid (Jn.opens d = (0, d'))) {rs : List (List UInt8)} (hr : Hid (Jn.recs d d.root = rs)) :
    Calls Try.prog 23 #[ptr b 0] W fun e w' => ∃ T' jb a c, e = .returned (.tuple #[ptr jb 0, .slice a rs.length c, .int .i64 0]) ∧ JR w0 T' b jb d' [] w' ∧ Tw W T T' w' ∧ OQ (fun k => T' k ∨ k < W.heap.size) w' (.slice a rs.length c) rs := by
  refine (OpenO_yes h.dsk hon e hr).mono ?_
  rintro e w' ⟨T', jb, u, rfl, hD, hJ, hn, hb, hR⟩
  obtain ⟨a, c, rfl⟩ := hR.form
  refine ⟨fun k => T' k ∨ k = jb, jb, a, c, rfl, ⟨⟨T', .slice none 0 0, ⟨hD.dsk, hJ, hn, fun k e => by cases e⟩, fun k hx => .inl hx, fun k e => by cases e⟩, .inr rfl, fun k hx => ?_, fun k hx => ?_, h.bel.trans (hD.own.below h.base h.bel.size), by simp [Jn.frames], fun r hr => by simp at hr⟩, ⟨fun k hx => ?_, hD.own⟩, hR⟩
  · rcases hx with hx | rfl
    · exact hD.dsk.low k hx
    · exact hJ.lt
  · rcases hx with hx | rfl
    · rcases hD.sub k hx with hx | hx
      · exact h.base k hx
      · exact Nat.le_trans h.bel.size hx
    · exact Nat.le_trans h.bel.size hb
  · rcases hx with hx | rfl
    · exact hD.sub k hx
    · exact .inr hb
/-- A disk's journal is opened again: the one that was there stays. -/
theorem JR.againO {w0 W : World} {T : Nat → Prop} {b jb : Nat} {d d' : Dk.D} {gs : List (List UInt8)} (h : JR w0 T b jb d gs W) (hon : d.on = true) (e : Hid (Jn.opens d = (0, d'))) {rs : List (List UInt8)} (hr : Hid (Jn.recs d d.root = rs)) :
    Calls Try.prog 23 #[ptr b 0] W fun e w' => ∃ T' jb' a c, e = .returned (.tuple #[ptr jb' 0, .slice a rs.length c, .int .i64 0]) ∧ JR w0 T' b jb d' gs w' ∧ Tw W T T' w' ∧ OQ (fun k => T' k ∨ k < W.heap.size) w' (.slice a rs.length c) rs := by
  obtain ⟨D, g, hk, h1, h2⟩ := h.ex
  refine (OpenO_yes hk.dsk hon e hr).mono ?_
  rintro e w' ⟨D', jb', u, rfl, hD, hJ, hn, hb, hR⟩
  obtain ⟨a, c, rfl⟩ := hR.form
  have hO : Own T W w' := hD.own.mono9 h1
  have hx1 : ∀ k, (D' k ∨ k = jb ∨ g.ownBlock = some k) → T k ∨ W.heap.size ≤ k := fun k hx => by
    rcases hx with hx | rfl | hx
    · exact (hD.sub k hx).elim (fun hx => .inl (h1 k hx)) .inr
    · exact .inl h.tj
    · exact .inl (h2 k hx)
  refine ⟨fun k => D' k ∨ k = jb ∨ g.ownBlock = some k, jb', a, c, rfl, ⟨⟨D', g, ⟨hD.dsk, hk.j.dp hD hk.nj hk.ng, hD.not hk.nj hk.j.lt, fun k e => hD.not (hk.ng k e) (hk.j.own.lt e).2⟩, fun k hx => .inl hx, fun k e => .inr (.inr e)⟩, .inr (.inl rfl), fun k hx => ?_, fun k hx => ?_, h.bel.trans (hO.below h.base h.bel.size), h.small, h.all⟩, ⟨hx1, hO⟩, hR.mono (fun k hx0 => hx0.elim (fun hx => ?_) .inr)⟩
  · rcases hx with hx | rfl | hx
    · exact hD.dsk.low k hx
    · exact Nat.lt_of_lt_of_le hk.j.lt hD.own.size
    · exact Nat.lt_of_lt_of_le (hk.j.own.lt hx).2 hD.own.size
  · exact (hx1 k hx).elim (h.base k) (fun hx => Nat.le_trans h.bel.size hx)
  · rcases hx with hx | rfl | hx
    · exact .inl (.inl hx)
    · exact .inr hk.j.lt
    · exact .inr (hk.j.own.lt hx).2
end Go.Proofs.Ytnnlmnjbmbflpaa
