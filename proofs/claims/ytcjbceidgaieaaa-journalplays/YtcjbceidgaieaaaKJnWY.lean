/- Texts laid as one. -/
import Derived.Test.YtcjbceidgaieaaaKJnTV
/- Journals that are opened, with the records that they give as rows of one's own. -/
set_option linter.unusedVariables false
set_option linter.unusedSimpArgs false
namespace Go.Proofs.Ytcjbceidgaieaaa
open Go.RowKit
/-- A row of rows of bytes of one's own, beside the blocks T. -/
structure OQ' (T : Nat → Prop) (w : World) (v : Value) (rs : List (List UInt8)) (xs : List Value) : Prop where
  len : xs.length = rs.length
  row : w.ownsRow 0 27 1 v rs.length xs
  o : Out T w v
  each : ∀ (j : Nat) x r, xs[j]? = some x → rs[j]? = some r → OwnsBytes w 0 x r ∧ Ap x v ∧ Out T w x
def OQ (T : Nat → Prop) (w : World) (v : Value) (rs : List (List UInt8)) : Prop := ∃ xs, OQ' T w v rs xs
theorem OQ.form {T : Nat → Prop} {w : World} {v : Value} {rs : List (List UInt8)} (h : OQ T w v rs) : ∃ a c, v = .slice a rs.length c := by
  obtain ⟨xs, h⟩ := h
  rcases h.row.2 with ⟨rfl, hz⟩ | ⟨g, cap, cur, rfl, _⟩
  · exact ⟨none, 0, by rw [hz]⟩
  · exact ⟨_, _, rfl⟩
theorem OQ.own {T T' : Nat → Prop} {w w' : World} {v : Value} {rs : List (List UInt8)} (h : OQ T w v rs) (hs : ∀ k, T' k → T k ∨ w.heap.size ≤ k) (hO : Own T w w') : OQ T' w' v rs := by
  obtain ⟨xs, h⟩ := h
  have ho : ∀ x, Out T w x → Out T' w' x := fun x hx k e => ⟨fun hk => (hs k hk).elim (hx k e).1 (fun h9 => by have := (hx k e).2; omega), Nat.lt_of_lt_of_le (hx k e).2 hO.size⟩
  exact ⟨xs, h.len, row_keep h.row (fun k e hl => hO.block k hl (h.o k e).1), ho _ h.o, fun j x r h1 h2 => ⟨(h.each j x r h1 h2).1.keep (fun k e hl => hO.block k hl ((h.each j x r h1 h2).2.2 k e).1), (h.each j x r h1 h2).2.1, ho _ (h.each j x r h1 h2).2.2⟩⟩
theorem OQ.mono {T T' : Nat → Prop} {w : World} {v : Value} {rs : List (List UInt8)} (h : OQ T w v rs) (hT : ∀ k, T' k → T k) : OQ T' w v rs := h.own (fun k hk => .inl (hT k hk)) (Own.refl _ _)
theorem OQ.dp9 {w0 w w' : World} {T T' : Nat → Prop} {b : Nat} {d : Dk.D} {v : Value} {rs : List (List UInt8)} (h : OQ (fun k => T k ∨ k < w0.heap.size) w v rs) (hD : Dp w T T' b d w') : OQ (fun k => T' k ∨ k < w0.heap.size) w' v rs :=
  h.own (fun k hk => hk.elim (fun hx => (hD.sub k hx).elim (fun h => .inl (.inl h)) .inr) (fun h => .inl (.inr h))) (hD.own.mono9 (fun k hk => .inl hk))
theorem OR.oq {w w' : World} {T : Nat → Prop} {v : Value} {rs : List (List UInt8)} (h : OR w' w.heap.size v rs) (hl : ∀ k, T k → k < w.heap.size) : OQ T w' v rs := by
  obtain ⟨xs, hx⟩ := h
  refine ⟨xs, hx.len, ?_, fun k e => ?_, fun j x r h1 h2 => ?_⟩
  · refine ⟨hx.row.1, ?_⟩
    rcases hx.row.2 with hn | ⟨g, cap, cur, he, hb, rest⟩
    · exact .inl hn
    · exact .inr ⟨g, cap, cur, he, Nat.zero_le _, rest⟩
  · have := World.ownsRow.lt hx.row k e
    exact ⟨fun ht => by have := hl k ht; omega, this.2⟩
  · have h9 := hx.each j x r h1 h2
    refine ⟨h9.1.base (fun _ _ => Nat.zero_le _), h9.2, fun k e => ?_⟩
    have := h9.1.lt e
    exact ⟨fun ht => by have := hl k ht; omega, this.2⟩
set_option maxHeartbeats 2000000 in
set_option maxRecDepth 100000 in
theorem mendO_any {w : World} {T : Nat → Prop} {b : Nat} {d : Dk.D} (h : DskE w T b d) (f : Int) (hf : f = 0 ∨ f = 1) (hon : d.on = true) {r : Int × Dk.D} (e : Hid (Jn.mend d f = r)) {rs : List (List UInt8)} (hr : Hid (Jn.recs d f = rs)) :
    Calls Try.prog 44 #[ptr b 0, .int .i64 f] w (fun e w' => ∃ u T', e = .returned (.tuple #[u, .int .i64 r.1]) ∧ Dp w T T' b r.2 w' ∧ (r.1 = 0 → OQ (fun k => T' k ∨ k < w.heap.size) w' u rs)) := by
  obtain ⟨l, hl⟩ : ∃ l, Hid ((d.at f).now = l) := ⟨_, rfl⟩
  have hlen : l.length ≤ 1048576 := by rw [← hl.out]; exact (h.fine.at f).now
  have H1 := h.read f hf hon hl
  have e' := e.out
  unfold Jn.mend at e'
  have hrs : Jn.scan l = rs := by rw [← hl.out]; exact hr.out
  rw [hr.out, hl.out] at e'
  have HD := hide9 h
  have hss : (Jn.frames rs).length ≤ l.length := by rw [← hrs]; exact Jn.scan_size l
  have HL := hide9 h.low
  clear e hr h
  obtain ⟨S, HS⟩ : ∃ S, Hid ((Jn.frames rs).length = S) := ⟨_, rfl⟩
  rw [HS.out] at e' hss
  obtain ⟨q, dq⟩ := r
  by_cases hq : S = l.length
  · rw [if_pos hq] at e'
    cases e'
    clear hf hon
    go_enter Try.func44, Try.ntmps44
    go_wp2_with (first
      | (go_at_call 26; refine H1.mono ?_; rintro e w1 ⟨a, c, rfl, ho1, hB1⟩; have H2 := Scan_any ho1.reads (by omega); rw [hrs, HS.out] at H2; clear H1)
      | (go_at_call 32; refine H2.mono ?_; rintro e w2 ⟨u, rfl, ho2, hB2⟩))
    go_ret2
    exact ⟨_, T, rfl, (Dp.refl HD.out).behind (bel hB1 hB2), fun _ => ho2.oq (T := fun k => T k ∨ k < w.heap.size) (fun k hk => Nat.lt_of_lt_of_le (hk.elim (HL.out k) id) hB1.size)⟩
  · rw [if_neg hq] at e'
    have E := hide9 e'
    clear e' hf hon
    by_cases hc : q = 0
    · subst hc
      go_enter Try.func44, Try.ntmps44
      go_wp2_with (first
        | (go_at_call 26; refine H1.mono ?_; rintro e w1 ⟨a, c, rfl, ho1, hB1⟩; have H2 := Scan_any ho1.reads (by omega); rw [hrs, HS.out] at H2; clear H1)
        | (go_at_call 32; refine H2.mono ?_; rintro e w2 ⟨u, rfl, ho2, hB2⟩; have H3 := cut_any (HD.out.below (bel hB1 hB2)) f S E; clear H2)
        | (go_at_call 65; refine H3.mono ?_; rintro e w3 ⟨T3, rfl, hD3⟩; clear H3))
      go_ret2
      exact ⟨_, T3, rfl, Dp.ahead (bel hB1 hB2) hD3, fun _ => (ho2.oq (T := fun k => T k ∨ k < w.heap.size) (fun k hk => Nat.lt_of_lt_of_le (hk.elim (HL.out k) id) hB1.size)).dp9 hD3⟩
    · have hcb : (q == 0) = false := by simpa using hc
      go_enter Try.func44, Try.ntmps44
      go_wp2_with (first
        | (go_at_call 26; refine H1.mono ?_; rintro e w1 ⟨a, c, rfl, ho1, hB1⟩; have H2 := Scan_any ho1.reads (by omega); rw [hrs, HS.out] at H2; clear H1)
        | (go_at_call 32; refine H2.mono ?_; rintro e w2 ⟨u, rfl, ho2, hB2⟩; have H3 := cut_any (HD.out.below (bel hB1 hB2)) f S E; clear H2)
        | (go_at_call 65; refine H3.mono ?_; rintro e w3 ⟨T3, rfl, hD3⟩; clear H3))
      go_ret2
      exact ⟨_, T3, rfl, Dp.ahead (bel hB1 hB2) hD3, fun hx => absurd hx hc⟩
theorem openO_end {w w3 : World} {T T' : Nat → Prop} {b : Nat} {d' : Dk.D} {rs : List (List UInt8)} {u : Value} (hD : Dp w T T' b d' w3) (hR : OQ (fun k => T' k ∨ k < w.heap.size) w3 u rs) : ∃ T' jb u', Ending.returned (.tuple #[.pointer (some ⟨w3.heap.size, 0, none⟩), u, .int .i64 0]) = .returned (.tuple #[ptr jb 0, u', .int .i64 0]) ∧ Dp w T T' b d' (w3.alloc (.cells #[ptr b 0, .slice none 0 0, .int .i64 0] 78)) ∧ JAt (w3.alloc (.cells #[ptr b 0, .slice none 0 0, .int .i64 0] 78)) jb b (.slice none 0 0) [] 0 ∧ ¬ T' jb ∧ w.heap.size ≤ jb ∧ OQ (fun k => (T' k ∨ k = jb) ∨ k < w.heap.size) (w3.alloc (.cells #[ptr b 0, .slice none 0 0, .int .i64 0] 78)) u' rs := by
  refine ⟨T', w3.heap.size, u, rfl, hD.behind (alloc1 _ _), JAt.new w3 b, fun hx => ?_, hD.own.size, ?_⟩
  · have := hD.dsk.low _ hx
    omega
  · exact hR.own (fun k hk => hk.elim (fun h => h.elim (fun h => .inl (.inl h)) (fun e => .inr (by omega))) (fun h => .inl (.inr h))) (Own.of (alloc1 _ _))
set_option maxHeartbeats 2000000 in
set_option maxRecDepth 100000 in
theorem OpenO_yes {w : World} {T : Nat → Prop} {b : Nat} {d : Dk.D} (h : DskE w T b d) (hon : d.on = true) {d' : Dk.D} (e : Hid (Jn.opens d = (0, d'))) {rs : List (List UInt8)} (hr : Hid (Jn.recs d d.root = rs)) :
    Calls Try.prog 13 #[ptr b 0] w fun e w' => ∃ T' jb u, e = .returned (.tuple #[ptr jb 0, u, .int .i64 0]) ∧ Dp w T T' b d' w' ∧ JAt w' jb b (.slice none 0 0) [] 0 ∧ ¬ T' jb ∧ w.heap.size ≤ jb ∧ OQ (fun k => (T' k ∨ k = jb) ∨ k < w.heap.size) w' u rs := by
  have H := h.root
  rw [hon] at H
  simp only [if_true] at H
  have e' := e.out
  unfold Jn.opens at e'
  rw [if_neg (by simp [hon])] at e'
  have hm := mendO_any h d.root h.fine.root hon (r := Jn.mend d d.root) (by exact (rfl : _ = _)) hr
  have hsame := Jn.mend_same (d := d) (f := d.root)
  generalize Jn.mend d d.root = r1 at *
  obtain ⟨c1, d1⟩ := r1
  dsimp only at *
  by_cases hc : c1 = 0
  · subst hc
    rw [if_neg (by simp)] at e'
    have hon1 : d1.on = true := by rw [(hsame rfl).1]; exact hon
    have E := hide9 e'
    have HF := hide9 (h.fine.root)
    clear e e' hsame hr h
    have hroot := HF.out
    generalize d.root = rt at *
    clear hon HF
    rcases hroot with rfl | rfl
    · have E1 : Hid (Jn.empty d1 1 = (0, d')) := E
      go_enter Try.func13, Try.ntmps13
      go_wp2_with (first
        | (go_at_call 25; refine H.mono ?_; rintro e w1 ⟨rfl, he⟩; replace he := he.symm; subst he)
        | (go_at_call 44; refine hm.mono ?_; rintro e w2 ⟨u, T2, rfl, hD2, hR⟩; have hR2 := hide9 (hR (by first | rfl | trivial)); obtain ⟨ua, uc, rfl⟩ := hR2.out.form; have H3 := empty_any hD2.dsk 1 (.inr rfl) hon1 E1; clear hR)
        | (go_at_call 45; refine H3.mono ?_; rintro e w3 ⟨T3, rfl, hD3⟩; clear H3 H hm))
      go_ret3
      exact openO_end (hD2.trans hD3) (hR2.out.dp9 hD3)
    · have E1 : Hid (Jn.empty d1 0 = (0, d')) := E
      go_enter Try.func13, Try.ntmps13
      go_wp2_with (first
        | (go_at_call 25; refine H.mono ?_; rintro e w1 ⟨rfl, he⟩; replace he := he.symm; subst he)
        | (go_at_call 44; refine hm.mono ?_; rintro e w2 ⟨u, T2, rfl, hD2, hR⟩; have hR2 := hide9 (hR (by first | rfl | trivial)); obtain ⟨ua, uc, rfl⟩ := hR2.out.form; have H3 := empty_any hD2.dsk 0 (.inl rfl) hon1 E1; clear hR)
        | (go_at_call 45; refine H3.mono ?_; rintro e w3 ⟨T3, rfl, hD3⟩; clear H3 H hm))
      go_ret3
      exact openO_end (hD2.trans hD3) (hR2.out.dp9 hD3)
  · rw [if_pos hc] at e'
    cases e'
    exact absurd rfl hc
/-- A disk's journal is opened. -/
theorem Lt.opensO {w0 W : World} {T : Nat → Prop} {b : Nat} {d d' : Dk.D} (h : Lt w0 T b d W) (hon : d.on = true) (e : Hid (Jn.opens d = (0, d'))) {rs : List (List UInt8)} (hr : Hid (Jn.recs d d.root = rs)) :
    Calls Try.prog 13 #[ptr b 0] W fun e w' => ∃ T' jb a c, e = .returned (.tuple #[ptr jb 0, .slice a rs.length c, .int .i64 0]) ∧ JR w0 T' b jb d' [] w' ∧ Tw W T T' w' ∧ OQ (fun k => T' k ∨ k < W.heap.size) w' (.slice a rs.length c) rs := by
  refine (OpenO_yes h.dsk hon e hr).mono ?_
  rintro e w' ⟨T', jb, u, rfl, hD, hJ, hn, hb, hR⟩
  obtain ⟨a, c, rfl⟩ := hR.form
  refine ⟨fun k => T' k ∨ k = jb, jb, a, c, rfl, ⟨⟨T', .slice none 0 0, ⟨hD.dsk, hJ, hn, fun k e => by cases e⟩, fun k hx => .inl hx, fun k e => by cases e⟩, .inr rfl, fun k hx => ?_, fun k hx => ?_, h.bel.trans (hD.own.below h.base h.bel.size), by simp [Jn.frames], fun r hr => by simp at hr⟩, ⟨fun k hx => ?_, hD.own⟩, hR⟩
  · rcases hx with hx | rfl
    · exact hD.dsk.low k hx
    · exact hJ.lt
  · rcases hx with hx | rfl
    · rcases hD.sub k hx with hx | hx
      · exact h.base k hx
      · exact Nat.le_trans h.bel.size hx
    · exact Nat.le_trans h.bel.size hb
  · rcases hx with hx | rfl
    · exact hD.sub k hx
    · exact .inr hb
/-- A disk's journal is opened again: the one that was there stays. -/
theorem JR.againO {w0 W : World} {T : Nat → Prop} {b jb : Nat} {d d' : Dk.D} {gs : List (List UInt8)} (h : JR w0 T b jb d gs W) (hon : d.on = true) (e : Hid (Jn.opens d = (0, d'))) {rs : List (List UInt8)} (hr : Hid (Jn.recs d d.root = rs)) :
    Calls Try.prog 13 #[ptr b 0] W fun e w' => ∃ T' jb' a c, e = .returned (.tuple #[ptr jb' 0, .slice a rs.length c, .int .i64 0]) ∧ JR w0 T' b jb d' gs w' ∧ Tw W T T' w' ∧ OQ (fun k => T' k ∨ k < W.heap.size) w' (.slice a rs.length c) rs := by
  obtain ⟨D, g, hk, h1, h2⟩ := h.ex
  refine (OpenO_yes hk.dsk hon e hr).mono ?_
  rintro e w' ⟨D', jb', u, rfl, hD, hJ, hn, hb, hR⟩
  obtain ⟨a, c, rfl⟩ := hR.form
  have hO : Own T W w' := hD.own.mono9 h1
  have hx1 : ∀ k, (D' k ∨ k = jb ∨ g.ownBlock = some k) → T k ∨ W.heap.size ≤ k := fun k hx => by
    rcases hx with hx | rfl | hx
    · exact (hD.sub k hx).elim (fun hx => .inl (h1 k hx)) .inr
    · exact .inl h.tj
    · exact .inl (h2 k hx)
  refine ⟨fun k => D' k ∨ k = jb ∨ g.ownBlock = some k, jb', a, c, rfl, ⟨⟨D', g, ⟨hD.dsk, hk.j.dp hD hk.nj hk.ng, hD.not hk.nj hk.j.lt, fun k e => hD.not (hk.ng k e) (hk.j.own.lt e).2⟩, fun k hx => .inl hx, fun k e => .inr (.inr e)⟩, .inr (.inl rfl), fun k hx => ?_, fun k hx => ?_, h.bel.trans (hO.below h.base h.bel.size), h.small, h.all⟩, ⟨hx1, hO⟩, hR.mono (fun k hx0 => hx0.elim (fun hx => ?_) .inr)⟩
  · rcases hx with hx | rfl | hx
    · exact hD.dsk.low k hx
    · exact Nat.lt_of_lt_of_le hk.j.lt hD.own.size
    · exact Nat.lt_of_lt_of_le (hk.j.own.lt hx).2 hD.own.size
  · exact (hx1 k hx).elim (h.base k) (fun hx => Nat.le_trans h.bel.size hx)
  · rcases hx with hx | rfl | hx
    · exact .inl (.inl hx)
    · exact .inr hk.j.lt
    · exact .inr (hk.j.own.lt hx).2
end Go.Proofs.Ytcjbceidgaieaaa
/- Rows of records that a law keeps beside a journal. -/
set_option linter.unusedVariables false
set_option linter.unusedSimpArgs false
namespace Go.Proofs.Ytcjbceidgaieaaa
open Go.RowKit
/-- A slice whose cells are these. -/
def Src (w : World) (y : Value) (ys : List Value) : Prop := (∃ a c, y = .slice a 0 c ∧ ys = []) ∨ ∃ b o c, y = .slice (some ⟨b, o, none⟩) ys.length c ∧ ∀ (j : Nat) x, ys[j]? = some x → w.cell? ⟨b, o + j, none⟩ = some x
def Ones (ys : List Value) : Prop := ∀ u ∈ ys, u.oneCell' = true
theorem run_append_rows (w : World) (ty : TypeId) (v : Value) (n : Nat) (xs : List Value) (hown : w.ownsRow 0 27 1 v n xs) (y : Value) (ys : List Value) (hy : Src w y ys) (h1 : Ones ys) (hlen : n + ys.length ≤ 1000000) :
    ∃ v' w', (Builtin.append_ #[38, 38] ty #[v, y]).run Try.prog w = .ok v' w' ∧ w'.ownsRow 0 27 1 v' (n + ys.length) (xs ++ ys) ∧ w.grownBy w' v.ownBlock ∧ (v'.ownBlock = v.ownBlock ∨ v'.ownBlock = some w.heap.size) := by
  obtain ⟨i0, hi, hz0, hz1, hz2⟩ := info_parts infoSl
  rcases hy with ⟨ad, c, rfl, rfl⟩ | ⟨b, f, c, rfl, hr⟩
  · cases ad with
    | none =>
      refine ⟨v, w, ?_, by simpa using hown, World.grownBy.refl _ _, .inl rfl⟩
      have ht := Try.underlying38
      rcases hown.2 with ⟨rfl, rfl⟩ | ⟨g, cap, cur, rfl, _, _, hnc, _⟩
      · simp [Builtin.append_, run_underlying ht, sizeOf, typeInfo, hi, Builtin.lenOf, Builtin.firstCells]
      · simp [Builtin.append_, run_underlying ht, sizeOf, typeInfo, hi, Builtin.lenOf, Builtin.firstCells, hnc, storeCells]
    | some ad =>
      obtain ⟨v', w', h1, h2, h3, _, h5⟩ := run_append_own_at (P := Try.prog) w 0 38 ty 27 i0 (.slice none 0 0) 1 24 Try.underlying38 hi hz0 hz1 hz2 rfl (by decide) v _ _ hown ad 0 c [] rfl (fun j u hj => by simp at hj) (fun x hx => by simp at hx) (by simp at hlen; unfold maxLen; omega) (by simp at hlen; omega) (Nat.zero_le _)
      exact ⟨v', w', h1, h2, h3, h5⟩
  · obtain ⟨v', w', h1, h2, h3, _, h5⟩ := run_append_own_at (P := Try.prog) w 0 38 ty 27 i0 (.slice none 0 0) 1 24 Try.underlying38 hi hz0 hz1 hz2 rfl (by decide) v _ _ hown ⟨b, f, none⟩ ys.length c ys (by omega) (fun j u hj => by rw [add_addr]; exact hr j u hj) h1 (by unfold maxLen; omega) (by omega) (Nat.zero_le _)
    exact ⟨v', w', h1, h2, h3, h5⟩
theorem wp_append_rows {w : World} {o : Oper} {a : Act} {K : Act → World → Prop} {Q : Exit → Act → World → Prop} (s x : Operand)
    (ho : o.op = .call { callee := .builtin .append, args := #[s, x], argTypes := #[38, 38] }) (v : Value) (n : Nat) (xs : List Value) (hs : a.eval s = v) (hown : w.ownsRow 0 27 1 v n xs) (y : Value) (ys : List Value) (hx : a.eval x = y) (hy : Src w y ys) (h1 : Ones ys) (hlen : n + ys.length ≤ 1000000)
    (h : ∀ v' w', w'.ownsRow 0 27 1 v' (n + ys.length) (xs ++ ys) → w.grownBy w' v.ownBlock → (v'.ownBlock = v.ownBlock ∨ v'.ownBlock = some w.heap.size) → K (a.put o.dst v') w') : o.wp Try.prog a w K Q := by
  obtain ⟨v', w', hr, h2, h3, h4⟩ := run_append_rows w o.type v n xs hown y ys hy h1 hlen
  unfold Oper.wp execOp
  simp only [ho, resolve, invoke, builtin, Sem.run_bind, Sem.run_pure, Result.andThen_ok, List.map_toArray, List.map_cons, List.map_nil, hs, hx, hr]
  exact h v' w' h2 h3 h4
theorem wpList_append_rows {w : World} {ops : Array Oper} {rest : List Oper} {o : Oper} {a : Act} {Q : Exit → Act → World → Prop} (hgd : o.guard = none) (s x : Operand)
    (ho : o.op = .call { callee := .builtin .append, args := #[s, x], argTypes := #[38, 38] }) (v : Value) (n : Nat) (xs : List Value) (hs : a.eval s = v) (hown : w.ownsRow 0 27 1 v n xs) (y : Value) (ys : List Value) (hx : a.eval x = y) (hy : Src w y ys) (h1 : Ones ys) (hlen : n + ys.length ≤ 1000000)
    (h : ∀ v' w', w'.ownsRow 0 27 1 v' (n + ys.length) (xs ++ ys) → w.grownBy w' v.ownBlock → (v'.ownBlock = v.ownBlock ∨ v'.ownBlock = some w.heap.size) → wpList Try.prog ops Q rest (a.put o.dst v') w') : wpList Try.prog ops Q (o :: rest) a w :=
  wpList_plain hgd fun _ hK => wp_append_rows s x ho v n xs hs hown y ys hx hy h1 hlen fun v' w' h2 h3 h4 => hK _ _ (h v' w' h2 h3 h4)
theorem step_append_rows {w : World} {ops : Array Oper} {o : Oper} {a : Act} {K : Act → World → Prop} {Q : Exit → Act → World → Prop} {E : Prop} (hgd : o.guard = none) (s x : Operand)
    (ho : o.op = .call { callee := .builtin .append, args := #[s, x], argTypes := #[38, 38] }) (v : Value) (n : Nat) (xs : List Value) (hs : a.eval s = v) (hown : w.ownsRow 0 27 1 v n xs) (y : Value) (ys : List Value) (hx : a.eval x = y) (hy : Src w y ys) (h1 : Ones ys) (hlen : n + ys.length ≤ 1000000)
    (h : ∀ v' w', w'.ownsRow 0 27 1 v' (n + ys.length) (xs ++ ys) → w.grownBy w' v.ownBlock → (v'.ownBlock = v.ownBlock ∨ v'.ownBlock = some w.heap.size) → K (a.put o.dst v') w') : if Region.wanted o (yielded ops a.tmps) = true then Oper.wp Try.prog o a w K Q else E := by
  rw [if_pos (by simp [Region.wanted, hgd])]
  exact wp_append_rows s x ho v n xs hs hown y ys hx hy h1 hlen h
/-- A row of slices that a law keeps; what they read stays, as long as nothing but U is turned. -/
structure Ov (U : Nat → Prop) (T : Nat → Prop) (w : World) (v : Value) (rs : List (List UInt8)) (xs : List Value) : Prop where
  len : xs.length = rs.length
  row : w.ownsRow 0 27 1 v rs.length xs
  o : Out T w v
  each : ∀ (j : Nat) x r, xs[j]? = some x → rs[j]? = some r → ∀ w', Own U w w' → RB w' x r
theorem Ov.src {U T : Nat → Prop} {w : World} {v : Value} {rs : List (List UInt8)} {xs : List Value} (h : Ov U T w v rs xs) : Src w v xs := by
  have h0 := h.row
  rcases h.row.2 with ⟨rfl, hz⟩ | ⟨g, cap, cur, rfl, _, hg, hc, _⟩
  · exact .inl ⟨_, _, rfl, List.eq_nil_of_length_eq_zero (by rw [h.len]; exact hz)⟩
  · refine .inr ⟨g, 0, cap, by rw [h.len], fun j x hj => ?_⟩
    have hlt : j < rs.length := by rw [← h.len]; exact (List.getElem?_eq_some_iff.1 hj).1
    have := World.ownsRow.cellAt (w := w) (base := 0) (e := 27) (size := 1) (g := g) (cap := cap) (n := rs.length) (xs := xs) h0 j (by omega)
    rw [Nat.zero_add, this, hj]
theorem Ov.ones {U T : Nat → Prop} {w : World} {v : Value} {rs : List (List UInt8)} {xs : List Value} (h : Ov U T w v rs xs) : Ones xs := fun u hu => by
  obtain ⟨j, hj, e⟩ := List.getElem_of_mem hu
  have hr : j < rs.length := by rw [← h.len]; exact hj
  obtain ⟨a, c, e2⟩ := (h.each j u rs[j] (by rw [← e]; exact List.getElem?_eq_getElem hj) (List.getElem?_eq_getElem hr) w (Own.refl _ _)).form
  rw [e2]
  rfl
theorem Ov.form {U T : Nat → Prop} {w : World} {v : Value} {rs : List (List UInt8)} {xs : List Value} (h : Ov U T w v rs xs) : ∃ a c, v = .slice a rs.length c ∧ rs.length ≤ c := by
  rcases h.row.2 with ⟨rfl, hz⟩ | ⟨g, cap, cur, rfl, _, _, hc, _⟩
  · exact ⟨none, 0, by rw [hz], by omega⟩
  · exact ⟨_, _, rfl, hc⟩
theorem Ov.rbs {U T : Nat → Prop} {w : World} {v : Value} {rs : List (List UInt8)} {xs : List Value} (h : Ov U T w v rs xs) : RBs w v rs := by
  have h0 := h.row
  rcases h.row.2 with ⟨rfl, hz⟩ | ⟨g, cap, cur, rfl, _, hg, hc, _⟩
  · exact .inl ⟨_, _, rfl, List.eq_nil_of_length_eq_zero hz⟩
  · refine .inr ⟨g, 0, cap, rfl, hc, fun j r hj => ?_⟩
    have hlt : j < rs.length := (List.getElem?_eq_some_iff.1 hj).1
    have hxl : j < xs.length := by rw [h.len]; exact hlt
    have := World.ownsRow.cellAt (w := w) (base := 0) (e := 27) (size := 1) (g := g) (cap := cap) (n := rs.length) (xs := xs) h0 j (by omega)
    exact ⟨xs[j], by rw [Nat.zero_add, this, List.getElem?_eq_getElem hxl], h.each j _ r (List.getElem?_eq_getElem hxl) hj w (Own.refl _ _)⟩
/-- Blocks that a law's round may turn. -/
def Ub (T : Nat → Prop) (sv gv : Value) : Nat → Prop := fun k => T k ∨ sv.ownBlock = some k ∨ gv.ownBlock = some k
/-- What the law JournalKept carries beside the journal: what is sure, and the group. -/
structure KV (w0 : World) (T : Nat → Prop) (w : World) (sv gv : Value) (ss gs : List (List UInt8)) (xs ys : List Value) : Prop where
  s : Ov (Ub T sv gv) T w sv ss xs
  g : Ov (Ub T sv gv) T w gv gs ys
  ap : Ap sv gv
  bs : ∀ k, sv.ownBlock = some k → w0.heap.size ≤ k
  bg : ∀ k, gv.ownBlock = some k → w0.heap.size ≤ k
def KVE (w0 : World) (T : Nat → Prop) (w : World) (sv gv : Value) (ss gs : List (List UInt8)) : Prop := ∃ xs ys, KV w0 T w sv gv ss gs xs ys
theorem KVE.tw {w0 w w' : World} {T T' : Nat → Prop} {sv gv : Value} {ss gs : List (List UInt8)} (h : KVE w0 T w sv gv ss gs) (hT : Tw w T T' w') : KVE w0 T' w' sv gv ss gs := by
  obtain ⟨xs, ys, h⟩ := h
  have hU : ∀ k, Ub T' sv gv k → Ub T sv gv k ∨ w.heap.size ≤ k := fun k hk => by
    rcases hk with hk | hk | hk
    · exact (hT.sub k hk).elim (fun h => .inl (.inl h)) .inr
    · exact .inl (.inr (.inl hk))
    · exact .inl (.inr (.inr hk))
  have hO : Own (Ub T sv gv) w w' := hT.own.mono9 (fun k hk => .inl hk)
  exact ⟨xs, ys, ⟨h.s.len, row_keep h.s.row (fun k e hl => hT.own.block k hl (h.s.o k e).1), hT.out h.s.o, fun j x r h1 h2 W hW => h.s.each j x r h1 h2 W (hO.trans hW hU)⟩, ⟨h.g.len, row_keep h.g.row (fun k e hl => hT.own.block k hl (h.g.o k e).1), hT.out h.g.o, fun j x r h1 h2 W hW => h.g.each j x r h1 h2 W (hO.trans hW hU)⟩, h.ap, h.bs, h.bg⟩
theorem KVE.below {w0 w w' : World} {T : Nat → Prop} {sv gv : Value} {ss gs : List (List UInt8)} (h : KVE w0 T w sv gv ss gs) (hB : Below w.heap.size w w') : KVE w0 T w' sv gv ss gs := h.tw (Tw.of T hB)
theorem Ov.nil (U T : Nat → Prop) (w : World) : Ov U T w (.slice none 0 0) [] [] := ⟨rfl, World.ownsRow_nil _ _ _ _, fun k e => (by cases e), fun j x r h => (by simp at h)⟩
theorem KVE.nil (w0 : World) (T : Nat → Prop) (w : World) : KVE w0 T w (.slice none 0 0) (.slice none 0 0) [] [] := ⟨[], [], Ov.nil _ _ _, Ov.nil _ _ _, fun k e => (by cases e), fun k e => (by cases e), fun k e => (by cases e)⟩
theorem KVE.drop {w0 w : World} {T : Nat → Prop} {sv gv : Value} {ss gs : List (List UInt8)} (h : KVE w0 T w sv gv ss gs) : KVE w0 T w sv (.slice none 0 0) ss [] := by
  obtain ⟨xs, ys, h⟩ := h
  refine ⟨xs, [], ⟨h.s.len, h.s.row, h.s.o, fun j x r h1 h2 W hW => h.s.each j x r h1 h2 W (hW.mono9 (fun k hk => ?_))⟩, Ov.nil _ _ _, fun k _ e => (by cases e), h.bs, fun k e => (by cases e)⟩
  rcases hk with hk | hk | hk
  · exact .inl hk
  · exact .inr (.inl hk)
  · cases hk
/-- What was just opened. -/
theorem KVE.opened {w0 W w : World} {T : Nat → Prop} {u : Value} {rs : List (List UInt8)} (h : OQ (fun k => T k ∨ k < W.heap.size) w u rs) (hW : w0.heap.size ≤ W.heap.size) : KVE w0 T w u (.slice none 0 0) rs [] := by
  obtain ⟨xs, h⟩ := h
  refine ⟨xs, [], ⟨h.len, h.row, fun k e => ⟨fun hx => (h.o k e).1 (.inl hx), (h.o k e).2⟩, fun j x r h1 h2 W' hO => ?_⟩, Ov.nil _ _ _, fun k _ e => (by cases e), fun k e => ?_, fun k e => (by cases e)⟩
  · obtain ⟨g1, g2, g3⟩ := h.each j x r h1 h2
    refine (g1.keep (fun k e hl => hO.block k hl (fun hx => ?_))).reads
    rcases hx with hx | hx | hx
    · exact (g3 k e).1 (.inl hx)
    · exact g2 k e hx
    · cases hx
  · rcases Nat.lt_or_ge k W.heap.size with hlt | hge
    · exact absurd (.inr hlt) (h.o k e).1
    · omega
/-- A journal stays, where a law turns a row of its own. -/
theorem JR.keep {w0 W W' : World} {T : Nat → Prop} {b jb : Nat} {d : Dk.D} {gs : List (List UInt8)} (h : JR w0 T b jb d gs W) {v : Value} (hv : ∀ k, v.ownBlock = some k → ¬ T k) (hb : ∀ k, v.ownBlock = some k → w0.heap.size ≤ k) (hO : Own (fun k => v.ownBlock = some k) W W') : JR w0 T b jb d gs W' := by
  obtain ⟨D, g, hk, h1, h2⟩ := h.ex
  have hs : ∀ k, k < W.heap.size → T k → W'.heap[k]? = W.heap[k]? := fun k hl ht => hO.block k hl (fun e => hv k e ht)
  obtain ⟨n0, g0, n1, g1, hD⟩ := hk.dsk
  exact ⟨⟨D, g, ⟨⟨n0, g0, n1, g1, hD.keep hO.size (fun k hl hd => hs k hl (h1 k hd))⟩, hk.j.keep (fun k hl hx => hs k hl (hx.elim (fun e => e ▸ h.tj) (h2 k))), hk.nj, hk.ng⟩, h1, h2⟩, h.tj, fun k ht => Nat.lt_of_lt_of_le (h.low k ht) hO.size, h.base, h.bel.trans (hO.below hb h.bel.size), h.small, h.all⟩
theorem own_grown {w w' : World} {v : Value} (h : w.grownBy w' v.ownBlock) : Own (fun k => v.ownBlock = some k) w w' := ⟨h.os, h.tape, h.output, h.size, fun k hk hn => h.block k hk (fun e => hn e.symm)⟩
/-- Records that came in are appended to the group. -/
theorem KV.add {w0 w w' : World} {T : Nat → Prop} {sv gv gv' : Value} {ss gs rs : List (List UInt8)} {xs ys zs : List Value} (h : KV w0 T w sv gv ss gs xs ys) (hT : ∀ k, T k → k < w.heap.size) (hTb : ∀ k, T k → w0.heap.size ≤ k) (hB : Below w0.heap.size w0 w) {rv : Value} (hr : RBx w0 rv zs rs) (h1 : w'.ownsRow 0 27 1 gv' (gs.length + zs.length) (ys ++ zs)) (h2 : w.grownBy w' gv.ownBlock) (h3 : gv'.ownBlock = gv.ownBlock ∨ gv'.ownBlock = some w.heap.size) : KVE w0 T w' sv gv' ss (gs ++ rs) := by
  have hO := own_grown h2
  have hg' : ∀ k, gv'.ownBlock = some k → gv.ownBlock = some k ∨ k = w.heap.size := fun k e => by
    rcases h3 with h3 | h3
    · exact .inl (h3 ▸ e)
    · rw [h3] at e
      cases e
      exact .inr rfl
  have hU : ∀ k, Ub T sv gv' k → Ub T sv gv k ∨ w.heap.size ≤ k := fun k hk => by
    rcases hk with hk | hk | hk
    · exact .inl (.inl hk)
    · exact .inl (.inr (.inl hk))
    · exact (hg' k hk).elim (fun e => .inl (.inr (.inr e))) (fun e => .inr (by omega))
  have hOU : Own (Ub T sv gv) w w' := hO.mono9 (fun k hk => .inr (.inr hk))
  have hbw : w0.heap.size ≤ w.heap.size := hB.size
  have hbU : ∀ k, Ub T sv gv' k → w0.heap.size ≤ k := fun k hk => by
    rcases hU k hk with hk | hk
    · rcases hk with hk | hk | hk
      · exact hTb k hk
      · exact h.bs k hk
      · exact h.bg k hk
    · omega
  have hB' : Below w0.heap.size w0 w' := hB.trans (hO.below h.bg hbw)
  refine ⟨xs, ys ++ zs, ⟨h.s.len, row_keep h.s.row (fun k e hl => hO.block k hl (fun e2 => h.ap k e e2)), fun k e => ⟨(h.s.o k e).1, Nat.lt_of_lt_of_le (h.s.o k e).2 hO.size⟩, fun j x r e1 e2 W hW => h.s.each j x r e1 e2 W (hOU.trans hW hU)⟩, ⟨by rw [List.length_append, List.length_append, h.g.len, hr.len], by rw [List.length_append, ← hr.len]; exact h1, fun k e => ⟨fun ht => ?_, (World.ownsRow.lt h1 k e).2⟩, fun j x r e1 e2 W hW => ?_⟩, fun k e1 e2 => ?_, h.bs, fun k e => ?_⟩
  · rcases hg' k e with e | e
    · exact (h.g.o k e).1 ht
    · have := hT k ht
      omega
  · by_cases hlt : j < gs.length
    · rw [List.getElem?_append_left (by rw [h.g.len]; exact hlt)] at e1
      rw [List.getElem?_append_left hlt] at e2
      exact h.g.each j x r e1 e2 W (hOU.trans hW hU)
    · rw [List.getElem?_append_right (by rw [h.g.len]; omega), h.g.len] at e1
      rw [List.getElem?_append_right (by omega)] at e2
      exact (hr.each _ x r e1 e2).below (hB'.trans (hW.below hbU hB'.size))
  · rcases hg' k e2 with e | e
    · exact h.ap k e1 e
    · have := (h.s.o k e1).2
      omega
  · rcases hg' k e with e | e
    · exact h.bg k e
    · omega
/-- The group is appended to what is sure. -/
theorem KV.sure {w0 w w' : World} {T : Nat → Prop} {sv gv sv' : Value} {ss gs : List (List UInt8)} {xs ys : List Value} (h : KV w0 T w sv gv ss gs xs ys) (hT : ∀ k, T k → k < w.heap.size) (hbw : w0.heap.size ≤ w.heap.size) (h1 : w'.ownsRow 0 27 1 sv' (ss.length + ys.length) (xs ++ ys)) (h2 : w.grownBy w' sv.ownBlock) (h3 : sv'.ownBlock = sv.ownBlock ∨ sv'.ownBlock = some w.heap.size) : KVE w0 T w' sv' (.slice none 0 0) (ss ++ gs) [] := by
  have hO := own_grown h2
  have hg' : ∀ k, sv'.ownBlock = some k → sv.ownBlock = some k ∨ k = w.heap.size := fun k e => by
    rcases h3 with h3 | h3
    · exact .inl (h3 ▸ e)
    · rw [h3] at e
      cases e
      exact .inr rfl
  have hU : ∀ k, Ub T sv' (.slice none 0 0) k → Ub T sv gv k ∨ w.heap.size ≤ k := fun k hk => by
    rcases hk with hk | hk | hk
    · exact .inl (.inl hk)
    · exact (hg' k hk).elim (fun e => .inl (.inr (.inl e))) (fun e => .inr (by omega))
    · cases hk
  have hOU : Own (Ub T sv gv) w w' := hO.mono9 (fun k hk => .inr (.inl hk))
  refine ⟨xs ++ ys, [], ⟨by rw [List.length_append, List.length_append, h.s.len, h.g.len], by rw [List.length_append, ← h.g.len]; exact h1, fun k e => ⟨fun ht => ?_, (World.ownsRow.lt h1 k e).2⟩, fun j x r e1 e2 W hW => ?_⟩, Ov.nil _ _ _, fun k _ e2 => (by cases e2), fun k e => ?_, fun k e => (by cases e)⟩
  · rcases hg' k e with e | e
    · exact (h.s.o k e).1 ht
    · have := hT k ht
      omega
  · by_cases hlt : j < ss.length
    · rw [List.getElem?_append_left (by rw [h.s.len]; exact hlt)] at e1
      rw [List.getElem?_append_left hlt] at e2
      exact h.s.each j x r e1 e2 W (hOU.trans hW hU)
    · rw [List.getElem?_append_right (by rw [h.s.len]; omega), h.s.len] at e1
      rw [List.getElem?_append_right (by omega)] at e2
      exact h.g.each _ x r e1 e2 W (hOU.trans hW hU)
  · rcases hg' k e with e | e
    · exact h.bs k e
    · omega
end Go.Proofs.Ytcjbceidgaieaaa
/- What a loss leaves of a journal whose commit is under way. -/
set_option linter.unusedVariables false
set_option linter.unusedSimpArgs false
namespace Go.Proofs.Ytcjbceidgaieaaa
namespace Jn
theorem act_off {d : Dk.D} {f : Int} {does : Dk.D → Dk.D} (hw : d.why f = 0) (h : (d.act f 0 does).1 = 12) : (d.act f 0 does).2.on = false := by
  unfold Dk.D.act at *
  rw [if_neg (by simp [hw]), if_neg (by simp)] at *
  by_cases hf : d.fuse = 0
  · rw [if_pos hf]
  · rw [if_neg hf] at h
    cases h
/-- A journal's disk in rest. -/
structure Kp (d : Dk.D) (ss : List (List UInt8)) : Prop where
  on : d.on = true
  core : Core d 0 ⟨frames ss, (frames ss).length, []⟩ ⟨[], 0, []⟩
  all : All ss
/-- A journal's disk behind a commit that was under way. -/
structure Kt (d : Dk.D) (ss gs : List (List UInt8)) : Prop where
  on : d.on = false
  root : d.root = 0
  b : d.b = ⟨[], 0, []⟩
  a : d.a = ⟨frames ss, (frames ss).length, []⟩ ∨ d.a = ⟨frames ss ++ frames gs, (frames ss).length, []⟩ ∨ d.a = ⟨frames ss ++ frames gs, (frames ss ++ frames gs).length, []⟩
  all : All ss
  gall : All gs
theorem commit_kp {d : Dk.D} {ss gs : List (List UInt8)} (h : Kp d ss) (hg : All gs) {r : Int × Dk.D} (e : commits d gs = r) : (r.1 = 0 ∧ Kp r.2 (ss ++ gs)) ∨ (r.1 = 11 ∧ r.2 = d) ∨ (r.1 = 12 ∧ Kt r.2 ss gs) := by
  unfold commits at e
  by_cases hge : gs = []
  · rw [if_pos hge] at e
    subst e
    subst hge
    rw [List.append_nil]
    exact .inl ⟨rfl, h⟩
  · rw [if_neg hge, if_neg (by simp [h.on]), h.core.root] at e
    have hall : All (ss ++ gs) := fun x hx => (List.mem_append.1 hx).elim (h.all x) (hg x)
    by_cases hl : d.left < ((frames gs).length : Int)
    · have ha : d.append 0 (frames gs) = (11, d) := by
        unfold Dk.D.append Dk.D.act
        rw [if_pos hl, if_neg (by simp [why_ok h.on (.inl rfl)]), if_pos (by decide)]
      unfold write at e
      rw [ha, if_pos (show (11 : Int) ≠ 0 by decide)] at e
      subst e
      exact .inr (.inl ⟨rfl, rfl⟩)
    · have ha : d.append 0 (frames gs) = d.act 0 0 (fun x => x.put 0 ((x.at 0).app (frames gs))) := by
        unfold Dk.D.append
        rw [if_neg hl]
      have hoff := act_off (d := d) (f := 0) (does := fun x => x.put 0 ((x.at 0).app (frames gs))) (why_ok h.on (.inl rfl))
      unfold write at e
      rw [ha] at e
      rcases core_act (d := d) (f := 0) (does := fun x => x.put 0 ((x.at 0).app (frames gs))) (A' := ⟨frames ss ++ frames gs, (frames ss).length, []⟩) (B' := ⟨[], 0, []⟩) (rt' := 0) (why_ok h.on (.inl rfl)) h.core ⟨h.core.root, by show (d.a.app (frames gs)) = _; rw [h.core.a]; rfl, h.core.b⟩ (by rw [(put_two _ _ _).1]; exact h.on) with ⟨h1, h2⟩ | ⟨h1, ho1, h2⟩
      · rw [if_pos (by rw [h1]; decide)] at e
        subst e
        exact .inr (.inr ⟨h1, hoff h1, h2.elim (fun h => h.root) (fun h => h.root), h2.elim (fun h => h.b) (fun h => h.b), h2.elim (fun h => .inl h.a) (fun h => .inr (.inl h.a)), h.all, hg⟩)
      · rw [if_neg (by rw [h1]; decide)] at e
        generalize (d.act 0 0 (fun x => x.put 0 ((x.at 0).app (frames gs)))).2 = d1 at *
        have hoff2 := act_off (d := d1) (f := 0) (does := fun x => x.put 0 (x.at 0).settle) (why_ok ho1 (.inl rfl))
        rcases core_sync ho1 h2 0 (.inl rfl) with ⟨h3, h4⟩ | ⟨h3, ho3, h4⟩
        · subst e
          exact .inr (.inr ⟨h3, hoff2 h3, h4.elim (fun h => h.root) (fun h => h.root), h4.elim (fun h => h.b) (fun h => h.b), h4.elim (fun h => .inr (.inl h.a)) (fun h => .inr (.inr h.a)), h.all, hg⟩)
        · subst e
          refine .inl ⟨h3, ho3, ?_, hall⟩
          rw [frames_app]
          exact h4
theorem fail_kt {d : Dk.D} {ss : List (List UInt8)} (h : Kp d ss) : Kt d.fail ss [] := ⟨rfl, h.core.root, h.core.b, .inl h.core.a, h.all, fun r hr => by simp at hr⟩
/-- What is left of the first file. -/
theorem kt_left {d : Dk.D} {ss gs : List (List UInt8)} (h : Kt d ss gs) (k : Int) (c : Bool) : ∃ m, d.a.left k c = frames ss ++ (frames gs).take m := by
  rcases h.a with ha | ha | ha <;> rw [ha] <;> unfold Dk.Cn.left <;> rw [if_neg (by simp)]
  · exact ⟨0, by rw [List.take_of_length_le (Nat.le_add_right _ _)]; simp⟩
  · refine ⟨Dk.Cn.kept ⟨frames ss ++ frames gs, (frames ss).length, []⟩ k, ?_⟩
    rw [List.take_append, List.take_of_length_le (Nat.le_add_right _ _), Nat.add_sub_cancel_left]
  · exact ⟨(frames gs).length, by rw [List.take_of_length_le (Nat.le_add_right _ _), List.take_of_length_le (Nat.le_refl _)]⟩
theorem opens_kp {d : Dk.D} {ss : List (List UInt8)} (h : Kp d ss) : opens d = (0, d) ∧ recs d d.root = ss := by
  have hn : (d.at d.root).now = frames ss := by
    rw [h.core.root]
    show d.a.now = _
    rw [h.core.a]
  have hre : recs d d.root = ss := by
    unfold recs
    rw [hn, scan_all ss h.all]
  refine ⟨?_, hre⟩
  have hm : mend d d.root = (0, d) := by
    unfold mend
    rw [hre, hn, if_pos rfl]
  unfold opens
  rw [if_neg (by simp [h.on]), hm]
  simp only [ne_eq, not_true_eq_false, if_false]
  unfold empty
  rw [h.core.root, if_pos (by show d.b.now.length = 0; rw [h.core.b]; rfl)]
/-- Behind a loss, and opened. -/
theorem kt_opens {d : Dk.D} {ss gs : List (List UInt8)} (h : Kt d ss gs) (k0 k1 : Int) (c0 c1 : Bool) : ∃ dS d' m, m ≤ gs.length ∧ d.start k0 k1 c0 c1 = (0, dS) ∧ dS.on = true ∧ opens dS = (0, d') ∧ recs dS dS.root = ss ++ gs.take m ∧ Kp d' (ss ++ gs.take m) := by
  obtain ⟨m0, hm0⟩ := kt_left h k0 c0
  obtain ⟨m, hm, hsc⟩ := scan_torn ss gs m0 h.all h.gall
  obtain ⟨dS, hdS⟩ : ∃ dS, d.start k0 k1 c0 c1 = (0, dS) := ⟨_, by unfold Dk.D.start; rw [h.on]; rfl⟩
  have hS : dS = { d with a := d.a.lose k0 c0, b := d.b.lose k1 c1, on := true, fuse := -1 } := by
    unfold Dk.D.start at hdS
    rw [h.on] at hdS
    exact (congrArg Prod.snd hdS).symm
  have hr : dS.root = 0 := by rw [hS]; exact h.root
  have hon : dS.on = true := by rw [hS]
  have hfu : dS.fuse = -1 := by rw [hS]
  obtain ⟨N, hN⟩ : ∃ N, d.a.left k0 c0 = N := ⟨_, rfl⟩
  have ha : dS.a = ⟨N, N.length, []⟩ := by
    rw [hS, ← hN]
    rfl
  have hb : dS.b = ⟨[], 0, []⟩ := by
    rw [hS]
    show d.b.lose k1 c1 = _
    rw [h.b]
    show (⟨Dk.Cn.left ⟨[], 0, []⟩ k1 c1, (Dk.Cn.left ⟨[], 0, []⟩ k1 c1).length, []⟩ : Dk.Cn) = _
    have : Dk.Cn.left ⟨[], 0, []⟩ k1 c1 = [] := by
      unfold Dk.Cn.left
      rw [if_neg (by simp)]
      simp
    rw [this]
    rfl
  rw [hN] at hm0
  have hall : All (ss ++ gs.take m) := fun x hx => (List.mem_append.1 hx).elim (h.all x) (fun hx => h.gall x (List.mem_of_mem_take hx))
  have hrec : recs dS dS.root = ss ++ gs.take m := by
    unfold recs
    rw [hr]
    show scan dS.a.now = _
    rw [ha, hm0]
    exact hsc
  have hcalm : dS.Calm := ⟨hon, hfu⟩
  have hsz := scan_size N
  have htk := scan_take N
  rw [hm0, hsc, ← hm0] at hsz htk
  have hemp : ∀ x : Dk.D, x.b = ⟨[], 0, []⟩ → empty x 1 = (0, x) := fun x hx => by
    unfold empty
    rw [if_pos (by show x.b.now.length = 0; rw [hx]; rfl)]
  have hat : (dS.at 0).now = N := by show dS.a.now = N; rw [ha]
  by_cases hq : (frames (ss ++ gs.take m)).length = N.length
  · have hNe : N = frames (ss ++ gs.take m) := by rw [← htk, hq, List.take_of_length_le (Nat.le_refl _)]
    refine ⟨dS, dS, m, hm, hdS, hon, ?_, hrec, ⟨hon, ⟨hr, by rw [ha, hNe], hb⟩, hall⟩⟩
    have hme : mend dS dS.root = (0, dS) := by
      unfold mend
      rw [hrec, hr, hat, if_pos hq]
    unfold opens
    rw [if_neg (by simp [hon]), hme]
    simp only [ne_eq, not_true_eq_false, if_false]
    rw [hr]
    exact hemp dS hb
  · have hcut : cut dS 0 ((frames (ss ++ gs.take m)).length : Int) = (0, { dS with a := ⟨frames (ss ++ gs.take m), (frames (ss ++ gs.take m)).length, []⟩ }) := by
      unfold cut
      rw [Dk.trunc_calm hcalm, if_neg (file_ok (.inl rfl)), if_neg (show ¬ (((frames (ss ++ gs.take m)).length : Int) < 0 ∨ ((dS.at 0).now.length : Int) < ((frames (ss ++ gs.take m)).length : Int)) by rw [hat]; omega)]
      simp only [ne_eq, not_true_eq_false, if_false]
      rw [Dk.sync_calm (Dk.calm_put hcalm _ _), if_neg (file_ok (.inl rfl))]
      have hx : ((dS.at 0).trunc ((frames (ss ++ gs.take m)).length : Int).toNat).settle = ⟨frames (ss ++ gs.take m), (frames (ss ++ gs.take m)).length, []⟩ := by
        show Dk.Cn.settle (dS.a.trunc ((frames (ss ++ gs.take m)).length : Int).toNat) = _
        rw [ha, Int.toNat_natCast]
        show (⟨N.take (frames (ss ++ gs.take m)).length, (N.take (frames (ss ++ gs.take m)).length).length, []⟩ : Dk.Cn) = _
        rw [htk]
      show (0, ({ dS with a := ((dS.at 0).trunc ((frames (ss ++ gs.take m)).length : Int).toNat).settle } : Dk.D)) = _
      rw [hx]
    refine ⟨dS, { dS with a := ⟨frames (ss ++ gs.take m), (frames (ss ++ gs.take m)).length, []⟩ }, m, hm, hdS, hon, ?_, hrec, ⟨hon, ⟨hr, rfl, hb⟩, hall⟩⟩
    have hme : mend dS dS.root = (0, { dS with a := ⟨frames (ss ++ gs.take m), (frames (ss ++ gs.take m)).length, []⟩ }) := by
      rw [← hcut]
      unfold mend
      rw [hrec, hr, hat, if_neg hq]
    unfold opens
    rw [if_neg (by simp [hon]), hme]
    simp only [ne_eq, not_true_eq_false, if_false]
    rw [hr]
    exact hemp _ hb
theorem arm_kp {d : Dk.D} {ss : List (List UInt8)} (h : Kp d ss) (n : Int) (q : Bool) : Kp (d.arm n q) ss := ⟨h.on, ⟨h.core.root, h.core.a, h.core.b⟩, h.all⟩
theorem new_kp (room : Int) : Kp (Dk.new room) [] := ⟨rfl, ⟨rfl, rfl, rfl⟩, fun r hr => by simp at hr⟩
end Jn
end Go.Proofs.Ytcjbceidgaieaaa
