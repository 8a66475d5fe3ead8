/- Rows of records that a law keeps beside a journal. -/
import Derived.Test.YtnnlmnjbmbflpaaJnW
set_option linter.unusedVariables false
set_option linter.unusedSimpArgs false
namespace Go.Proofs.Ytnnlmnjbmbflpaa
open Go.RowKit
/-- A slice whose cells are these. -/
def Src (w : World) (y : Value) (ys : List Value) : Prop := (∃ a c, y = .slice a 0 c ∧ ys = []) ∨ ∃ b o c, y = .slice (some ⟨b, o, none⟩) ys.length c ∧ ∀ (j : Nat) x, ys[j]? = some x → w.cell? ⟨b, o + j, none⟩ = some x
def Ones (ys : List Value) : Prop := ∀ u ∈ ys, u.oneCell' = true
theorem run_append_rows (w : World) (ty : TypeId) (v : Value) (n : Nat) (xs : List Value) (hown : w.ownsRow 0 27 1 v n xs) (y : Value) (ys : List Value) (hy : Src w y ys) (h1 : Ones ys) (hlen : n + ys.length ≤ 1000000) :
    ∃ v' w', (Builtin.append_ #[54, 54] ty #[v, y]).run Try.prog w = .ok v' w' ∧ w'.ownsRow 0 27 1 v' (n + ys.length) (xs ++ ys) ∧ w.grownBy w' v.ownBlock ∧ (v'.ownBlock = v.ownBlock ∨ v'.ownBlock = some w.heap.size) := by
  obtain ⟨i0, hi, hz0, hz1, hz2⟩ := info_parts infoSl
  rcases hy with ⟨ad, c, rfl, rfl⟩ | ⟨b, f, c, rfl, hr⟩
  · cases ad with
    | none =>
      refine ⟨v, w, ?_, by simpa using hown, World.grownBy.refl _ _, .inl rfl⟩
      have ht := Try.underlying54
      rcases hown.2 with ⟨rfl, rfl⟩ | ⟨g, cap, cur, rfl, _, _, hnc, _⟩
      · simp [Builtin.append_, run_underlying ht, sizeOf, typeInfo, hi, Builtin.lenOf, Builtin.firstCells]
      · simp [Builtin.append_, run_underlying ht, sizeOf, typeInfo, hi, Builtin.lenOf, Builtin.firstCells, hnc, storeCells]
    | some ad =>
      obtain ⟨v', w', h1, h2, h3, _, h5⟩ := run_append_own_at (P := Try.prog) w 0 54 ty 27 i0 (.slice none 0 0) 1 24 Try.underlying54 hi hz0 hz1 hz2 rfl (by decide) v _ _ hown ad 0 c [] rfl (fun j u hj => by simp at hj) (fun x hx => by simp at hx) (by simp at hlen; unfold maxLen; omega) (by simp at hlen; omega) (Nat.zero_le _)
      exact ⟨v', w', h1, h2, h3, h5⟩
  · obtain ⟨v', w', h1, h2, h3, _, h5⟩ := run_append_own_at (P := Try.prog) w 0 54 ty 27 i0 (.slice none 0 0) 1 24 Try.underlying54 hi hz0 hz1 hz2 rfl (by decide) v _ _ hown ⟨b, f, none⟩ ys.length c ys (by omega) (fun j u hj => by rw [add_addr]; exact hr j u hj) h1 (by unfold maxLen; omega) (by omega) (Nat.zero_le _)
    exact ⟨v', w', h1, h2, h3, h5⟩
theorem wp_append_rows {w : World} {o : Oper} {a : Act} {K : Act → World → Prop} {Q : Exit → Act → World → Prop} (s x : Operand)
    (ho : o.op = .call { callee := .builtin .append, args := #[s, x], argTypes := #[54, 54] }) (v : Value) (n : Nat) (xs : List Value) (hs : a.eval s = v) (hown : w.ownsRow 0 27 1 v n xs) (y : Value) (ys : List Value) (hx : a.eval x = y) (hy : Src w y ys) (h1 : Ones ys) (hlen : n + ys.length ≤ 1000000)
    (h : ∀ v' w', w'.ownsRow 0 27 1 v' (n + ys.length) (xs ++ ys) → w.grownBy w' v.ownBlock → (v'.ownBlock = v.ownBlock ∨ v'.ownBlock = some w.heap.size) → K (a.put o.dst v') w') : o.wp Try.prog a w K Q := by
  obtain ⟨v', w', hr, h2, h3, h4⟩ := run_append_rows w o.type v n xs hown y ys hy h1 hlen
  unfold Oper.wp execOp
  simp only [ho, resolve, invoke, builtin, Sem.run_bind, Sem.run_pure, Result.andThen_ok, List.map_toArray, List.map_cons, List.map_nil, hs, hx, hr]
  exact h v' w' h2 h3 h4
theorem wpList_append_rows {w : World} {ops : Array Oper} {rest : List Oper} {o : Oper} {a : Act} {Q : Exit → Act → World → Prop} (hgd : o.guard = none) (s x : Operand)
    (ho : o.op = .call { callee := .builtin .append, args := #[s, x], argTypes := #[54, 54] }) (v : Value) (n : Nat) (xs : List Value) (hs : a.eval s = v) (hown : w.ownsRow 0 27 1 v n xs) (y : Value) (ys : List Value) (hx : a.eval x = y) (hy : Src w y ys) (h1 : Ones ys) (hlen : n + ys.length ≤ 1000000)
    (h : ∀ v' w', w'.ownsRow 0 27 1 v' (n + ys.length) (xs ++ ys) → w.grownBy w' v.ownBlock → (v'.ownBlock = v.ownBlock ∨ v'.ownBlock = some w.heap.size) → wpList Try.prog ops Q rest (a.put o.dst v') w') : wpList Try.prog ops Q (o :: rest) a w :=
  wpList_plain hgd fun _ hK => wp_append_rows s x ho v n xs hs hown y ys hx hy h1 hlen fun v' w' h2 h3 h4 => hK _ _ (h v' w' h2 h3 h4)
theorem step_append_rows {w : World} {ops : Array Oper} {o : Oper} {a : Act} {K : Act → World → Prop} {Q : Exit → Act → World → Prop} {E : Prop} (hgd : o.guard = none) (s x : Operand)
    (ho : o.op = .call { callee := .builtin .append, args := #[s, x], argTypes := #[54, 54] }) (v : Value) (n : Nat) (xs : List Value) (hs : a.eval s = v) (hown : w.ownsRow 0 27 1 v n xs) (y : Value) (ys : List Value) (hx : a.eval x = y) (hy : Src w y ys) (h1 : Ones ys) (hlen : n + ys.length ≤ 1000000)
    (h : ∀ v' w', w'.ownsRow 0 27 1 v' (n + ys.length) (xs ++ ys) → w.grownBy w' v.ownBlock → (v'.ownBlock = v.ownBlock ∨ v'.ownBlock = some w.heap.size) → K (a.put o.dst v') w') : if Region.wanted o (yielded ops a.tmps) = true then Oper.wp Try.prog o a w K Q else E := by
  rw [if_pos (by simp [Region.wanted, hgd])]
  exact wp_append_rows s x ho v n xs hs hown y ys hx hy h1 hlen h
/-- A row of slices that a law keeps; what they read stays, as long as nothing but U is turned. -/
structure Ov (U : Nat → Prop) (T : Nat → Prop) (w : World) (v : Value) (rs : List (List UInt8)) (xs : List Value) : Prop where
  len : xs.length = rs.length
  row : w.ownsRow 0 27 1 v rs.length xs
  o : Out T w v
  each : ∀ (j : Nat) x r, xs[j]? = some x → rs[j]? = some r → ∀ w', Own U w w' → RB w' x r
theorem Ov.src {U T : Nat → Prop} {w : World} {v : Value} {rs : List (List UInt8)} {xs : List Value} (h : Ov U T w v rs xs) : Src w v xs := by
  have h0 := h.row
  rcases h.row.2 with ⟨rfl, hz⟩ | ⟨g, cap, cur, rfl, _, hg, hc, _⟩
  · exact .inl ⟨_, _, rfl, List.eq_nil_of_length_eq_zero (by rw [h.len]; exact hz)⟩
  · refine .inr ⟨g, 0, cap, by rw [h.len], fun j x hj => ?_⟩
    have hlt : j < rs.length := by rw [← h.len]; exact (List.getElem?_eq_some_iff.1 hj).1
    have := World.ownsRow.cellAt (w := w) (base := 0) (e := 27) (size := 1) (g := g) (cap := cap) (n := rs.length) (xs := xs) h0 j (by omega)
    rw [Nat.zero_add, this, hj]
theorem Ov.ones {U T : Nat → Prop} {w : World} {v : Value} {rs : List (List UInt8)} {xs : List Value} (h : Ov U T w v rs xs) : Ones xs := fun u hu => by
  obtain ⟨j, hj, e⟩ := List.getElem_of_mem hu
  have hr : j < rs.length := by rw [← h.len]; exact hj
  obtain ⟨a, c, e2⟩ := (h.each j u rs[j] (by rw [← e]; exact List.getElem?_eq_getElem hj) (List.getElem?_eq_getElem hr) w (Own.refl _ _)).form
  rw [e2]
  rfl
theorem Ov.form {U T : Nat → Prop} {w : World} {v : Value} {rs : List (List UInt8)} {xs : List Value} (h : Ov U T w v rs xs) : ∃ a c, v = .slice a rs.length c ∧ rs.length ≤ c := by
  rcases h.row.2 with ⟨rfl, hz⟩ | ⟨g, cap, cur, rfl, _, _, hc, _⟩
  · exact ⟨none, 0, by rw [hz], by omega⟩
  · exact ⟨_, _, rfl, hc⟩
theorem Ov.rbs {U T : Nat → Prop} {w : World} {v : Value} {rs : List (List UInt8)} {xs : List Value} (h : Ov U T w v rs xs) : RBs w v rs := by
  have h0 := h.row
  rcases h.row.2 with ⟨rfl, hz⟩ | ⟨g, cap, cur, rfl, _, hg, hc, _⟩
  · exact .inl ⟨_, _, rfl, List.eq_nil_of_length_eq_zero hz⟩
  · refine .inr ⟨g, 0, cap, rfl, hc, fun j r hj => ?_⟩
    have hlt : j < rs.length := (List.getElem?_eq_some_iff.1 hj).1
    have hxl : j < xs.length := by rw [h.len]; exact hlt
    have := World.ownsRow.cellAt (w := w) (base := 0) (e := 27) (size := 1) (g := g) (cap := cap) (n := rs.length) (xs := xs) h0 j (by omega)
    exact ⟨xs[j], by rw [Nat.zero_add, this, List.getElem?_eq_getElem hxl], h.each j _ r (List.getElem?_eq_getElem hxl) hj w (Own.refl _ _)⟩
/-- Blocks that a law's round may turn. -/
def Ub (T : Nat → Prop) (sv gv : Value) : Nat → Prop := fun k => T k ∨ sv.ownBlock = some k ∨ gv.ownBlock = some k
/-- What the law JournalKept carries beside the journal: what is sure, and the group. -/
structure KV (w0 : World) (T : Nat → Prop) (w : World) (sv gv : Value) (ss gs : List (List UInt8)) (xs ys : List Value) : Prop where
  s : Ov (Ub T sv gv) T w sv ss xs
  g : Ov (Ub T sv gv) T w gv gs ys
  ap : Ap sv gv
  bs : ∀ k, sv.ownBlock = some k → w0.heap.size ≤ k
  bg : ∀ k, gv.ownBlock = some k → w0.heap.size ≤ k
def KVE (w0 : World) (T : Nat → Prop) (w : World) (sv gv : Value) (ss gs : List (List UInt8)) : Prop := ∃ xs ys, KV w0 T w sv gv ss gs xs ys
theorem KVE.tw {w0 w w' : World} {T T' : Nat → Prop} {sv gv : Value} {ss gs : List (List UInt8)} (h : KVE w0 T w sv gv ss gs) (hT : Tw w T T' w') : KVE w0 T' w' sv gv ss gs := by
  obtain ⟨xs, ys, h⟩ := h
  have hU : ∀ k, Ub T' sv gv k → Ub T sv gv k ∨ w.heap.size ≤ k := fun k hk => by
    rcases hk with hk | hk | hk
    · exact (hT.sub k hk).elim (fun h => .inl (.inl h)) .inr
    · exact .inl (.inr (.inl hk))
    · exact .inl (.inr (.inr hk))
  have hO : Own (Ub T sv gv) w w' := hT.own.mono9 (fun k hk => .inl hk)
  exact ⟨xs, ys, ⟨h.s.len, row_keep h.s.row (fun k e hl => hT.own.block k hl (h.s.o k e).1), hT.out h.s.o, fun j x r h1 h2 W hW => h.s.each j x r h1 h2 W (hO.trans hW hU)⟩, ⟨h.g.len, row_keep h.g.row (fun k e hl => hT.own.block k hl (h.g.o k e).1), hT.out h.g.o, fun j x r h1 h2 W hW => h.g.each j x r h1 h2 W (hO.trans hW hU)⟩, h.ap, h.bs, h.bg⟩
theorem KVE.below {w0 w w' : World} {T : Nat → Prop} {sv gv : Value} {ss gs : List (List UInt8)} (h : KVE w0 T w sv gv ss gs) (hB : Below w.heap.size w w') : KVE w0 T w' sv gv ss gs := h.tw (Tw.of T hB)
theorem Ov.nil (U T : Nat → Prop) (w : World) : Ov U T w (.slice none 0 0) [] [] := ⟨rfl, World.ownsRow_nil _ _ _ _, fun k e => (by cases e), fun j x r h => (by simp at h)⟩
theorem KVE.nil (w0 : World) (T : Nat → Prop) (w : World) : KVE w0 T w (.slice none 0 0) (.slice none 0 0) [] [] := ⟨[], [], Ov.nil _ _ _, Ov.nil _ _ _, fun k e => (by cases e), fun k e => (by cases e), fun k e => (by cases e)⟩
theorem KVE.drop {w0 w : World} {T : Nat → Prop} {sv gv : Value} {ss gs : List (List UInt8)} (h : KVE w0 T w sv gv ss gs) : KVE w0 T w sv (.slice none 0 0) ss [] := by
  obtain ⟨xs, ys, h⟩ := h
  refine ⟨xs, [], ⟨h.s.len, h.s.row, h.s.o, fun j x r h1 h2 W hW => h.s.each j x r h1 h2 W (hW.mono9 (fun k hk => ?_))⟩, Ov.nil _ _ _, fun k _ e => (by cases e), h.bs, fun k e => (by cases e)⟩
  rcases hk with hk | hk | hk
  · exact .inl hk
  · exact .inr (.inl hk)
  · cases hk
/-- What was just opened. -/
theorem KVE.opened {w0 W w : World} {T : Nat → Prop} {u : Value} {rs : List (List UInt8)} (h : OQ (fun k => T k ∨ k < W.heap.size) w u rs) (hW : w0.heap.size ≤ W.heap.size) : KVE w0 T w u (.slice none 0 0) rs [] := by
  obtain ⟨xs, h⟩ := h
  refine ⟨xs, [], ⟨h.len, h.row, fun k e => ⟨fun hx => (h.o k e).1 (.inl hx), (h.o k e).2⟩, fun j x r h1 h2 W' hO => ?_⟩, Ov.nil _ _ _, fun k _ e => (by cases e), fun k e => ?_, fun k e => (by cases e)⟩
  · obtain ⟨g1, g2, g3⟩ := h.each j x r h1 h2
    refine (g1.keep (fun k e hl => hO.block k hl (fun hx => ?_))).reads
    rcases hx with hx | hx | hx
    · exact (g3 k e).1 (.inl hx)
    · exact g2 k e hx
    · cases hx
  · rcases Nat.lt_or_ge k W.heap.size with hlt | hge
    · exact absurd (.inr hlt) (h.o k e).1
    · omega
/-- A journal stays, where a law turns a row of its own. -/
theorem JR.keep {w0 W W' : World} {T : Nat → Prop} {b jb : Nat} {d : Dk.D} {gs : List (List UInt8)} (h : JR w0 T b jb d gs W) {v : Value} (hv : ∀ k, v.ownBlock = some k → ¬ T k) (hb : ∀ k, v.ownBlock = some k → w0.heap.size ≤ k) (hO : Own (fun k => v.ownBlock = some k) W W') : JR w0 T b jb d gs W' := by
  obtain ⟨D, g, hk, h1, h2⟩ := h.ex
  have hs : ∀ k, k < W.heap.size → T k → W'.heap[k]? = W.heap[k]? := fun k hl ht => hO.block k hl (fun e => hv k e ht)
  obtain ⟨n0, g0, n1, g1, hD⟩ := hk.dsk
  exact ⟨⟨D, g, ⟨⟨n0, g0, n1, g1, hD.keep hO.size (fun k hl hd => hs k hl (h1 k hd))⟩, hk.j.keep (fun k hl hx => hs k hl (hx.elim (fun e => e ▸ h.tj) (h2 k))), hk.nj, hk.ng⟩, h1, h2⟩, h.tj, fun k ht => Nat.lt_of_lt_of_le (h.low k ht) hO.size, h.base, h.bel.trans (hO.below hb h.bel.size), h.small, h.all⟩
theorem own_grown {w w' : World} {v : Value} (h : w.grownBy w' v.ownBlock) : Own (fun k => v.ownBlock = some k) w w' := ⟨h.os, h.tape, h.output, h.size, fun k hk hn => h.block k hk (fun e => hn e.symm)⟩
/-- Records that came in are appended to the group. -/
theorem KV.add {w0 w w' : World} {T : Nat → Prop} {sv gv gv' : Value} {ss gs rs : List (List UInt8)} {xs ys zs : List Value} (h : KV w0 T w sv gv ss gs xs ys) (hT : ∀ k, T k → k < w.heap.size) (hTb : ∀ k, T k → w0.heap.size ≤ k) (hB : Below w0.heap.size w0 w) {rv : Value} (hr : RBx w0 rv zs rs) (h1 : w'.ownsRow 0 27 1 gv' (gs.length + zs.length) (ys ++ zs)) (h2 : w.grownBy w' gv.ownBlock) (h3 : gv'.ownBlock = gv.ownBlock ∨ gv'.ownBlock = some w.heap.size) : KVE w0 T w' sv gv' ss (gs ++ rs) := by
  have hO := own_grown h2
  have hg' : ∀ k, gv'.ownBlock = some k → gv.ownBlock = some k ∨ k = w.heap.size := fun k e => by
    rcases h3 with h3 | h3
    · exact .inl (h3 ▸ e)
    · rw [h3] at e
      cases e
      exact .inr rfl
  have hU : ∀ k, Ub T sv gv' k → Ub T sv gv k ∨ w.heap.size ≤ k := fun k hk => by
    rcases hk with hk | hk | hk
    · exact .inl (.inl hk)
    · exact .inl (.inr (.inl hk))
    · exact (hg' k hk).elim (fun e => .inl (.inr (.inr e))) (fun e => .inr (by omega))
  have hOU : Own (Ub T sv gv) w w' := hO.mono9 (fun k hk => .inr (.inr hk))
  have hbw : w0.heap.size ≤ w.heap.size := hB.size
  have hbU : ∀ k, Ub T sv gv' k → w0.heap.size ≤ k := fun k hk => by
    rcases hU k hk with hk | hk
    · rcases hk with hk | hk | hk
      · exact hTb k hk
      · exact h.bs k hk
      · exact h.bg k hk
    · omega
  have hB' : Below w0.heap.size w0 w' := hB.trans (hO.below h.bg hbw)
  refine ⟨xs, ys ++ zs, ⟨h.s.len, row_keep h.s.row (fun k e hl => hO.block k hl (fun e2 => h.ap k e e2)), fun k e => ⟨(h.s.o k e).1, Nat.lt_of_lt_of_le (h.s.o k e).2 hO.size⟩, fun j x r e1 e2 W hW => h.s.each j x r e1 e2 W (hOU.trans hW hU)⟩, ⟨by rw [List.length_append, List.length_append, h.g.len, hr.len], by rw [List.length_append, ← hr.len]; exact h1, fun k e => ⟨fun ht => ?_, (World.ownsRow.lt h1 k e).2⟩, fun j x r e1 e2 W hW => ?_⟩, fun k e1 e2 => ?_, h.bs, fun k e => ?_⟩
  · rcases hg' k e with e | e
    · exact (h.g.o k e).1 ht
    · have := hT k ht
      omega
  · by_cases hlt : j < gs.length
    · rw [List.getElem?_append_left (by rw [h.g.len]; exact hlt)] at e1
      rw [List.getElem?_append_left hlt] at e2
      exact h.g.each j x r e1 e2 W (hOU.trans hW hU)
    · rw [List.getElem?_append_right (by rw [h.g.len]; omega), h.g.len] at e1
      rw [List.getElem?_append_right (by omega)] at e2
      exact (hr.each _ x r e1 e2).below (hB'.trans (hW.below hbU hB'.size))
  · rcases hg' k e2 with e | e
    · exact h.ap k e1 e
    · have := (h.s.o k e1).2
      omega
  · rcases hg' k e with e | e
    · exact h.bg k e
    · omega
/-- The group is appended to what is sure. -/
theorem KV.sure {w0 w w' : World} {T : Nat → Prop} {sv gv sv' : Value} {ss gs : List (List UInt8)} {xs ys : List Value} (h : KV w0 T w sv gv ss gs xs ys) (hT : ∀ k, T k → k < w.heap.size) (hbw : w0.heap.size ≤ w.heap.size) (h1 : w'.ownsRow 0 27 1 sv' (ss.length + ys.length) (xs ++ ys)) (h2 : w.grownBy w' sv.ownBlock) (h3 : sv'.ownBlock = sv.ownBlock ∨ sv'.ownBlock = some w.heap.size) : KVE w0 T w' sv' (.slice none 0 0) (ss ++ gs) [] := by
  have hO := own_grown h2
  have hg' : ∀ k, sv'.ownBlock = some k → sv.ownBlock = some k ∨ k = w.heap.size := fun k e => by
    rcases h3 with h3 | h3
    · exact .inl (h3 ▸ e)
    · rw [h3] at e
      cases e
      exact .inr rfl
  have hU : ∀ k, Ub T sv' (.slice none 0 0) k → Ub T sv gv k ∨ w.heap.size ≤ k := fun k hk => by
    rcases hk with hk | hk | hk
    · exact .inl (.inl hk)
    · exact (hg' k hk).elim (fun e => .inl (.inr (.inl e))) (fun e => .inr (by omega))
    · cases hk
  have hOU : Own (Ub T sv gv) w w' := hO.mono9 (fun k hk => .inr (.inl hk))
  refine ⟨xs ++ ys, [], ⟨by rw [List.length_append, List.length_append, h.s.len, h.g.len], by rw [List.length_append, ← h.g.len]; exact h1, fun k e => ⟨fun ht => ?_, (World.ownsRow.lt h1 k e).2⟩, fun j x r e1 e2 W hW => ?_⟩, Ov.nil _ _ _, fun k _ e2 => (by cases e2), fun k e => ?_, fun k e => (by cases e)⟩
  · rcases hg' k e with e | e
    · exact (h.s.o k e).1 ht
    · have := hT k ht
      omega
  · by_cases hlt : j < ss.length
    · rw [List.getElem?_append_left (by rw [h.s.len]; exact hlt)] at e1
      rw [List.getElem?_append_left hlt] at e2
      exact h.s.each j x r e1 e2 W (hOU.trans hW hU)
    · rw [List.getElem?_append_right (by rw [h.s.len]; omega), h.s.len] at e1
      rw [List.getElem?_append_right (by omega)] at e2
      exact h.g.each _ x r e1 e2 W (hOU.trans hW hU)
  · rcases hg' k e with e | e
    · exact h.bs k e
    · omega
end Go.Proofs.Ytnnlmnjbmbflpaa
