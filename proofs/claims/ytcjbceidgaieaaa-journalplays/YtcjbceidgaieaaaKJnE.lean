/- Disks that a journal is kept on: the contracts of write, cut, mend, empty. -/
import Derived.Test.YtcjbceidgaieaaaKJnAD
import Derived.Test.YtcjbceidgaieaaaKDkMQ
set_option linter.unusedVariables false
set_option linter.unusedSimpArgs false
namespace Go.Proofs.Ytcjbceidgaieaaa
open Go.RowKit
/-- What a call leaves of a disk: its blocks are those that it had, and new ones. -/
structure Dp (w : World) (T T' : Nat → Prop) (b : Nat) (d : Dk.D) (w' : World) : Prop where
  dsk : DskE w' T' b d
  sub : ∀ k, T' k → T k ∨ w.heap.size ≤ k
  own : Own T w w'
theorem Dp.refl {w : World} {T : Nat → Prop} {b : Nat} {d : Dk.D} (h : DskE w T b d) : Dp w T T b d w := ⟨h, fun k hk => .inl hk, Own.refl _ _⟩
theorem Dp.more {w w' : World} {T : Nat → Prop} {b : Nat} {d : Dk.D} (h : DskE w' (More T w w') b d) (hO : Own T w w') : Dp w T (More T w w') b d w' := ⟨h, fun k hk => hk.elim .inl (fun h => .inr h.1), hO⟩
theorem Dp.trans {w w1 w2 : World} {T T1 T2 : Nat → Prop} {b : Nat} {d d1 : Dk.D} (h : Dp w T T1 b d1 w1) (h2 : Dp w1 T1 T2 b d w2) : Dp w T T2 b d w2 :=
  ⟨h2.dsk, fun k hk => (h2.sub k hk).elim (h.sub k) (fun hx => .inr (Nat.le_trans h.own.size hx)), h.own.trans h2.own h.sub⟩
theorem Dp.ahead {w w1 w2 : World} {T T2 : Nat → Prop} {b : Nat} {d : Dk.D} (hB : Below w.heap.size w w1) (h2 : Dp w1 T T2 b d w2) : Dp w T T2 b d w2 :=
  ⟨h2.dsk, fun k hk => (h2.sub k hk).elim .inl (fun hx => .inr (Nat.le_trans hB.size hx)), (Own.of hB).trans h2.own (fun k hk => .inl hk)⟩
theorem Dp.behind {w w1 w2 : World} {T T2 : Nat → Prop} {b : Nat} {d : Dk.D} (h : Dp w T T2 b d w1) (hB : Below w1.heap.size w1 w2) : Dp w T T2 b d w2 :=
  ⟨h.dsk.below hB, h.sub, h.own.trans (Own.of hB (T := fun _ => False)) (fun k hk => hk.elim)⟩
theorem Dp.out {w w' : World} {T T' : Nat → Prop} {b : Nat} {d : Dk.D} {v : Value} (h : Dp w T T' b d w') (ho : Out T w v) : Out T' w' v := fun k e => ⟨fun hx => by
  rcases h.sub k hx with hx | hx
  · exact (ho k e).1 hx
  · have := (ho k e).2
    omega, Nat.lt_of_lt_of_le (ho k e).2 h.own.size⟩
/-- Rows of bytes that are read, beside the disk's blocks. -/
def Rs (T : Nat → Prop) (W : World) (v : Value) (rs : List (List UInt8)) : Prop := ∃ xs, ∀ W', Own T W W' → RBx W' v xs rs
theorem RBx.keep {w w' : World} {v : Value} {xs : List Value} {ls : List (List UInt8)} (h : RBx w v xs ls) (hv : ∀ k, v.ownBlock = some k → k < w.heap.size → w'.heap[k]? = w.heap[k]?) (hx : ∀ x ∈ xs, ∀ k, x.ownBlock = some k → k < w.heap.size → w'.heap[k]? = w.heap[k]?) : RBx w' v xs ls := by
  refine ⟨h.len, ?_, fun j x l h1 h2 => (h.each j x l h1 h2).keep (hx x (List.mem_of_getElem? h1))⟩
  rcases h.row with h | ⟨b, o, c, rfl, hc, hr⟩
  · exact .inl h
  · refine .inr ⟨b, o, c, rfl, hc, fun j x hj => ?_⟩
    have h1 := hr j x hj
    rw [World.cell?_of_block (w := w) (hv b rfl (cell_lt h1))]
    exact h1
theorem Rs.own {w w' : World} {T T' : Nat → Prop} {v : Value} {rs : List (List UInt8)} (h : Rs T w v rs) (hs : ∀ k, T' k → T k ∨ w.heap.size ≤ k) (hO : Own T w w') : Rs T' w' v rs := by
  obtain ⟨xs, h⟩ := h
  exact ⟨xs, fun W hW => h W (hO.trans hW hs)⟩
theorem Own.mono9 {T T' : Nat → Prop} {w w' : World} (h : Own T w w') (hT : ∀ k, T k → T' k) : Own T' w w' := ⟨h.os, h.tape, h.output, h.size, fun k hk hn => h.block k hk (fun ht => hn (hT k ht))⟩
theorem Rs.mono {w : World} {T T' : Nat → Prop} {v : Value} {rs : List (List UInt8)} (h : Rs T w v rs) (hT : ∀ k, T' k → T k) : Rs T' w v rs := by
  obtain ⟨xs, h⟩ := h
  exact ⟨xs, fun W hW => h W (hW.mono9 hT)⟩
theorem Rs.dp9 {w0 w w' : World} {T T' : Nat → Prop} {b : Nat} {d : Dk.D} {v : Value} {rs : List (List UInt8)} (h : Rs (fun k => T k ∨ k < w0.heap.size) w v rs) (hD : Dp w T T' b d w') : Rs (fun k => T' k ∨ k < w0.heap.size) w' v rs :=
  h.own (fun k hk => hk.elim (fun hx => (hD.sub k hx).elim (fun h => .inl (.inl h)) .inr) (fun h => .inl (.inr h))) (hD.own.mono9 (fun k hk => .inl hk))
theorem Rs.dp {w w' : World} {T T' : Nat → Prop} {b : Nat} {d : Dk.D} {v : Value} {rs : List (List UInt8)} (h : Rs T w v rs) (hD : Dp w T T' b d w') : Rs T' w' v rs := h.own hD.sub hD.own
theorem Rs.below {w w' : World} {T : Nat → Prop} {v : Value} {rs : List (List UInt8)} (h : Rs T w v rs) (hB : Below w.heap.size w w') : Rs T w' v rs := h.own (fun k hk => .inl hk) (Own.of hB)
theorem Rs.x {w : World} {T : Nat → Prop} {v : Value} {rs : List (List UInt8)} (h : Rs T w v rs) : ∃ xs, RBx w v xs rs := by
  obtain ⟨xs, h⟩ := h
  exact ⟨xs, h w (Own.refl _ _)⟩
theorem Rs.rbs {w : World} {T : Nat → Prop} {v : Value} {rs : List (List UInt8)} (h : Rs T w v rs) : RBs w v rs := by
  obtain ⟨xs, h⟩ := h.x
  exact h.rbs
theorem OR.rs {w w' : World} {T : Nat → Prop} {v : Value} {rs : List (List UInt8)} (h : OR w' w.heap.size v rs) (hl : ∀ k, T k → k < w.heap.size) : Rs T w' v rs := by
  obtain ⟨xs, hx⟩ := h
  refine ⟨xs, fun W hW => ?_⟩
  have hk : ∀ k, w.heap.size ≤ k → k < w'.heap.size → W.heap[k]? = w'.heap[k]? := fun k h1 h2 => hW.block k h2 (fun ht => by have := hl k ht; omega)
  have h9 : OR' W w.heap.size v rs xs := ⟨hx.len, row_keep hx.row (fun k e hl => hk k (World.ownsRow.lt hx.row k e).1 hl), fun j x r h1 h2 => ⟨(hx.each j x r h1 h2).1.keep (fun k e hl => hk k ((hx.each j x r h1 h2).1.lt e).1 hl), (hx.each j x r h1 h2).2⟩⟩
  have h0 := h9.row
  refine ⟨h9.len, ?_, fun j x r h1 h2 => (h9.each j x r h1 h2).1.reads⟩
  rcases h0.2 with ⟨rfl, hz⟩ | ⟨g, cap, cur, rfl, _, hg, hc, _⟩
  · exact .inl ⟨_, _, rfl, List.eq_nil_of_length_eq_zero hz⟩
  · refine .inr ⟨g, 0, cap, rfl, hc, fun j x hj => ?_⟩
    have hlt : j < rs.length := by rw [← h9.len]; exact (List.getElem?_eq_some_iff.1 hj).1
    have := World.ownsRow.cellAt (w := W) (base := w.heap.size) (e := 27) (size := 1) (g := g) (cap := cap) (n := rs.length) (xs := xs) h0 j (by omega)
    rw [Nat.zero_add, this, hj]
theorem Rs.form {w : World} {T : Nat → Prop} {v : Value} {rs : List (List UInt8)} (h : Rs T w v rs) : ∃ a c, v = .slice a rs.length c := by
  obtain ⟨xs, h⟩ := h.x
  exact h.form
theorem DskE.fine {w : World} {T : Nat → Prop} {b : Nat} {d : Dk.D} (h : DskE w T b d) : d.Fine := by
  obtain ⟨_, _, _, _, h⟩ := h
  exact h.fine
theorem DskE.append {w : World} {T : Nat → Prop} {b : Nat} {d : Dk.D} (h : DskE w T b d) (f : Int) (y : Value) (l : List UInt8) (hy : RB w y l) (hl : l.length ≤ maxLen) {r : Int × Dk.D} (e : d.append f l = r) : Calls Try.prog 66 #[ptr b 0, .int .i64 f, y] w (fun e w' => ∃ T', e = .returned (.int .i64 r.1) ∧ Dp w T T' b r.2 w') := by
  obtain ⟨n0, g0, n1, g1, h⟩ := h
  have := Append_yes h f y l hy hl
  rw [e] at this
  exact this.mono (fun _ _ hp => ⟨_, hp.1, Dp.more hp.2.1 hp.2.2⟩)
theorem DskE.sync {w : World} {T : Nat → Prop} {b : Nat} {d : Dk.D} (h : DskE w T b d) (f : Int) {r : Int × Dk.D} (e : d.sync f = r) : Calls Try.prog 67 #[ptr b 0, .int .i64 f] w (fun e w' => ∃ T', e = .returned (.int .i64 r.1) ∧ Dp w T T' b r.2 w') := by
  obtain ⟨n0, g0, n1, g1, h⟩ := h
  have := Sync_yes h f
  rw [e] at this
  exact this.mono (fun _ _ hp => ⟨_, hp.1, Dp.more hp.2.1 hp.2.2⟩)
theorem DskE.trunc {w : World} {T : Nat → Prop} {b : Nat} {d : Dk.D} (h : DskE w T b d) (f n : Int) {r : Int × Dk.D} (e : d.trunc f n = r) : Calls Try.prog 68 #[ptr b 0, .int .i64 f, .int .i64 n] w (fun e w' => ∃ T', e = .returned (.int .i64 r.1) ∧ Dp w T T' b r.2 w') := by
  obtain ⟨n0, g0, n1, g1, h⟩ := h
  have := Truncate_yes h f n
  rw [e] at this
  exact this.mono (fun _ _ hp => ⟨_, hp.1, Dp.more hp.2.1 hp.2.2⟩)
theorem DskE.switch {w : World} {T : Nat → Prop} {b : Nat} {d : Dk.D} (h : DskE w T b d) (f : Int) {r : Int × Dk.D} (e : d.switch f = r) : Calls Try.prog 64 #[ptr b 0, .int .i64 f] w (fun e w' => ∃ T', e = .returned (.int .i64 r.1) ∧ Dp w T T' b r.2 w') := by
  obtain ⟨n0, g0, n1, g1, h⟩ := h
  have := Switch_yes h f
  rw [e] at this
  exact this.mono (fun _ _ hp => ⟨_, hp.1, Dp.more hp.2.1 hp.2.2⟩)
theorem DskE.read {w : World} {T : Nat → Prop} {b : Nat} {d : Dk.D} (h : DskE w T b d) (f : Int) (hf : f = 0 ∨ f = 1) (hon : d.on = true) {l : List UInt8} (hl : Hid ((d.at f).now = l)) : Calls Try.prog 26 #[ptr b 0, .int .i64 f] w fun e w' => ∃ a c, e = .returned (.tuple #[.slice a l.length c, .int .i64 0]) ∧ OwnsBytes w' w.heap.size (.slice a l.length c) l ∧ Below w.heap.size w w' := by
  obtain ⟨n0, g0, n1, g1, h⟩ := h
  have hw : d.why f = 0 := by
    unfold Dk.D.why
    rw [if_neg (by omega), if_neg (by simp [hon])]
  have := Read_yes h f hw
  rw [hl.out] at this
  refine this.mono ?_
  rintro e w' ⟨u, rfl, hu, hB⟩
  obtain ⟨a, c, rfl⟩ := hu.form
  exact ⟨a, c, rfl, hu, hB⟩
theorem DskE.root {w : World} {T : Nat → Prop} {b : Nat} {d : Dk.D} (h : DskE w T b d) : Calls Try.prog 25 #[ptr b 0] w fun e w' => e = .returned (.tuple #[.int .i64 (if d.on = true then d.root else 0), .int .i64 (if d.on = true then 0 else 12)]) ∧ w' = w := by
  obtain ⟨n0, g0, n1, g1, h⟩ := h
  exact Root_yes h
theorem DskE.left {w : World} {T : Nat → Prop} {b : Nat} {d : Dk.D} (h : DskE w T b d) : Calls Try.prog 43 #[ptr b 0] w fun e w' => e = .returned (.int .i64 d.left) ∧ Below w.heap.size w w' := by
  obtain ⟨n0, g0, n1, g1, h⟩ := h
  exact Left_yes h
set_option maxHeartbeats 2000000 in
set_option maxRecDepth 100000 in
theorem write_any {w : World} {T : Nat → Prop} {b : Nat} {d : Dk.D} (h : DskE w T b d) (f : Int) (y : Value) (l : List UInt8) (hy : RB w y l) (hl : l.length ≤ maxLen) {r : Int × Dk.D} (e : Hid (Jn.write d f l = r)) :
    Calls Try.prog 63 #[ptr b 0, .int .i64 f, y] w (fun e w' => ∃ T', e = .returned (.int .i64 r.1) ∧ Dp w T T' b r.2 w') := by
  obtain ⟨a, n, rfl⟩ := hy.form
  have H1 := h.append f _ l hy hl rfl
  have e' := e.out
  unfold Jn.write at e'
  clear e hy h
  generalize d.append f l = r1 at *
  obtain ⟨c, d1⟩ := r1
  obtain ⟨q, dq⟩ := r
  dsimp only at *
  by_cases hc : c = 0
  · subst hc
    rw [if_neg (by simp)] at e'
    have E := hide9 e'
    clear e'
    go_enter Try.func63, Try.ntmps63
    go_wp2_with (first
      | (go_at_call 66; refine H1.mono ?_; rintro e w1 ⟨T1, rfl, hD1⟩; have H2 := hD1.dsk.sync f E.out; clear H1)
      | (go_at_call 67; refine H2.mono ?_; rintro e w2 ⟨T2, rfl, hD2⟩))
    go_ret
    exact ⟨T2, rfl, hD1.trans hD2⟩
  · rw [if_pos hc] at e'
    cases e'
    have hb : (c == 0) = false := by simpa using hc
    go_enter Try.func63, Try.ntmps63
    go_wp2_with (go_at_call 66; refine H1.mono ?_; rintro e w1 ⟨T1, rfl, hD1⟩)
    go_ret
    exact ⟨T1, rfl, hD1⟩
set_option maxHeartbeats 2000000 in
set_option maxRecDepth 100000 in
theorem cut_any {w : World} {T : Nat → Prop} {b : Nat} {d : Dk.D} (h : DskE w T b d) (f n : Int) {r : Int × Dk.D} (e : Hid (Jn.cut d f n = r)) :
    Calls Try.prog 65 #[ptr b 0, .int .i64 f, .int .i64 n] w (fun e w' => ∃ T', e = .returned (.int .i64 r.1) ∧ Dp w T T' b r.2 w') := by
  have H1 := h.trunc f n rfl
  have e' := e.out
  unfold Jn.cut at e'
  clear e h
  generalize d.trunc f n = r1 at *
  obtain ⟨c, d1⟩ := r1
  obtain ⟨q, dq⟩ := r
  dsimp only at *
  by_cases hc : c = 0
  · subst hc
    rw [if_neg (by simp)] at e'
    have E := hide9 e'
    clear e'
    go_enter Try.func65, Try.ntmps65
    go_wp2_with (first
      | (go_at_call 68; refine H1.mono ?_; rintro e w1 ⟨T1, rfl, hD1⟩; have H2 := hD1.dsk.sync f E.out; clear H1)
      | (go_at_call 67; refine H2.mono ?_; rintro e w2 ⟨T2, rfl, hD2⟩))
    go_ret
    exact ⟨T2, rfl, hD1.trans hD2⟩
  · rw [if_pos hc] at e'
    cases e'
    have hb : (c == 0) = false := by simpa using hc
    go_enter Try.func65, Try.ntmps65
    go_wp2_with (go_at_call 68; refine H1.mono ?_; rintro e w1 ⟨T1, rfl, hD1⟩)
    go_ret
    exact ⟨T1, rfl, hD1⟩
end Go.Proofs.Ytcjbceidgaieaaa
