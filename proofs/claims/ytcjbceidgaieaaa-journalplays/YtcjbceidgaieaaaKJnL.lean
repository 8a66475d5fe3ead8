/- Journals within a law. -/
import Derived.Test.YtcjbceidgaieaaaKJnK
set_option linter.unusedVariables false
set_option linter.unusedSimpArgs false
namespace Go.Proofs.Ytcjbceidgaieaaa
open Go.RowKit
namespace Jn
/-- A group is committed. -/
def commits (d : Dk.D) (gs : List (List UInt8)) : Int × Dk.D := if gs = [] then (0, d) else if d.on = false then (12, d) else write d d.root (frames gs)
/-- A snapshot. -/
def snaps (d : Dk.D) (gs rs : List (List UInt8)) : Int × Dk.D := if gs ≠ [] then (13, d) else if fits d 0 rs ≠ 0 then (fits d 0 rs, d) else snap d (frames rs)
end Jn
theorem Tw.refl (w : World) (T : Nat → Prop) : Tw w T T w := ⟨fun k hk => .inl hk, Own.refl _ _⟩
theorem Tw.trans {w w1 w2 : World} {T T1 T2 : Nat → Prop} (h : Tw w T T1 w1) (h2 : Tw w1 T1 T2 w2) : Tw w T T2 w2 :=
  ⟨fun k hk => (h2.sub k hk).elim (h.sub k) (fun hx => .inr (Nat.le_trans h.own.size hx)), h.own.trans h2.own h.sub⟩
theorem Tw.behind {w w1 w2 : World} {T T1 : Nat → Prop} (h : Tw w T T1 w1) (hB : Below w1.heap.size w1 w2) : Tw w T T1 w2 :=
  ⟨h.sub, h.own.trans (Own.of hB (T := fun _ => False)) (fun k hk => hk.elim)⟩
theorem Tw.of {w w1 : World} (T : Nat → Prop) (hB : Below w.heap.size w w1) : Tw w T T w1 := (Tw.refl w T).behind hB
theorem Tw.out {w w' : World} {T T' : Nat → Prop} {v : Value} (h : Tw w T T' w') (ho : Out T w v) : Out T' w' v := fun k e => ⟨fun hx => by
  rcases h.sub k hx with hx | hx
  · exact (ho k e).1 hx
  · have := (ho k e).2
    omega, Nat.lt_of_lt_of_le (ho k e).2 h.own.size⟩
theorem Rs.tw {w w' : World} {T T' : Nat → Prop} {v : Value} {rs : List (List UInt8)} (h : Rs T w v rs) (hT : Tw w T T' w') : Rs T' w' v rs := h.own hT.sub hT.own
/-- A journal of the law's own, with the group gs. -/
structure JR (w0 : World) (T : Nat → Prop) (b jb : Nat) (d : Dk.D) (gs : List (List UInt8)) (W : World) : Prop where
  ex : ∃ D g, Jk W D jb b d g (Jn.frames gs) gs.length ∧ (∀ k, D k → T k) ∧ In T g
  tj : T jb
  low : ∀ k, T k → k < W.heap.size
  base : ∀ k, T k → w0.heap.size ≤ k
  bel : Below w0.heap.size w0 W
  small : (Jn.frames gs).length ≤ 1048576
  all : Jn.All gs
theorem JR.below {w0 W W' : World} {T : Nat → Prop} {b jb : Nat} {d : Dk.D} {gs : List (List UInt8)} (h : JR w0 T b jb d gs W) (hB : Below W.heap.size W W') : JR w0 T b jb d gs W' := by
  obtain ⟨D, g, hk, h1, h2⟩ := h.ex
  exact ⟨⟨D, g, hk.below hB, h1, h2⟩, h.tj, fun k hk => Nat.lt_of_lt_of_le (h.low k hk) hB.size, h.base, h.bel.trans (hB.mono h.bel.size), h.small, h.all⟩
theorem JR.lt {w0 W : World} {T : Nat → Prop} {b jb : Nat} {d : Dk.D} {gs : List (List UInt8)} (h : JR w0 T b jb d gs W) : Lt w0 T b d W := by
  obtain ⟨D, g, hk, h1, h2⟩ := h.ex
  exact ⟨hk.dsk.mono h1 h.low, h.base, h.bel⟩
theorem JR.fine {w0 W : World} {T : Nat → Prop} {b jb : Nat} {d : Dk.D} {gs : List (List UInt8)} (h : JR w0 T b jb d gs W) : d.Fine := h.lt.fine
/-- What the disk does leaves the journal. -/
theorem jr_dp {w0 W W' : World} {T D D' : Nat → Prop} {b jb : Nat} {d d' : Dk.D} {g : Value} {gs : List (List UInt8)} (h : JR w0 T b jb d gs W) (hk : Jk W D jb b d g (Jn.frames gs) gs.length) (h1 : ∀ k, D k → T k) (h2 : In T g) (hD : Dp W D D' b d' W') : ∃ T', JR w0 T' b jb d' gs W' ∧ Tw W T T' W' ∧ (∀ k, D' k → T' k) ∧ In T' g := by
  have hO : Own T W W' := ⟨hD.own.os, hD.own.tape, hD.own.output, hD.own.size, fun k hl hn => hD.own.block k hl (fun hx => hn (h1 k hx))⟩
  refine ⟨fun k => D' k ∨ k = jb ∨ g.ownBlock = some k, ⟨⟨D', g, ⟨hD.dsk, hk.j.dp hD hk.nj hk.ng, hD.not hk.nj hk.j.lt, fun k e => hD.not (hk.ng k e) (hk.j.own.lt e).2⟩, fun k hx => .inl hx, fun k e => .inr (.inr e)⟩, .inr (.inl rfl), fun k hx => ?_, fun k hx => ?_, h.bel.trans (hO.below h.base h.bel.size), h.small, h.all⟩, ⟨fun k hx => ?_, hO⟩, fun k hx => .inl hx, fun k e => .inr (.inr e)⟩
  · rcases hx with hx | rfl | hx
    · exact hD.dsk.low k hx
    · exact Nat.lt_of_lt_of_le hk.j.lt hD.own.size
    · exact Nat.lt_of_lt_of_le (hk.j.own.lt hx).2 hD.own.size
  · rcases hx with hx | rfl | hx
    · rcases hD.sub k hx with hx | hx
      · exact h.base k (h1 k hx)
      · exact Nat.le_trans h.bel.size hx
    · exact h.base _ h.tj
    · exact h.base _ (h2 k hx)
  · rcases hx with hx | rfl | hx
    · exact (hD.sub k hx).elim (fun hx => .inl (h1 k hx)) .inr
    · exact .inl h.tj
    · exact .inl (h2 k hx)
/-- What is done on the journal's own blocks alone. -/
theorem jr_own {w0 W W' : World} {T D : Nat → Prop} {b jb : Nat} {d : Dk.D} {g g' : Value} {gs gs' : List (List UInt8)} (h : JR w0 T b jb d gs W) (hk : Jk W D jb b d g (Jn.frames gs) gs.length) (h1 : ∀ k, D k → T k) (h2 : In T g) (hJ : JAt W' jb b g' (Jn.frames gs') gs'.length) (hO : Own (fun k => k = jb ∨ g.ownBlock = some k) W W') (hb : ∀ k, g'.ownBlock = some k → g.ownBlock = some k ∨ W.heap.size ≤ k) (hs : (Jn.frames gs').length ≤ 1048576) (ha : Jn.All gs') : ∃ T', JR w0 T' b jb d gs' W' ∧ Tw W T T' W' := by
  have hT : ∀ k, (k = jb ∨ g.ownBlock = some k) → T k := fun k hx => hx.elim (fun e => e ▸ h.tj) (h2 k)
  have hO2 : Own T W W' := ⟨hO.os, hO.tape, hO.output, hO.size, fun k hl hn => hO.block k hl (fun hx => hn (hT k hx))⟩
  have hnD : ∀ k, D k → ¬ (k = jb ∨ g.ownBlock = some k) := fun k hd hx => hx.elim (fun e => hk.nj (e ▸ hd)) (fun e => hk.ng k e hd)
  obtain ⟨n0, g0, n1, g1, hDsk⟩ := hk.dsk
  have hD2 : DskE W' D b d := ⟨n0, g0, n1, g1, hDsk.keep hO.size (fun k hl hd => hO.block k hl (hnD k hd))⟩
  refine ⟨fun k => D k ∨ k = jb ∨ g'.ownBlock = some k, ⟨⟨D, g', ⟨hD2, hJ, hk.nj, fun k e hd => ?_⟩, fun k hx => .inl hx, fun k e => .inr (.inr e)⟩, .inr (.inl rfl), fun k hx => ?_, fun k hx => ?_, h.bel.trans (hO2.below h.base h.bel.size), hs, ha⟩, ⟨fun k hx => ?_, hO2⟩⟩
  · rcases hb k e with e2 | e2
    · exact hk.ng k e2 hd
    · have := hDsk.low k hd
      omega
  · rcases hx with hx | rfl | hx
    · exact hD2.low k hx
    · exact hJ.lt
    · exact (hJ.own.lt hx).2
  · rcases hx with hx | rfl | hx
    · exact h.base k (h1 k hx)
    · exact h.base _ h.tj
    · rcases hb k hx with e2 | e2
      · exact h.base _ (h2 k e2)
      · exact Nat.le_trans h.bel.size e2
  · rcases hx with hx | rfl | hx
    · exact .inl (h1 k hx)
    · exact .inl h.tj
    · exact (hb k hx).elim (fun e => .inl (h2 k e)) .inr
theorem JR.group {w0 W : World} {T : Nat → Prop} {b jb : Nat} {d : Dk.D} {gs : List (List UInt8)} (h : JR w0 T b jb d gs W) {n : Nat} (hn : Hid ((Jn.frames gs).length = n)) : Calls Try.prog 19 #[ptr jb 0] W fun e w' => e = .returned (.int .i64 (n : Int)) ∧ w' = W := by
  obtain ⟨D, g, hk, h1, h2⟩ := h.ex
  rw [← hn.out]
  exact Group_yes hk.j
theorem JR.left {w0 W : World} {T : Nat → Prop} {b jb : Nat} {d : Dk.D} {gs : List (List UInt8)} (h : JR w0 T b jb d gs W) : Calls Try.prog 27 #[ptr jb 0] W fun e w' => e = .returned (.int .i64 d.left) ∧ Below W.heap.size W w' := by
  obtain ⟨D, g, hk, h1, h2⟩ := h.ex
  exact LeftJ_yes hk
theorem JR.size {w0 W : World} {T : Nat → Prop} {b jb : Nat} {d : Dk.D} {gs : List (List UInt8)} (h : JR w0 T b jb d gs W) (hon : d.on = true) {m : Nat} (hm : Hid ((d.at d.root).now.length = m)) : Calls Try.prog 29 #[ptr jb 0] W fun e w' => e = .returned (.int .i64 (m : Int)) ∧ Below W.heap.size W w' := by
  obtain ⟨D, g, hk, h1, h2⟩ := h.ex
  rw [← hm.out]
  exact Size_yes hk hon (m := (d.at d.root).now) (by exact (rfl : _ = _))
theorem JR.drop {w0 W : World} {T : Nat → Prop} {b jb : Nat} {d : Dk.D} {gs : List (List UInt8)} (h : JR w0 T b jb d gs W) : Calls Try.prog 36 #[ptr jb 0] W fun e w' => ∃ T', e = .returned (.int .i64 (gs.length : Int)) ∧ JR w0 T' b jb d [] w' ∧ Tw W T T' w' := by
  obtain ⟨D, g, hk, h1, h2⟩ := h.ex
  refine (Drop_yes hk.j).mono ?_
  rintro e w' ⟨rfl, hJ, hO⟩
  obtain ⟨T', hJR, hT⟩ := jr_own (gs' := []) h hk h1 h2 hJ ⟨hO.os, hO.tape, hO.output, hO.size, fun k hl hn => hO.block k hl (fun e => hn (.inl e))⟩ (fun k e => by cases e) (by simp [Jn.frames]) (fun r hr => by simp at hr)
  exact ⟨T', rfl, hJR, hT⟩
/-- Records that are handed to a journal. -/
structure Rx (T : Nat → Prop) (W : World) (v : Value) (rs : List (List UInt8)) : Prop where
  rd : Rs T W v rs
  len : rs.length ≤ 1000
  each : ∀ r ∈ rs, r.length ≤ maxLen
theorem JR.came {w0 W : World} {T : Nat → Prop} {b jb : Nat} {d : Dk.D} {gs : List (List UInt8)} (h : JR w0 T b jb d gs W) {v : Value} {rs : List (List UInt8)} (hr : RBs w0 v rs) : Rs T W v rs := by
  obtain ⟨xs, hx⟩ := hr.x
  exact ⟨xs, fun W' hW => hx.below (h.bel.trans (hW.below h.base h.bel.size))⟩
theorem JR.add {w0 W : World} {T : Nat → Prop} {b jb : Nat} {d : Dk.D} {gs : List (List UInt8)} (h : JR w0 T b jb d gs W) {rv : Value} {rs : List (List UInt8)} (hr : Rx T W rv rs) {q : Int} (hq : Hid (Jn.fits d (Jn.frames gs).length rs = q)) : Calls Try.prog 34 #[ptr jb 0, rv] W fun e w' => ∃ T', e = .returned (.int .i64 q) ∧ JR w0 T' b jb d (if q = 0 then gs ++ rs else gs) w' ∧ Tw W T T' w' := by
  obtain ⟨D, g, hk, h1, h2⟩ := h.ex
  obtain ⟨xs, hx⟩ := hr.rd
  have hs := h.small
  by_cases h0 : q = 0
  · subst h0
    have hgl := Jn.frames_length gs
    refine (Add_yes hk (by omega) (by omega) (rv := rv) (xs := xs) (rs := rs) (fun w' hO => hx w' ?_) (by have := hr.len; omega) hr.each hq).mono ?_
    · exact ⟨hO.os, hO.tape, hO.output, hO.size, fun k hl hn => hO.block k hl (fun hc => hn (hc.elim (fun e => e ▸ h.tj) (h2 k)))⟩
    · rintro e w' ⟨g', rfl, hJ, hO, hb⟩
      have hf := Jn.fits_zero hq.out
      have hlf : d.left ≤ 1048576 := by
        have := h.fine
        unfold Dk.D.left
        have h3 := this.room
        omega
      rw [← Jn.frames_app, ← List.length_append] at hJ
      obtain ⟨T', hJR, hT⟩ := jr_own (gs' := gs ++ rs) h hk h1 h2 hJ hO hb (by rw [Jn.frames_app, List.length_append]; omega) (fun r hm => by
        rcases List.mem_append.1 hm with hm | hm
        · exact h.all r hm
        · exact hf.1 r hm)
      exact ⟨T', rfl, by rw [if_pos rfl]; exact hJR, hT⟩
  · refine (Add_no hk (by omega) (hx W (Own.refl _ _)) hr.each (by have := hr.len; omega) hq h0).mono ?_
    rintro e w' ⟨rfl, hB⟩
    exact ⟨T, rfl, by rw [if_neg h0]; exact h.below hB, Tw.of T hB⟩
theorem JR.commit {w0 W : World} {T : Nat → Prop} {b jb : Nat} {d : Dk.D} {gs : List (List UInt8)} (h : JR w0 T b jb d gs W) {r : Int × Dk.D} (e : Hid (Jn.commits d gs = r)) : Calls Try.prog 35 #[ptr jb 0] W fun e w' => ∃ T', e = .returned (.int .i64 r.1) ∧ JR w0 T' b jb r.2 (if r.1 = 0 then [] else gs) w' ∧ Tw W T T' w' := by
  obtain ⟨D, g, hk, h1, h2⟩ := h.ex
  have e' := e.out
  unfold Jn.commits at e'
  have hs : (Jn.frames gs).length ≤ maxLen := by have := h.small; unfold maxLen; omega
  by_cases hg : gs = []
  · rw [if_pos hg] at e'
    subst e'
    subst hg
    refine (Commit_none hk.j).mono ?_
    rintro e w' ⟨rfl, rfl⟩
    exact ⟨T, rfl, by simpa using h, Tw.refl _ _⟩
  · rw [if_neg hg] at e'
    have hn : gs.length ≠ 0 := fun hx => hg (List.eq_nil_of_length_eq_zero hx)
    cases hon : d.on with
    | false =>
      rw [hon] at e'
      simp only [if_true] at e'
      subst e'
      refine (Commit_off hk hn hon).mono ?_
      rintro e w' ⟨rfl, rfl⟩
      exact ⟨T, rfl, h, Tw.refl _ _⟩
    | true =>
      rw [hon] at e'
      simp only [Bool.true_eq_false, if_false] at e'
      obtain ⟨c, d'⟩ := r
      by_cases hc : c = 0
      · subst hc
        refine (Commit_yes hk hn hon hs (by exact e')).mono ?_
        rintro e w' ⟨D', w1, rfl, hD, hJ, hO⟩
        obtain ⟨T1, hJ1, hT1, hs1, hs2⟩ := jr_dp h hk h1 h2 hD
        have hk1 : Jk w1 D' jb b d' g (Jn.frames gs) gs.length := ⟨hD.dsk, hk.j.dp hD hk.nj hk.ng, hD.not hk.nj hk.j.lt, fun k e => hD.not (hk.ng k e) (hk.j.own.lt e).2⟩
        obtain ⟨T2, hJ2, hT2⟩ := jr_own (gs' := []) hJ1 hk1 hs1 hs2 hJ ⟨hO.os, hO.tape, hO.output, hO.size, fun k hl hn => hO.block k hl (fun e => hn (.inl e))⟩ (fun k e => by cases e) (by simp [Jn.frames]) (fun r hr => by simp at hr)
        exact ⟨T2, rfl, by rw [if_pos rfl]; exact hJ2, hT1.trans hT2⟩
      · refine (Commit_err hk hn hon hs (by exact e') hc).mono ?_
        rintro e w' ⟨D', rfl, hD⟩
        obtain ⟨T1, hJ1, hT1, hs1, hs2⟩ := jr_dp h hk h1 h2 hD
        exact ⟨T1, rfl, by rw [if_neg hc]; exact hJ1, hT1⟩
theorem JR.snap {w0 W : World} {T : Nat → Prop} {b jb : Nat} {d : Dk.D} {gs : List (List UInt8)} (h : JR w0 T b jb d gs W) {rv : Value} {rs : List (List UInt8)} (hr : Rx T W rv rs) {r : Int × Dk.D} (e : Hid (Jn.snaps d gs rs = r)) : Calls Try.prog 37 #[ptr jb 0, rv] W fun e w' => ∃ T', e = .returned (.int .i64 r.1) ∧ JR w0 T' b jb r.2 gs w' ∧ Tw W T T' w' := by
  obtain ⟨D, g, hk, h1, h2⟩ := h.ex
  obtain ⟨xs, hrx⟩ := hr.rd.x
  have e' := e.out
  unfold Jn.snaps at e'
  have hs := h.small
  have hgl := Jn.frames_length gs
  by_cases hg : gs = []
  · rw [if_neg (by simp [hg])] at e'
    subst hg
    by_cases hf : Jn.fits d 0 rs = 0
    · rw [if_neg (by simp [hf])] at e'
      cases hon : d.on with
      | false =>
        unfold Jn.snap at e'
        rw [if_pos hon] at e'
        subst e'
        refine (Snapshot_off hk (by omega) hrx hr.each (by have := hr.len; omega) (by exact hf) hon).mono ?_
        rintro e w' ⟨rfl, hB⟩
        exact ⟨T, rfl, h.below hB, Tw.of T hB⟩
      | true =>
        refine (Snapshot_yes hk (by omega) hrx hr.each (by have := hr.len; omega) (by exact hf) hon (by exact e')).mono ?_
        rintro e w' ⟨D', rfl, hD⟩
        obtain ⟨T1, hJ1, hT1, _, _⟩ := jr_dp h hk h1 h2 hD
        exact ⟨T1, rfl, hJ1, hT1⟩
    · rw [if_pos hf] at e'
      subst e'
      refine (Snapshot_no hk (by omega) hrx hr.each (by have := hr.len; omega) (q := Jn.fits d 0 rs) (by exact (rfl : _ = _)) hf).mono ?_
      rintro e w' ⟨rfl, hB⟩
      exact ⟨T, rfl, h.below hB, Tw.of T hB⟩
  · rw [if_pos hg] at e'
    subst e'
    obtain ⟨ra, rc, rfl⟩ := hrx.form
    refine (Snapshot_full hk.j (fun hx => hg (List.eq_nil_of_length_eq_zero hx)) (by omega) _ _ _).mono ?_
    rintro e w' ⟨rfl, rfl⟩
    exact ⟨T, rfl, h, Tw.refl _ _⟩
/-- A disk's journal is opened. -/
theorem Lt.opens {w0 W : World} {T : Nat → Prop} {b : Nat} {d d' : Dk.D} (h : Lt w0 T b d W) (hon : d.on = true) (e : Hid (Jn.opens d = (0, d'))) {rs : List (List UInt8)} (hr : Hid (Jn.recs d d.root = rs)) :
    Calls Try.prog 13 #[ptr b 0] W fun e w' => ∃ T' jb a c, e = .returned (.tuple #[ptr jb 0, .slice a rs.length c, .int .i64 0]) ∧ JR w0 T' b jb d' [] w' ∧ Tw W T T' w' ∧ Rs T' w' (.slice a rs.length c) rs := by
  refine (Open_yes h.dsk hon e hr).mono ?_
  rintro e w' ⟨T', jb, u, rfl, hD, hJ, hn, hb, hR⟩
  obtain ⟨a, c, rfl⟩ := hR.form
  refine ⟨fun k => T' k ∨ k = jb, jb, a, c, rfl, ⟨⟨T', .slice none 0 0, ⟨hD.dsk, hJ, hn, fun k e => by cases e⟩, fun k hx => .inl hx, fun k e => by cases e⟩, .inr rfl, fun k hx => ?_, fun k hx => ?_, h.bel.trans (hD.own.below h.base h.bel.size), by simp [Jn.frames], fun r hr => by simp at hr⟩, ⟨fun k hx => ?_, hD.own⟩, hR.mono (fun k hk => .inl hk)⟩
  · rcases hx with hx | rfl
    · exact hD.dsk.low k hx
    · exact hJ.lt
  · rcases hx with hx | rfl
    · rcases hD.sub k hx with hx | hx
      · exact h.base k hx
      · exact Nat.le_trans h.bel.size hx
    · exact Nat.le_trans h.bel.size hb
  · rcases hx with hx | rfl
    · exact hD.sub k hx
    · exact .inr hb
/-- A disk's journal is opened again: the one that was there stays. -/
theorem JR.again {w0 W : World} {T : Nat → Prop} {b jb : Nat} {d d' : Dk.D} {gs : List (List UInt8)} (h : JR w0 T b jb d gs W) (hon : d.on = true) (e : Hid (Jn.opens d = (0, d'))) {rs : List (List UInt8)} (hr : Hid (Jn.recs d d.root = rs)) :
    Calls Try.prog 13 #[ptr b 0] W fun e w' => ∃ T' jb' a c, e = .returned (.tuple #[ptr jb' 0, .slice a rs.length c, .int .i64 0]) ∧ JR w0 T' b jb d' gs w' ∧ Tw W T T' w' ∧ Rs T' w' (.slice a rs.length c) rs := by
  obtain ⟨D, g, hk, h1, h2⟩ := h.ex
  refine (Open_yes hk.dsk hon e hr).mono ?_
  rintro e w' ⟨D', jb', u, rfl, hD, hJ, hn, hb, hR⟩
  obtain ⟨a, c, rfl⟩ := hR.form
  have hO : Own T W w' := hD.own.mono9 h1
  have hx1 : ∀ k, (D' k ∨ k = jb ∨ g.ownBlock = some k) → T k ∨ W.heap.size ≤ k := fun k hx => by
    rcases hx with hx | rfl | hx
    · exact (hD.sub k hx).elim (fun hx => .inl (h1 k hx)) .inr
    · exact .inl h.tj
    · exact .inl (h2 k hx)
  refine ⟨fun k => D' k ∨ k = jb ∨ g.ownBlock = some k, jb', a, c, rfl, ⟨⟨D', g, ⟨hD.dsk, hk.j.dp hD hk.nj hk.ng, hD.not hk.nj hk.j.lt, fun k e => hD.not (hk.ng k e) (hk.j.own.lt e).2⟩, fun k hx => .inl hx, fun k e => .inr (.inr e)⟩, .inr (.inl rfl), fun k hx => ?_, fun k hx => ?_, h.bel.trans (hO.below h.base h.bel.size), h.small, h.all⟩, ⟨hx1, hO⟩, hR.mono (fun k hx => ?_)⟩
  · rcases hx with hx | rfl | hx
    · exact hD.dsk.low k hx
    · exact Nat.lt_of_lt_of_le hk.j.lt hD.own.size
    · exact Nat.lt_of_lt_of_le (hk.j.own.lt hx).2 hD.own.size
  · exact (hx1 k hx).elim (h.base k) (fun hx => Nat.le_trans h.bel.size hx)
  · rcases hx with hx | rfl | hx
    · exact .inl (.inl hx)
    · exact .inr hk.j.lt
    · exact .inr (hk.j.own.lt hx).2
end Go.Proofs.Ytcjbceidgaieaaa
