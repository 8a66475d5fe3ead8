/- The contracts of Commit and Snapshot. -/
import Derived.Test.YtcjbceidgaieaaaKJnFI
import Derived.Deep.RegionWith
set_option linter.unusedVariables false
set_option linter.unusedSimpArgs false
namespace Go.Proofs.Ytcjbceidgaieaaa
open Go.RowKit
/-- What a call leaves of the blocks of a territory. -/
structure Tw (w : World) (T T' : Nat → Prop) (w' : World) : Prop where
  sub : ∀ k, T' k → T k ∨ w.heap.size ≤ k
  own : Own T w w'
set_option maxHeartbeats 2000000 in
set_option maxRecDepth 100000 in
theorem Commit_none {w : World} {jb b : Nat} {g : Value} {l : List UInt8} (h : JAt w jb b g l 0) :
    Calls Try.prog 35 #[ptr jb 0] w fun e w' => e = .returned (.int .i64 0) ∧ w' = w := by
  have H := isMadeJ_any h.made
  have c2 : w.cell? ⟨jb, 2, none⟩ = some (.int .i64 0) := h.c2
  clear h
  go_enter Try.func35, Try.ntmps35
  go_wp2_with (go_at_call 52; refine H.mono ?_; rintro e w2 ⟨rfl, he⟩; replace he := he.symm; subst he)
  go_ret
  exact ⟨rfl, rfl⟩
set_option maxHeartbeats 2000000 in
set_option maxRecDepth 100000 in
theorem Commit_off {w : World} {D : Nat → Prop} {jb b n : Nat} {d : Dk.D} {g : Value} {l : List UInt8} (h : Jk w D jb b d g l n) (hn : n ≠ 0) (hon : d.on = false) :
    Calls Try.prog 35 #[ptr jb 0] w fun e w' => e = .returned (.int .i64 12) ∧ w' = w := by
  have H := isMadeJ_any h.j.made
  have c2 := h.j.c2
  have c0 := h.j.c0
  have H2 := h.dsk.root
  rw [hon] at H2
  simp only [Bool.false_eq_true, if_false] at H2
  clear h
  go_enter Try.func35, Try.ntmps35
  go_wp2_with (first
    | (go_at_call 52; refine H.mono ?_; rintro e w2 ⟨rfl, he⟩; replace he := he.symm; subst he)
    | (go_at_call 25; refine H2.mono ?_; rintro e w3 ⟨rfl, he⟩; replace he := he.symm; subst he))
  go_ret
  exact ⟨rfl, rfl⟩
theorem bel_drew (w : World) : Below w.heap.size w w.drew := ⟨rfl, rfl, rfl, Nat.le_refl _, fun _ _ => rfl⟩
set_option maxHeartbeats 2000000 in
set_option maxRecDepth 100000 in
theorem Commit_err {w : World} {D : Nat → Prop} {jb b n : Nat} {d : Dk.D} {g : Value} {l : List UInt8} (h : Jk w D jb b d g l n) (hn : n ≠ 0) (hon : d.on = true) (hl : l.length ≤ maxLen) {c : Int} {d' : Dk.D} (e : Hid (Jn.write d d.root l = (c, d'))) (hc : c ≠ 0) :
    Calls Try.prog 35 #[ptr jb 0] w fun e w' => ∃ D', e = .returned (.int .i64 c) ∧ Dp w D D' b d' w' := by
  have H := isMadeJ_any h.j.made
  have c2 := h.j.c2
  have c1 := h.j.c1
  have c0 := h.j.c0
  have H2 := h.dsk.root
  rw [hon] at H2
  simp only [if_true] at H2
  have H3 := hide9 (write_any (h.dsk.below (bel_drew w)) d.root g l (h.j.own.reads.below (bel_drew w)) hl e)
  have hcb : (c == 0) = false := by simpa using hc
  have hnb : ((n : Int) == 0) = false := by simpa using hn
  obtain ⟨a, cp, rfl⟩ := h.j.own.form
  clear h hon
  generalize d.root = rt at *
  go_enter Try.func35, Try.ntmps35
  go_wp2_with (first
    | (go_at_call 52; refine H.mono ?_; rintro e w2 ⟨rfl, he⟩; replace he := he.symm; subst he)
    | (go_at_call 25; refine H2.mono ?_; rintro e w3 ⟨rfl, he⟩; replace he := he.symm; subst he))
  go_region_with (go_at_call 63; refine H3.out.mono ?_; rintro e w4 ⟨D', rfl, hD⟩)
  all_goals
    go_wp2
    go_ret
    exact ⟨D', rfl, Dp.ahead (bel_drew w) hD⟩
theorem JAt.dp {w w' : World} {D D' : Nat → Prop} {jb b n : Nat} {d' : Dk.D} {g : Value} {l : List UInt8} (h : JAt w jb b g l n) (hD : Dp w D D' b d' w') (hj : ¬ D jb) (hg : ∀ k, g.ownBlock = some k → ¬ D k) : JAt w' jb b g l n := h.keep (fun k hk hx => by
  rcases hx with rfl | hx
  · exact hD.own.block _ hk hj
  · exact hD.own.block _ hk (hg k hx))
theorem Dp.not {w w' : World} {D D' : Nat → Prop} {b : Nat} {d' : Dk.D} (hD : Dp w D D' b d' w') {k : Nat} (hk : ¬ D k) (hl : k < w.heap.size) : ¬ D' k := fun hx => (hD.sub k hx).elim hk (fun h => by omega)
set_option maxHeartbeats 2000000 in
set_option maxRecDepth 100000 in
theorem Commit_yes {w : World} {D : Nat → Prop} {jb b n : Nat} {d : Dk.D} {g : Value} {l : List UInt8} (h : Jk w D jb b d g l n) (hn : n ≠ 0) (hon : d.on = true) (hl : l.length ≤ maxLen) {d' : Dk.D} (e : Hid (Jn.write d d.root l = (0, d'))) :
    Calls Try.prog 35 #[ptr jb 0] w fun e w' => ∃ D' w1, e = .returned (.int .i64 0) ∧ Dp w D D' b d' w1 ∧ JAt w' jb b (.slice none 0 0) [] 0 ∧ Own (fun k => k = jb) w1 w' := by
  have H := isMadeJ_any h.j.made
  have c2 := h.j.c2
  have c1 := h.j.c1
  have c0 := h.j.c0
  have H2 := h.dsk.root
  rw [hon] at H2
  simp only [if_true] at H2
  have H3 := hide9 (write_any (h.dsk.below (bel_drew w)) d.root g l (h.j.own.reads.below (bel_drew w)) hl e)
  have hnb : ((n : Int) == 0) = false := by simpa using hn
  have HJ := hide9 h
  obtain ⟨a, cp, hga⟩ := h.j.own.form
  subst hga
  clear h hon
  generalize d.root = rt at *
  go_enter Try.func35, Try.ntmps35
  go_wp2_with (first
    | (go_at_call 52; refine H.mono ?_; rintro e w2 ⟨rfl, he⟩; replace he := he.symm; subst he)
    | (go_at_call 25; refine H2.mono ?_; rintro e w3 ⟨rfl, he⟩; replace he := he.symm; subst he))
  go_region_with (go_at_call 63; refine H3.out.mono ?_; rintro e w4 ⟨D', rfl, hD⟩)
  all_goals
    have hD9 := Dp.ahead (bel_drew w) hD
    have H5 := Drop_yes (HJ.out.j.dp hD9 HJ.out.nj HJ.out.ng)
    go_wp2_with (go_at_call 36; refine H5.mono ?_; rintro e w5 ⟨rfl, hJ5, hO5⟩)
    go_ret
    exact ⟨D', w4, rfl, hD9, hJ5, hO5⟩
end Go.Proofs.Ytcjbceidgaieaaa
