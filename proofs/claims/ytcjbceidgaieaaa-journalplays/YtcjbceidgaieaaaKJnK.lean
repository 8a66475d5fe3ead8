/- The contract of Snapshot. -/
import Derived.Test.YtcjbceidgaieaaaKJnJ
set_option linter.unusedVariables false
set_option linter.unusedSimpArgs false
namespace Go.Proofs.Ytcjbceidgaieaaa
open Go.RowKit
set_option maxHeartbeats 2000000 in
set_option maxRecDepth 100000 in
theorem Snapshot_full {w : World} {jb b n : Nat} {g : Value} {l : List UInt8} (h : JAt w jb b g l n) (hn : n ≠ 0) (hn9 : n ≤ 1000000000) (a : Option Addr) (m c : Nat) :
    Calls Try.prog 37 #[ptr jb 0, .slice a m c] w fun e w' => e = .returned (.int .i64 13) ∧ w' = w := by
  have H := isMadeJ_any h.made
  have c2 := h.c2
  have hp : (0 : Int) < (n : Int) := by omega
  clear h
  go_enter Try.func37, Try.ntmps37
  go_wp2_with (go_at_call 52; refine H.mono ?_; rintro e w2 ⟨rfl, he⟩; replace he := he.symm; subst he)
  go_ret
  exact ⟨rfl, rfl⟩
set_option maxHeartbeats 2000000 in
set_option maxRecDepth 100000 in
theorem Snapshot_no {w : World} {D : Nat → Prop} {jb b : Nat} {d : Dk.D} {g : Value} {l : List UInt8} (h : Jk w D jb b d g l 0) (hl : l.length ≤ 1000000000) {rv : Value} {xs : List Value} {rs : List (List UInt8)} (hr : RBx w rv xs rs) (hz : ∀ r ∈ rs, r.length ≤ maxLen) (hn : rs.length ≤ 1000000) {q : Int} (hq : Hid (Jn.fits d l.length rs = q)) (hq0 : q ≠ 0) :
    Calls Try.prog 37 #[ptr jb 0, rv] w fun e w' => e = .returned (.int .i64 q) ∧ Below w.heap.size w w' := by
  have H := isMadeJ_any h.j.made
  have c2 : w.cell? ⟨jb, 2, none⟩ = some (.int .i64 0) := h.j.c2
  have H2 := fits_any h hl hr hz hn hq
  obtain ⟨ra, rc, rfl⟩ := hr.form
  have hqb : (q == 0) = false := by simpa using hq0
  clear h hr hz hq
  go_enter Try.func37, Try.ntmps37
  go_wp2_with (first
    | (go_at_call 52; refine H.mono ?_; rintro e w2 ⟨rfl, he⟩; replace he := he.symm; subst he)
    | (go_at_call 62; refine H2.mono ?_; rintro e w3 ⟨rfl, hB⟩))
  go_ret
  exact ⟨rfl, hB⟩
set_option maxHeartbeats 2000000 in
set_option maxRecDepth 100000 in
theorem Snapshot_off {w : World} {D : Nat → Prop} {jb b : Nat} {d : Dk.D} {g : Value} {l : List UInt8} (h : Jk w D jb b d g l 0) (hl : l.length ≤ 1000000000) {rv : Value} {xs : List Value} {rs : List (List UInt8)} (hr : RBx w rv xs rs) (hz : ∀ r ∈ rs, r.length ≤ maxLen) (hn : rs.length ≤ 1000000) (hq : Hid (Jn.fits d l.length rs = 0)) (hon : d.on = false) :
    Calls Try.prog 37 #[ptr jb 0, rv] w fun e w' => e = .returned (.int .i64 12) ∧ Below w.heap.size w w' := by
  have H := isMadeJ_any h.j.made
  have c2 : w.cell? ⟨jb, 2, none⟩ = some (.int .i64 0) := h.j.c2
  have H2 := fits_any h hl hr hz hn hq
  have HJ := hide9 h
  obtain ⟨ra, rc, rfl⟩ := hr.form
  clear h hr hz hq
  go_enter Try.func37, Try.ntmps37
  go_wp2_with (first
    | (go_at_call 52; refine H.mono ?_; rintro e w2 ⟨rfl, he⟩; replace he := he.symm; subst he)
    | (go_at_call 62; refine H2.mono ?_; rintro e w3 ⟨rfl, hB⟩; have c0 := (HJ.out.below hB).j.c0; have H3 := (HJ.out.below hB).dsk.root; rw [hon] at H3; simp only [Bool.false_eq_true, if_false] at H3)
    | (go_at_call 25; refine H3.mono ?_; rintro e w4 ⟨rfl, he⟩; replace he := he.symm; subst he))
  go_ret
  exact ⟨rfl, hB⟩
set_option maxHeartbeats 2000000 in
set_option maxRecDepth 100000 in
theorem Snapshot_yes {w : World} {D : Nat → Prop} {jb b : Nat} {d : Dk.D} {g : Value} {l : List UInt8} (h : Jk w D jb b d g l 0) (hl : l.length ≤ 1000000000) {rv : Value} {xs : List Value} {rs : List (List UInt8)} (hr : RBx w rv xs rs) (hz : ∀ r ∈ rs, r.length ≤ maxLen) (hn : rs.length ≤ 1000000) (hq : Hid (Jn.fits d l.length rs = 0)) (hon : d.on = true) {r : Int × Dk.D} (e : Hid (Jn.snap d (Jn.frames rs) = r)) :
    Calls Try.prog 37 #[ptr jb 0, rv] w fun e w' => ∃ D', e = .returned (.int .i64 r.1) ∧ Dp w D D' b r.2 w' := by
  have H := isMadeJ_any h.j.made
  have c2 : w.cell? ⟨jb, 2, none⟩ = some (.int .i64 0) := h.j.c2
  have H2 := fits_any h hl hr hz hn hq
  obtain ⟨hA, hle⟩ := Jn.fits_zero hq.out
  have hlf : d.left ≤ 1048576 := by
    have := h.dsk.fine
    unfold Dk.D.left
    have h3 := this.room
    omega
  have HZ : Hid (∀ r ∈ rs, r.length ≤ 1000000) := fun r hm => by have := (hA r hm).2; omega
  have hfl : (Jn.frames rs).length ≤ 1048576 := by omega
  have HJ := hide9 h
  obtain ⟨ra, rc, rfl⟩ := hr.form
  have HR := hide9 hr
  have hroot := h.dsk.fine.root
  have e' := e.out
  unfold Jn.snap at e'
  rw [if_neg (by simp [hon])] at e'
  obtain ⟨r1, HW⟩ : ∃ r1, Hid (Jn.write d (1 - d.root) (Jn.frames rs) = r1) := ⟨_, rfl⟩
  rw [HW.out] at e'
  have hroot1 : d.root = 0 ∨ d.root = 1 := hroot
  generalize hrt : d.root = rt at *
  have HRT := hide9 hrt
  clear h hr hz hq hA hle hlf e hroot hrt
  obtain ⟨cw, dw⟩ := r1
  dsimp only at e'
  by_cases hcw : cw = 0
  · subst hcw
    rw [if_neg (by simp)] at e'
    unfold Jn.snap3 at e'
    obtain ⟨r2, HS⟩ : ∃ r2, Hid (dw.switch (1 - rt) = r2) := ⟨_, rfl⟩
    rw [HS.out] at e'
    obtain ⟨cs, ds⟩ := r2
    dsimp only at e'
    by_cases hcs : cs = 0
    · subst hcs
      rw [if_neg (by simp)] at e'
      have E := hide9 e'
      clear e'
      rcases hroot1 with rfl | rfl
      · have HW1 : Hid (Jn.write d 1 (Jn.frames rs) = (0, dw)) := HW
        have HS1 : Hid (dw.switch 1 = (0, ds)) := HS
        go_enter Try.func37, Try.ntmps37
        go_wp2_with (first
          | (go_at_call 52; refine H.mono ?_; rintro e w2 ⟨rfl, he⟩; replace he := he.symm; subst he)
          | (go_at_call 62; refine H2.mono ?_; rintro e w3 ⟨rfl, hB⟩; have c0 := (HJ.out.below hB).j.c0; have H3 := (HJ.out.below hB).dsk.root; rw [hon, HRT.out] at H3; simp only [if_true] at H3)
          | (go_at_call 25; refine H3.mono ?_; rintro e w4 ⟨rfl, he⟩; replace he := he.symm; subst he))
        have H4 := hide9 (frames_any (OwnsBytes.nil w3.drew 0) (fun w' hO => (HR.out.below (bel hB (bel_drew w3))).below (own_nil hO)) HZ.out (by simp; omega))
        go_region_with (first
          | (go_at_call 58; refine H4.out.mono ?_; rintro e w5 ⟨u5, rfl, ho5, hg5⟩; obtain ⟨L5, a5, c5, H5, rfl, ho5⟩ := ho5.gen; have hB5 := bel (bel hB (bel_drew w3)) hg5.nil; have c05 := (HJ.out.below hB5).j.c0; have hl5 : L5.length ≤ maxLen := (by rw [H5.out, List.nil_append]; unfold maxLen; omega); have H6 := hide9 (write_any (HJ.out.below hB5).dsk 1 _ L5 ho5.reads hl5 (r := (0, dw)) (by rw [H5.out, List.nil_append]; exact HW1)); clear ho5)
          | (go_at_call 63; refine H6.out.mono ?_; rintro e w6 ⟨D6, rfl, hD6⟩))
        all_goals
          have HJ6 := hide9 ((HJ.out.below hB5).j.dp hD6 HJ.out.nj HJ.out.ng)
          have c06 := HJ6.out.c0
          have H7 := hD6.dsk.switch 1 HS1.out
          have hnj6 := hide9 (hD6.not HJ.out.nj (HJ.out.below hB5).j.lt)
          have hng6 := hide9 (fun k (hk : g.ownBlock = some k) => hD6.not (HJ.out.ng k hk) ((HJ.out.below hB5).j.own.lt hk).2)
          go_wp2_with (first
            | (go_at_call 64; refine H7.mono ?_; rintro e w7 ⟨D7, rfl, hD7⟩; have c07 := (HJ6.out.dp hD7 hnj6.out hng6.out).c0; have H8 := cut_any hD7.dsk 0 0 E; clear H7)
            | (go_at_call 65; refine H8.mono ?_; rintro e w8 ⟨D8, rfl, hD8⟩))
          go_ret
          exact ⟨D8, rfl, Dp.ahead hB5 (hD6.trans (hD7.trans hD8))⟩
      · have HW1 : Hid (Jn.write d 0 (Jn.frames rs) = (0, dw)) := HW
        have HS1 : Hid (dw.switch 0 = (0, ds)) := HS
        go_enter Try.func37, Try.ntmps37
        go_wp2_with (first
          | (go_at_call 52; refine H.mono ?_; rintro e w2 ⟨rfl, he⟩; replace he := he.symm; subst he)
          | (go_at_call 62; refine H2.mono ?_; rintro e w3 ⟨rfl, hB⟩; have c0 := (HJ.out.below hB).j.c0; have H3 := (HJ.out.below hB).dsk.root; rw [hon, HRT.out] at H3; simp only [if_true] at H3)
          | (go_at_call 25; refine H3.mono ?_; rintro e w4 ⟨rfl, he⟩; replace he := he.symm; subst he))
        have H4 := hide9 (frames_any (OwnsBytes.nil w3.drew 0) (fun w' hO => (HR.out.below (bel hB (bel_drew w3))).below (own_nil hO)) HZ.out (by simp; omega))
        go_region_with (first
          | (go_at_call 58; refine H4.out.mono ?_; rintro e w5 ⟨u5, rfl, ho5, hg5⟩; obtain ⟨L5, a5, c5, H5, rfl, ho5⟩ := ho5.gen; have hB5 := bel (bel hB (bel_drew w3)) hg5.nil; have c05 := (HJ.out.below hB5).j.c0; have hl5 : L5.length ≤ maxLen := (by rw [H5.out, List.nil_append]; unfold maxLen; omega); have H6 := hide9 (write_any (HJ.out.below hB5).dsk 0 _ L5 ho5.reads hl5 (r := (0, dw)) (by rw [H5.out, List.nil_append]; exact HW1)); clear ho5)
          | (go_at_call 63; refine H6.out.mono ?_; rintro e w6 ⟨D6, rfl, hD6⟩))
        all_goals
          have HJ6 := hide9 ((HJ.out.below hB5).j.dp hD6 HJ.out.nj HJ.out.ng)
          have c06 := HJ6.out.c0
          have H7 := hD6.dsk.switch 0 HS1.out
          have hnj6 := hide9 (hD6.not HJ.out.nj (HJ.out.below hB5).j.lt)
          have hng6 := hide9 (fun k (hk : g.ownBlock = some k) => hD6.not (HJ.out.ng k hk) ((HJ.out.below hB5).j.own.lt hk).2)
          go_wp2_with (first
            | (go_at_call 64; refine H7.mono ?_; rintro e w7 ⟨D7, rfl, hD7⟩; have c07 := (HJ6.out.dp hD7 hnj6.out hng6.out).c0; have H8 := cut_any hD7.dsk 1 0 E; clear H7)
            | (go_at_call 65; refine H8.mono ?_; rintro e w8 ⟨D8, rfl, hD8⟩))
          go_ret
          exact ⟨D8, rfl, Dp.ahead hB5 (hD6.trans (hD7.trans hD8))⟩
    · rw [if_pos hcs] at e'
      subst e'
      have hcb : (cs == 0) = false := by simpa using hcs
      rcases hroot1 with rfl | rfl
      · have HW1 : Hid (Jn.write d 1 (Jn.frames rs) = (0, dw)) := HW
        have HS1 : Hid (dw.switch 1 = (cs, ds)) := HS
        go_enter Try.func37, Try.ntmps37
        go_wp2_with (first
          | (go_at_call 52; refine H.mono ?_; rintro e w2 ⟨rfl, he⟩; replace he := he.symm; subst he)
          | (go_at_call 62; refine H2.mono ?_; rintro e w3 ⟨rfl, hB⟩; have c0 := (HJ.out.below hB).j.c0; have H3 := (HJ.out.below hB).dsk.root; rw [hon, HRT.out] at H3; simp only [if_true] at H3)
          | (go_at_call 25; refine H3.mono ?_; rintro e w4 ⟨rfl, he⟩; replace he := he.symm; subst he))
        have H4 := hide9 (frames_any (OwnsBytes.nil w3.drew 0) (fun w' hO => (HR.out.below (bel hB (bel_drew w3))).below (own_nil hO)) HZ.out (by simp; omega))
        go_region_with (first
          | (go_at_call 58; refine H4.out.mono ?_; rintro e w5 ⟨u5, rfl, ho5, hg5⟩; obtain ⟨L5, a5, c5, H5, rfl, ho5⟩ := ho5.gen; have hB5 := bel (bel hB (bel_drew w3)) hg5.nil; have c05 := (HJ.out.below hB5).j.c0; have hl5 : L5.length ≤ maxLen := (by rw [H5.out, List.nil_append]; unfold maxLen; omega); have H6 := hide9 (write_any (HJ.out.below hB5).dsk 1 _ L5 ho5.reads hl5 (r := (0, dw)) (by rw [H5.out, List.nil_append]; exact HW1)); clear ho5)
          | (go_at_call 63; refine H6.out.mono ?_; rintro e w6 ⟨D6, rfl, hD6⟩))
        all_goals
          have HJ6 := hide9 ((HJ.out.below hB5).j.dp hD6 HJ.out.nj HJ.out.ng)
          have c06 := HJ6.out.c0
          have H7 := hD6.dsk.switch 1 HS1.out
          have hnj6 := hide9 (hD6.not HJ.out.nj (HJ.out.below hB5).j.lt)
          have hng6 := hide9 (fun k (hk : g.ownBlock = some k) => hD6.not (HJ.out.ng k hk) ((HJ.out.below hB5).j.own.lt hk).2)
          go_wp2_with (go_at_call 64; refine H7.mono ?_; rintro e w7 ⟨D7, rfl, hD7⟩)
          go_ret
          exact ⟨D7, rfl, Dp.ahead hB5 (hD6.trans hD7)⟩
      · have HW1 : Hid (Jn.write d 0 (Jn.frames rs) = (0, dw)) := HW
        have HS1 : Hid (dw.switch 0 = (cs, ds)) := HS
        go_enter Try.func37, Try.ntmps37
        go_wp2_with (first
          | (go_at_call 52; refine H.mono ?_; rintro e w2 ⟨rfl, he⟩; replace he := he.symm; subst he)
          | (go_at_call 62; refine H2.mono ?_; rintro e w3 ⟨rfl, hB⟩; have c0 := (HJ.out.below hB).j.c0; have H3 := (HJ.out.below hB).dsk.root; rw [hon, HRT.out] at H3; simp only [if_true] at H3)
          | (go_at_call 25; refine H3.mono ?_; rintro e w4 ⟨rfl, he⟩; replace he := he.symm; subst he))
        have H4 := hide9 (frames_any (OwnsBytes.nil w3.drew 0) (fun w' hO => (HR.out.below (bel hB (bel_drew w3))).below (own_nil hO)) HZ.out (by simp; omega))
        go_region_with (first
          | (go_at_call 58; refine H4.out.mono ?_; rintro e w5 ⟨u5, rfl, ho5, hg5⟩; obtain ⟨L5, a5, c5, H5, rfl, ho5⟩ := ho5.gen; have hB5 := bel (bel hB (bel_drew w3)) hg5.nil; have c05 := (HJ.out.below hB5).j.c0; have hl5 : L5.length ≤ maxLen := (by rw [H5.out, List.nil_append]; unfold maxLen; omega); have H6 := hide9 (write_any (HJ.out.below hB5).dsk 0 _ L5 ho5.reads hl5 (r := (0, dw)) (by rw [H5.out, List.nil_append]; exact HW1)); clear ho5)
          | (go_at_call 63; refine H6.out.mono ?_; rintro e w6 ⟨D6, rfl, hD6⟩))
        all_goals
          have HJ6 := hide9 ((HJ.out.below hB5).j.dp hD6 HJ.out.nj HJ.out.ng)
          have c06 := HJ6.out.c0
          have H7 := hD6.dsk.switch 0 HS1.out
          have hnj6 := hide9 (hD6.not HJ.out.nj (HJ.out.below hB5).j.lt)
          have hng6 := hide9 (fun k (hk : g.ownBlock = some k) => hD6.not (HJ.out.ng k hk) ((HJ.out.below hB5).j.own.lt hk).2)
          go_wp2_with (go_at_call 64; refine H7.mono ?_; rintro e w7 ⟨D7, rfl, hD7⟩)
          go_ret
          exact ⟨D7, rfl, Dp.ahead hB5 (hD6.trans hD7)⟩
  · rw [if_pos hcw] at e'
    subst e'
    have hcb : (cw == 0) = false := by simpa using hcw
    rcases hroot1 with rfl | rfl
    · have HW1 : Hid (Jn.write d 1 (Jn.frames rs) = (cw, dw)) := HW
      go_enter Try.func37, Try.ntmps37
      go_wp2_with (first
        | (go_at_call 52; refine H.mono ?_; rintro e w2 ⟨rfl, he⟩; replace he := he.symm; subst he)
        | (go_at_call 62; refine H2.mono ?_; rintro e w3 ⟨rfl, hB⟩; have c0 := (HJ.out.below hB).j.c0; have H3 := (HJ.out.below hB).dsk.root; rw [hon, HRT.out] at H3; simp only [if_true] at H3)
        | (go_at_call 25; refine H3.mono ?_; rintro e w4 ⟨rfl, he⟩; replace he := he.symm; subst he))
      have H4 := hide9 (frames_any (OwnsBytes.nil w3.drew 0) (fun w' hO => (HR.out.below (bel hB (bel_drew w3))).below (own_nil hO)) HZ.out (by simp; omega))
      go_region_with (first
        | (go_at_call 58; refine H4.out.mono ?_; rintro e w5 ⟨u5, rfl, ho5, hg5⟩; obtain ⟨L5, a5, c5, H5, rfl, ho5⟩ := ho5.gen; have hB5 := bel (bel hB (bel_drew w3)) hg5.nil; have c05 := (HJ.out.below hB5).j.c0; have hl5 : L5.length ≤ maxLen := (by rw [H5.out, List.nil_append]; unfold maxLen; omega); have H6 := hide9 (write_any (HJ.out.below hB5).dsk 1 _ L5 ho5.reads hl5 (r := (cw, dw)) (by rw [H5.out, List.nil_append]; exact HW1)); clear ho5)
        | (go_at_call 63; refine H6.out.mono ?_; rintro e w6 ⟨D6, rfl, hD6⟩))
      all_goals
        go_wp2
        go_ret
        exact ⟨D6, rfl, Dp.ahead hB5 hD6⟩
    · have HW1 : Hid (Jn.write d 0 (Jn.frames rs) = (cw, dw)) := HW
      go_enter Try.func37, Try.ntmps37
      go_wp2_with (first
        | (go_at_call 52; refine H.mono ?_; rintro e w2 ⟨rfl, he⟩; replace he := he.symm; subst he)
        | (go_at_call 62; refine H2.mono ?_; rintro e w3 ⟨rfl, hB⟩; have c0 := (HJ.out.below hB).j.c0; have H3 := (HJ.out.below hB).dsk.root; rw [hon, HRT.out] at H3; simp only [if_true] at H3)
        | (go_at_call 25; refine H3.mono ?_; rintro e w4 ⟨rfl, he⟩; replace he := he.symm; subst he))
      have H4 := hide9 (frames_any (OwnsBytes.nil w3.drew 0) (fun w' hO => (HR.out.below (bel hB (bel_drew w3))).below (own_nil hO)) HZ.out (by simp; omega))
      go_region_with (first
        | (go_at_call 58; refine H4.out.mono ?_; rintro e w5 ⟨u5, rfl, ho5, hg5⟩; obtain ⟨L5, a5, c5, H5, rfl, ho5⟩ := ho5.gen; have hB5 := bel (bel hB (bel_drew w3)) hg5.nil; have c05 := (HJ.out.below hB5).j.c0; have hl5 : L5.length ≤ maxLen := (by rw [H5.out, List.nil_append]; unfold maxLen; omega); have H6 := hide9 (write_any (HJ.out.below hB5).dsk 0 _ L5 ho5.reads hl5 (r := (cw, dw)) (by rw [H5.out, List.nil_append]; exact HW1)); clear ho5)
        | (go_at_call 63; refine H6.out.mono ?_; rintro e w6 ⟨D6, rfl, hD6⟩))
      all_goals
        go_wp2
        go_ret
        exact ⟨D6, rfl, Dp.ahead hB5 hD6⟩
end Go.Proofs.Ytcjbceidgaieaaa
