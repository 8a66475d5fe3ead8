/- The contract of act, at one act. -/
import Derived.Test.YtcjbceidgaieaaaKDkI
set_option linter.unusedVariables false
set_option linter.unusedSimpArgs false
namespace Go.Proofs.Ytcjbceidgaieaaa
open Go.RowKit
set_option maxHeartbeats 4000000 in
set_option maxRecDepth 100000 in
theorem act_trunc {w : World} {T : Nat → Prop} {b : Nat} {d : Dk.D} {n0 g0 n1 g1 : Value} (h : Dsk w T b d n0 g0 n1 g1) (f q : Int) (does : Dk.D → Dk.D) (sb : Nat)
    (ha : d.why f = 0 → Asks 86 #[ptr b (fo f), ptr sb 0] q w) (hd : d.why f = 0 → q = 0 → ∀ W, Below w.heap.size w W → Does 87 #[ptr b (fo f), ptr sb 0] T b (does d) W) (hfu : (does d).fuse = d.fuse ∧ (does d).on = d.on ∧ (does d).behind = d.behind) :
    Calls Try.prog 79 #[ptr b 0, .int .i64 f, .func (.func 86) #[] #[ptr sb 0], .func (.func 87) #[] #[ptr sb 0]] w (ActPost w T b (d.act f q does)) := by
  by_cases hw : d.why f = 0
  · have hO := open_yes h f hw
    replace ha := ha hw
    replace hd := hd hw
    unfold Asks at ha
    have HD : Hid (q = 0 → ∀ W, Below w.heap.size w W → Does 87 #[ptr b (fo f), ptr sb 0] T b (does d) W) := hd
    clear hd
    have HH : Hid (Dsk w T b d n0 g0 n1 g1) := h
    have HW : Hid (d.why f = 0) := hw
    clear h hw
    by_cases hq : q = 0
    · subst hq
      replace HD : Hid (∀ W, Below w.heap.size w W → Does 87 #[ptr b (fo f), ptr sb 0] T b (does d) W) := HD.out rfl
      by_cases h0 : d.fuse = 0
      · cases hb : d.behind with
        | false =>
          rw [act_ahead HW.out h0 hb]
          unfold ActPost
          generalize fo f = o at *
          go_enter Try.func79, Try.ntmps79
          go_wp2_with (first
            | (go_at_call 55; refine hO.mono ?_; rintro e w2 ⟨rfl, he⟩; replace he := he.symm; subst he)
            | (go_at_call 86; refine ha.mono ?_; rintro e w1 ⟨rfl, hB1⟩; have D1 := HH.out.below hB1; have c10 : w1.cell? ⟨b, 10, none⟩ = some (.int .i64 0) := by { have := D1.dat.cell 10; rw [this]; show some (Value.int .i64 d.fuse) = _; rw [h0] }; have c11 : w1.cell? ⟨b, 11, none⟩ = some (.bool false) := by { have := D1.dat.cell 11; rw [this]; show some (Value.bool d.behind) = _; rw [hb] }; have c1 : w1.cell? ⟨b, 1, none⟩ = some (.bool d.on) := D1.dat.cell 1; have f1 := D1.dat.free 1; have HP : Hid (DskE (w1.setCell ⟨b, 1, none⟩ (.bool false)) (More T w (w1.setCell ⟨b, 1, none⟩ (.bool false))) b { d with on := false } ∧ Own T w (w1.setCell ⟨b, 1, none⟩ (.bool false))) := post_set hB1.size (DskE.more (w := w) ⟨_, _, _, _, D1⟩ w) (Own.of hB1) (fun _ _ _ _ => rfl) rfl rfl (fun hf => ⟨hf.a, hf.b, hf.room, hf.least, hf.root, hf.fuse⟩); clear D1))
          go_ret
          exact ⟨rfl, HP.out⟩
        | true =>
          rw [act_behind HW.out h0 hb]
          unfold ActPost
          generalize fo f = o at *
          go_enter Try.func79, Try.ntmps79
          go_wp2_with (first
            | (go_at_call 55; refine hO.mono ?_; rintro e w2 ⟨rfl, he⟩; replace he := he.symm; subst he)
            | (go_at_call 86; refine ha.mono ?_; rintro e w1 ⟨rfl, hB1⟩; have D1 := HH.out.below hB1; have c10 : w1.cell? ⟨b, 10, none⟩ = some (.int .i64 0) := by { have := D1.dat.cell 10; rw [this]; show some (Value.int .i64 d.fuse) = _; rw [h0] }; have c11 : w1.cell? ⟨b, 11, none⟩ = some (.bool true) := by { have := D1.dat.cell 11; rw [this]; show some (Value.bool d.behind) = _; rw [hb] }; have hdo := HD.out w1 hB1; unfold Does at hdo; clear D1)
            | (go_at_call 87; refine hdo.mono ?_; rintro e w2 ⟨rfl, hE2, hO2⟩; have hs2 := hB1.size; obtain ⟨m0, k0, m1, k1, D2⟩ := hE2; have c1 : w2.cell? ⟨b, 1, none⟩ = some (.bool (does d).on) := D2.dat.cell 1; have f1 := D2.dat.free 1; have HP : Hid (DskE (w2.setCell ⟨b, 1, none⟩ (.bool false)) (More T w (w2.setCell ⟨b, 1, none⟩ (.bool false))) b { does d with on := false } ∧ Own T w (w2.setCell ⟨b, 1, none⟩ (.bool false))) := post_set (Nat.le_trans hs2 hO2.size) (DskE.step (w1 := w1) ⟨_, _, _, _, D2⟩ hs2) ((Own.of hB1).trans hO2 (fun k hk => .inl hk)) (fun _ _ _ _ => rfl) rfl rfl (fun hf => ⟨hf.a, hf.b, hf.room, hf.least, hf.root, hf.fuse⟩); clear D2 hdo))
          go_ret
          exact ⟨rfl, HP.out⟩
      · by_cases h1 : 0 < d.fuse
        · rw [act_fuse HW.out h1]
          have hfr := HH.out.fine.fuse
          have hwr : IntKind.i64.wrap (d.fuse - 1) = d.fuse - 1 := w64 rfl (by omega) (by omega)
          have h0b : (d.fuse == 0) = false := by simpa using h0
          unfold ActPost
          generalize fo f = o at *
          go_enter Try.func79, Try.ntmps79
          go_wp2_with (first
            | (go_at_call 55; refine hO.mono ?_; rintro e w2 ⟨rfl, he⟩; replace he := he.symm; subst he)
            | (go_at_call 86; refine ha.mono ?_; rintro e w1 ⟨rfl, hB1⟩; have D1 := HH.out.below hB1; have c10 : w1.cell? ⟨b, 10, none⟩ = some (.int .i64 d.fuse) := D1.dat.cell 10; have hdo := HD.out w1 hB1; unfold Does at hdo; clear D1)
            | (go_at_call 87; refine hdo.mono ?_; rintro e w2 ⟨rfl, hE2, hO2⟩; have hs2 := hB1.size; obtain ⟨m0, k0, m1, k1, D2⟩ := hE2; have c12 : w2.cell? ⟨b, 10, none⟩ = some (.int .i64 d.fuse) := by { have := D2.dat.cell 10; rw [this]; show some (Value.int .i64 (does d).fuse) = _; rw [hfu.1] }; have f12 := D2.dat.free 10; have HP : Hid (DskE (w2.setCell ⟨b, 10, none⟩ (.int .i64 (d.fuse - 1))) (More T w (w2.setCell ⟨b, 10, none⟩ (.int .i64 (d.fuse - 1)))) b { does d with fuse := d.fuse - 1 } ∧ Own T w (w2.setCell ⟨b, 10, none⟩ (.int .i64 (d.fuse - 1)))) := post_set (Nat.le_trans hs2 hO2.size) (DskE.step (w1 := w1) ⟨_, _, _, _, D2⟩ hs2) ((Own.of hB1).trans hO2 (fun k hk => .inl hk)) (fun _ _ _ _ => rfl) rfl rfl (fun hf => ⟨hf.a, hf.b, hf.room, hf.least, hf.root, by show -9223372036854775808 ≤ d.fuse - 1 ∧ d.fuse - 1 ≤ 9223372036854775807; omega⟩); clear D2 hdo))
          go_ret
          exact ⟨rfl, HP.out⟩
        · rw [act_free HW.out (by omega) hfu.1]
          have h0b : (d.fuse == 0) = false := by simpa using h0
          unfold ActPost
          generalize fo f = o at *
          go_enter Try.func79, Try.ntmps79
          go_wp2_with (first
            | (go_at_call 55; refine hO.mono ?_; rintro e w2 ⟨rfl, he⟩; replace he := he.symm; subst he)
            | (go_at_call 86; refine ha.mono ?_; rintro e w1 ⟨rfl, hB1⟩; have D1 := HH.out.below hB1; have c10 : w1.cell? ⟨b, 10, none⟩ = some (.int .i64 d.fuse) := D1.dat.cell 10; have hdo := HD.out w1 hB1; unfold Does at hdo; clear D1)
            | (go_at_call 87; refine hdo.mono ?_; rintro e w2 ⟨rfl, hE2, hO2⟩; have hs2 := hB1.size; obtain ⟨m0, k0, m1, k1, D2⟩ := hE2; have c12 : w2.cell? ⟨b, 10, none⟩ = some (.int .i64 d.fuse) := by { have := D2.dat.cell 10; rw [this]; show some (Value.int .i64 (does d).fuse) = _; rw [hfu.1] }; have HP : Hid (DskE w2 (More T w w2) b (does d) ∧ Own T w w2) := ⟨DskE.step (w1 := w1) ⟨_, _, _, _, D2⟩ hs2, (Own.of hB1).trans hO2 (fun k hk => .inl hk)⟩; clear D2 hdo))
          go_ret
          exact ⟨rfl, HP.out⟩
    · rw [act_ask HW.out hq]
      have hqb : (q == 0) = false := by simpa using hq
      unfold ActPost
      generalize fo f = o at *
      go_enter Try.func79, Try.ntmps79
      go_wp2_with (first
        | (go_at_call 55; refine hO.mono ?_; rintro e w2 ⟨rfl, he⟩; replace he := he.symm; subst he)
        | (go_at_call 86; refine ha.mono ?_; rintro e w1 ⟨rfl, hB1⟩; have HP : Hid (DskE w1 (More T w w1) b d ∧ Own T w w1) := ⟨DskE.more (w := w) ⟨_, _, _, _, HH.out.below hB1⟩ w, Own.of hB1⟩))
      go_ret
      exact ⟨rfl, HP.out⟩
  · rw [act_why hw]
    have hO := open_no h f hw
    have HP : Hid (DskE w (More T w w) b d ∧ Own T w w) := ⟨DskE.more (w := w) ⟨_, _, _, _, h⟩ w, Own.refl _ _⟩
    clear h ha hd
    generalize d.why f = y at *
    have hyb : (y == 0) = false := by simpa using hw
    unfold ActPost
    go_enter Try.func79, Try.ntmps79
    go_wp2_with (go_at_call 55; refine hO.mono ?_; rintro e w2 ⟨rfl, he⟩; replace he := he.symm; subst he)
    go_ret
    exact ⟨rfl, HP.out⟩
end Go.Proofs.Ytcjbceidgaieaaa
