/- The contract of act, for each act. -/
import Derived.Test.YtcjbceidgaieaaaKDkH
set_option linter.unusedVariables false
set_option linter.unusedSimpArgs false
namespace Go.Proofs.Ytcjbceidgaieaaa
open Go.RowKit
/-- What an act leaves. -/
def ActPost (w : World) (T : Nat → Prop) (b : Nat) (r : Int × Dk.D) (e : Ending) (w' : World) : Prop := e = .returned (.int .i64 r.1) ∧ DskE w' (More T w w') b r.2 ∧ Own T w w'
theorem act_why {d : Dk.D} {f q : Int} {does : Dk.D → Dk.D} (h : d.why f ≠ 0) : d.act f q does = (d.why f, d) := by unfold Dk.D.act; rw [if_pos h]
theorem act_ask {d : Dk.D} {f q : Int} {does : Dk.D → Dk.D} (h : d.why f = 0) (hq : q ≠ 0) : d.act f q does = (q, d) := by unfold Dk.D.act; rw [if_neg (by simp [h]), if_pos hq]
theorem act_ahead {d : Dk.D} {f : Int} {does : Dk.D → Dk.D} (h : d.why f = 0) (h0 : d.fuse = 0) (hb : d.behind = false) : d.act f 0 does = (12, { d with on := false }) := by
  unfold Dk.D.act; rw [if_neg (by simp [h]), if_neg (by simp), if_pos h0]
  have e : (if d.behind = true then does d else d) = d := by rw [hb]; rfl
  rw [e]
theorem act_behind {d : Dk.D} {f : Int} {does : Dk.D → Dk.D} (h : d.why f = 0) (h0 : d.fuse = 0) (hb : d.behind = true) : d.act f 0 does = (12, { does d with on := false }) := by
  unfold Dk.D.act; rw [if_neg (by simp [h]), if_neg (by simp), if_pos h0]
  have e : (if d.behind = true then does d else d) = does d := by rw [hb]; rfl
  rw [e]
theorem act_fuse {d : Dk.D} {f : Int} {does : Dk.D → Dk.D} (h : d.why f = 0) (h0 : 0 < d.fuse) : d.act f 0 does = (0, { does d with fuse := d.fuse - 1 }) := by
  unfold Dk.D.act; rw [if_neg (by simp [h]), if_neg (by simp), if_neg (by omega), if_pos h0]
theorem act_free {d : Dk.D} {f : Int} {does : Dk.D → Dk.D} (h : d.why f = 0) (h0 : d.fuse < 0) (hd : (does d).fuse = d.fuse) : d.act f 0 does = (0, does d) := by
  unfold Dk.D.act; rw [if_neg (by simp [h]), if_neg (by simp), if_neg (by omega), if_neg (by omega), ← hd]
theorem post_set {w w2 : World} {T : Nat → Prop} {b i : Nat} {d d' : Dk.D} {v : Value} (hs : w.heap.size ≤ w2.heap.size) (h : DskE w2 (More T w w2) b d) (hO : Own T w w2) (hx : ∀ n0 g0 n1 g1, (xD d n0 g0 n1 g1).setIfInBounds i v = xD d' n0 g0 n1 g1) (ha : d'.a = d.a) (hb : d'.b = d.b) (hf : d.Fine → d'.Fine) : DskE (w2.setCell ⟨b, i, none⟩ v) (More T w (w2.setCell ⟨b, i, none⟩ v)) b d' ∧ Own T w (w2.setCell ⟨b, i, none⟩ v) := by
  obtain ⟨n0, g0, n1, g1, h⟩ := h
  have h1 := h.set (d' := d') i v (hx _ _ _ _) ha hb (hf h.fine)
  have e : More T w (w2.setCell ⟨b, i, none⟩ v) = More T w w2 := by unfold More; rw [setCell_size]
  rw [e]
  refine ⟨⟨n0, g0, n1, g1, h1⟩, hO.trans (Own.set (T := More T w w2) h.tb w2 i v) (fun k hk => ?_)⟩
  rcases hk with hk | hk
  · exact .inl hk
  · exact .inr hk.1
set_option maxHeartbeats 4000000 in
set_option maxRecDepth 100000 in
theorem act_sync {w : World} {T : Nat → Prop} {b : Nat} {d : Dk.D} {n0 g0 n1 g1 : Value} (h : Dsk w T b d n0 g0 n1 g1) (f q : Int) (does : Dk.D → Dk.D) 
    (ha : d.why f = 0 → Asks 84 #[ptr b (fo f)] q w) (hd : d.why f = 0 → q = 0 → ∀ W, Below w.heap.size w W → Does 85 #[ptr b (fo f)] T b (does d) W) (hfu : (does d).fuse = d.fuse ∧ (does d).on = d.on ∧ (does d).behind = d.behind) :
    Calls Try.prog 79 #[ptr b 0, .int .i64 f, .func (.func 84) #[] #[], .func (.func 85) #[] #[]] w (ActPost w T b (d.act f q does)) := by
  by_cases hw : d.why f = 0
  · have hO := open_yes h f hw
    replace ha := ha hw
    replace hd := hd hw
    unfold Asks at ha
    have HD : Hid (q = 0 → ∀ W, Below w.heap.size w W → Does 85 #[ptr b (fo f)] T b (does d) W) := hd
    clear hd
    have HH : Hid (Dsk w T b d n0 g0 n1 g1) := h
    have HW : Hid (d.why f = 0) := hw
    clear h hw
    by_cases hq : q = 0
    · subst hq
      replace HD : Hid (∀ W, Below w.heap.size w W → Does 85 #[ptr b (fo f)] T b (does d) W) := HD.out rfl
      by_cases h0 : d.fuse = 0
      · cases hb : d.behind with
        | false =>
          rw [act_ahead HW.out h0 hb]
          unfold ActPost
          generalize fo f = o at *
          go_enter Try.func79, Try.ntmps79
          go_wp2_with (first
            | (go_at_call 55; refine hO.mono ?_; rintro e w2 ⟨rfl, he⟩; replace he := he.symm; subst he)
            | (go_at_call 84; refine ha.mono ?_; rintro e w1 ⟨rfl, hB1⟩; have D1 := HH.out.below hB1; have c10 : w1.cell? ⟨b, 10, none⟩ = some (.int .i64 0) := by { have := D1.dat.cell 10; rw [this]; show some (Value.int .i64 d.fuse) = _; rw [h0] }; have c11 : w1.cell? ⟨b, 11, none⟩ = some (.bool false) := by { have := D1.dat.cell 11; rw [this]; show some (Value.bool d.behind) = _; rw [hb] }; have c1 : w1.cell? ⟨b, 1, none⟩ = some (.bool d.on) := D1.dat.cell 1; have f1 := D1.dat.free 1; have HP : Hid (DskE (w1.setCell ⟨b, 1, none⟩ (.bool false)) (More T w (w1.setCell ⟨b, 1, none⟩ (.bool false))) b { d with on := false } ∧ Own T w (w1.setCell ⟨b, 1, none⟩ (.bool false))) := post_set hB1.size (DskE.more (w := w) ⟨_, _, _, _, D1⟩ w) (Own.of hB1) (fun _ _ _ _ => rfl) rfl rfl (fun hf => ⟨hf.a, hf.b, hf.room, hf.least, hf.root, hf.fuse⟩); clear D1))
          go_ret
          exact ⟨rfl, HP.out⟩
        | true =>
          rw [act_behind HW.out h0 hb]
          unfold ActPost
          generalize fo f = o at *
          go_enter Try.func79, Try.ntmps79
          go_wp2_with (first
            | (go_at_call 55; refine hO.mono ?_; rintro e w2 ⟨rfl, he⟩; replace he := he.symm; subst he)
            | (go_at_call 84; refine ha.mono ?_; rintro e w1 ⟨rfl, hB1⟩; have D1 := HH.out.below hB1; have c10 : w1.cell? ⟨b, 10, none⟩ = some (.int .i64 0) := by { have := D1.dat.cell 10; rw [this]; show some (Value.int .i64 d.fuse) = _; rw [h0] }; have c11 : w1.cell? ⟨b, 11, none⟩ = some (.bool true) := by { have := D1.dat.cell 11; rw [this]; show some (Value.bool d.behind) = _; rw [hb] }; have hdo := HD.out w1 hB1; unfold Does at hdo; clear D1)
            | (go_at_call 85; refine hdo.mono ?_; rintro e w2 ⟨rfl, hE2, hO2⟩; have hs2 := hB1.size; obtain ⟨m0, k0, m1, k1, D2⟩ := hE2; have c1 : w2.cell? ⟨b, 1, none⟩ = some (.bool (does d).on) := D2.dat.cell 1; have f1 := D2.dat.free 1; have HP : Hid (DskE (w2.setCell ⟨b, 1, none⟩ (.bool false)) (More T w (w2.setCell ⟨b, 1, none⟩ (.bool false))) b { does d with on := false } ∧ Own T w (w2.setCell ⟨b, 1, none⟩ (.bool false))) := post_set (Nat.le_trans hs2 hO2.size) (DskE.step (w1 := w1) ⟨_, _, _, _, D2⟩ hs2) ((Own.of hB1).trans hO2 (fun k hk => .inl hk)) (fun _ _ _ _ => rfl) rfl rfl (fun hf => ⟨hf.a, hf.b, hf.room, hf.least, hf.root, hf.fuse⟩); clear D2 hdo))
          go_ret
          exact ⟨rfl, HP.out⟩
      · by_cases h1 : 0 < d.fuse
        · rw [act_fuse HW.out h1]
          have hfr := HH.out.fine.fuse
          have hwr : IntKind.i64.wrap (d.fuse - 1) = d.fuse - 1 := w64 rfl (by omega) (by omega)
          have h0b : (d.fuse == 0) = false := by simpa using h0
          unfold ActPost
          generalize fo f = o at *
          go_enter Try.func79, Try.ntmps79
          go_wp2_with (first
            | (go_at_call 55; refine hO.mono ?_; rintro e w2 ⟨rfl, he⟩; replace he := he.symm; subst he)
            | (go_at_call 84; refine ha.mono ?_; rintro e w1 ⟨rfl, hB1⟩; have D1 := HH.out.below hB1; have c10 : w1.cell? ⟨b, 10, none⟩ = some (.int .i64 d.fuse) := D1.dat.cell 10; have hdo := HD.out w1 hB1; unfold Does at hdo; clear D1)
            | (go_at_call 85; refine hdo.mono ?_; rintro e w2 ⟨rfl, hE2, hO2⟩; have hs2 := hB1.size; obtain ⟨m0, k0, m1, k1, D2⟩ := hE2; have c12 : w2.cell? ⟨b, 10, none⟩ = some (.int .i64 d.fuse) := by { have := D2.dat.cell 10; rw [this]; show some (Value.int .i64 (does d).fuse) = _; rw [hfu.1] }; have f12 := D2.dat.free 10; have HP : Hid (DskE (w2.setCell ⟨b, 10, none⟩ (.int .i64 (d.fuse - 1))) (More T w (w2.setCell ⟨b, 10, none⟩ (.int .i64 (d.fuse - 1)))) b { does d with fuse := d.fuse - 1 } ∧ Own T w (w2.setCell ⟨b, 10, none⟩ (.int .i64 (d.fuse - 1)))) := post_set (Nat.le_trans hs2 hO2.size) (DskE.step (w1 := w1) ⟨_, _, _, _, D2⟩ hs2) ((Own.of hB1).trans hO2 (fun k hk => .inl hk)) (fun _ _ _ _ => rfl) rfl rfl (fun hf => ⟨hf.a, hf.b, hf.room, hf.least, hf.root, by show -9223372036854775808 ≤ d.fuse - 1 ∧ d.fuse - 1 ≤ 9223372036854775807; omega⟩); clear D2 hdo))
          go_ret
          exact ⟨rfl, HP.out⟩
        · rw [act_free HW.out (by omega) hfu.1]
          have h0b : (d.fuse == 0) = false := by simpa using h0
          unfold ActPost
          generalize fo f = o at *
          go_enter Try.func79, Try.ntmps79
          go_wp2_with (first
            | (go_at_call 55; refine hO.mono ?_; rintro e w2 ⟨rfl, he⟩; replace he := he.symm; subst he)
            | (go_at_call 84; refine ha.mono ?_; rintro e w1 ⟨rfl, hB1⟩; have D1 := HH.out.below hB1; have c10 : w1.cell? ⟨b, 10, none⟩ = some (.int .i64 d.fuse) := D1.dat.cell 10; have hdo := HD.out w1 hB1; unfold Does at hdo; clear D1)
            | (go_at_call 85; refine hdo.mono ?_; rintro e w2 ⟨rfl, hE2, hO2⟩; have hs2 := hB1.size; obtain ⟨m0, k0, m1, k1, D2⟩ := hE2; have c12 : w2.cell? ⟨b, 10, none⟩ = some (.int .i64 d.fuse) := by { have := D2.dat.cell 10; rw [this]; show some (Value.int .i64 (does d).fuse) = _; rw [hfu.1] }; have HP : Hid (DskE w2 (More T w w2) b (does d) ∧ Own T w w2) := ⟨DskE.step (w1 := w1) ⟨_, _, _, _, D2⟩ hs2, (Own.of hB1).trans hO2 (fun k hk => .inl hk)⟩; clear D2 hdo))
          go_ret
          exact ⟨rfl, HP.out⟩
    · rw [act_ask HW.out hq]
      have hqb : (q == 0) = false := by simpa using hq
      unfold ActPost
      generalize fo f = o at *
      go_enter Try.func79, Try.ntmps79
      go_wp2_with (first
        | (go_at_call 55; refine hO.mono ?_; rintro e w2 ⟨rfl, he⟩; replace he := he.symm; subst he)
        | (go_at_call 84; refine ha.mono ?_; rintro e w1 ⟨rfl, hB1⟩; have HP : Hid (DskE w1 (More T w w1) b d ∧ Own T w w1) := ⟨DskE.more (w := w) ⟨_, _, _, _, HH.out.below hB1⟩ w, Own.of hB1⟩))
      go_ret
      exact ⟨rfl, HP.out⟩
  · rw [act_why hw]
    have hO := open_no h f hw
    have HP : Hid (DskE w (More T w w) b d ∧ Own T w w) := ⟨DskE.more (w := w) ⟨_, _, _, _, h⟩ w, Own.refl _ _⟩
    clear h ha hd
    generalize d.why f = y at *
    have hyb : (y == 0) = false := by simpa using hw
    unfold ActPost
    go_enter Try.func79, Try.ntmps79
    go_wp2_with (go_at_call 55; refine hO.mono ?_; rintro e w2 ⟨rfl, he⟩; replace he := he.symm; subst he)
    go_ret
    exact ⟨rfl, HP.out⟩
end Go.Proofs.Ytcjbceidgaieaaa
