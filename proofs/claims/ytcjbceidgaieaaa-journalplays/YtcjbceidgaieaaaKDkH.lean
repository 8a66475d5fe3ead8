/- The contracts of what acts ask, and do. -/
import Derived.Test.YtcjbceidgaieaaaKDkG
import Derived.Deep.RegionWith
set_option linter.unusedVariables false
set_option linter.unusedSimpArgs false
namespace Go.Proofs.Ytcjbceidgaieaaa
open Go.RowKit
abbrev ptr (b o : Nat) : Value := .pointer (some ⟨b, o, none⟩)
/-- What an act asks. -/
def Asks (fn : Nat) (args : Array Value) (q : Int) (W : World) : Prop := Calls Try.prog fn args W fun e w' => e = .returned (.int .i64 q) ∧ Below W.heap.size W w'
/-- What an act does. -/
def Does (fn : Nat) (args : Array Value) (T : Nat → Prop) (b : Nat) (d : Dk.D) (W : World) : Prop := Calls Try.prog fn args W fun e w' => e = .returned (.tuple #[]) ∧ DskE w' (More T W w') b d ∧ Own T W w'
set_option maxHeartbeats 2000000 in
set_option maxRecDepth 100000 in
theorem sync_asks (v : Value) (W : World) : Asks 84 #[v] 0 W := by
  unfold Asks
  go_enter Try.func84, Try.ntmps84
  go_wp2
  go_ret
  exact ⟨rfl, Below.refl _ _⟩
set_option maxHeartbeats 2000000 in
set_option maxRecDepth 100000 in
theorem switch_asks (v : Value) (W : World) : Asks 80 #[v] 0 W := by
  unfold Asks
  go_enter Try.func80, Try.ntmps80
  go_wp2
  go_ret
  exact ⟨rfl, Below.refl _ _⟩
set_option maxHeartbeats 2000000 in
set_option maxRecDepth 100000 in
theorem sync_does {W : World} {T : Nat → Prop} {b : Nat} {d : Dk.D} {n0 g0 n1 g1 : Value} (h : Dsk W T b d n0 g0 n1 g1) (f : Int) (hf : f = 0 ∨ f = 1) : Does 85 #[ptr b (fo f)] T b (d.put f (d.at f).settle) W := by
  unfold Does
  have hS := settle_any (h.ctf hf) (h.fine.at f).now
  have HF : Hid _ := fun (w' : World) hp => h.liftf hf (w' := w') hp (h.fine.at f).settle
  clear h hf
  generalize fo f = o at *
  go_enter Try.func85, Try.ntmps85
  go_wp2_with (go_at_call 75; refine hS.mono ?_; rintro e w2 ⟨rfl, hp⟩)
  go_end0
  exact ⟨rfl, HF.out w2 hp⟩
set_option maxHeartbeats 2000000 in
set_option maxRecDepth 100000 in
theorem trunc_asks {W : World} {T : Nat → Prop} {b : Nat} {d : Dk.D} {n0 g0 n1 g1 : Value} (h : Dsk W T b d n0 g0 n1 g1) (f : Int) (hf : f = 0 ∨ f = 1) (n : Int) (sb : Nat) (hs : W.cell? ⟨sb, 0, none⟩ = some (.int .i64 n)) : Asks 86 #[ptr b (fo f), ptr sb 0] (if n < 0 ∨ ((d.at f).now.length : Int) < n then 1 else 0) W := by
  unfold Asks
  have c0 := (h.ctf hf).c0
  obtain ⟨a, cp, e⟩ := (h.ctf hf).n.form
  rw [e] at c0
  clear e h hf
  generalize fo f = o at *
  generalize (d.at f).now.length = len at *
  by_cases h1 : n < 0
  · rw [if_pos (.inl h1)]
    have hd : decide (n < 0) = true := decide_eq_true h1
    go_enter Try.func86, Try.ntmps86
    go_wp2
    go_quiet (fail)
    go_wp2
    go_ret
    exact ⟨rfl, below_drewN (Below.refl _ _) _⟩
  · have hd : decide (n < 0) = false := decide_eq_false h1
    by_cases h2 : (len : Int) < n
    · rw [if_pos (.inr h2)]
      have hd2 : decide ((len : Int) < n) = true := decide_eq_true h2
      go_enter Try.func86, Try.ntmps86
      go_wp2
      go_quiet (fail)
      go_wp2
      go_ret
      exact ⟨rfl, below_drewN (Below.refl _ _) _⟩
    · rw [if_neg (by omega)]
      have hd2 : decide ((len : Int) < n) = false := decide_eq_false h2
      go_enter Try.func86, Try.ntmps86
      go_wp2
      go_quiet (fail)
      go_wp2
      go_ret
      exact ⟨rfl, below_drewN (Below.refl _ _) _⟩
set_option maxHeartbeats 2000000 in
set_option maxRecDepth 100000 in
theorem trunc_does {W : World} {T : Nat → Prop} {b : Nat} {d : Dk.D} {n0 g0 n1 g1 : Value} (h : Dsk W T b d n0 g0 n1 g1) (f : Int) (hf : f = 0 ∨ f = 1) (n : Int) (h0 : 0 ≤ n) (hn : n ≤ (d.at f).now.length) (sb : Nat) (hs : W.cell? ⟨sb, 0, none⟩ = some (.int .i64 n)) : Does 87 #[ptr b (fo f), ptr sb 0] T b (d.put f ((d.at f).trunc n.toNat)) W := by
  unfold Does
  obtain ⟨m, rfl⟩ : ∃ m : Nat, n = (m : Int) := ⟨n.toNat, by omega⟩
  have hS := truncate_any (h.ctf hf) (h.fine.at f) m (by omega)
  have HF : Hid (∀ w', CtPost W b (fo f) (xD d n0 g0 n1 g1) (nOf f n0 n1) (nOf f g0 g1) ((d.at f).trunc m) w' → DskE w' (More T W w') b (d.put f ((d.at f).trunc m)) ∧ Own T W w') := fun w' hp => h.liftf hf hp ((h.fine.at f).trunc m)
  clear h hf h0 hn
  simp only [Int.toNat_natCast]
  generalize fo f = o at *
  go_enter Try.func87, Try.ntmps87
  go_wp2_with (go_at_call 88; refine hS.mono ?_; rintro e w2 ⟨rfl, hp⟩)
  go_end0
  exact ⟨rfl, HF.out w2 hp⟩
set_option maxHeartbeats 2000000 in
set_option maxRecDepth 100000 in
theorem switch_does {W : World} {T : Nat → Prop} {b : Nat} {d : Dk.D} {n0 g0 n1 g1 : Value} (h : Dsk W T b d n0 g0 n1 g1) (f : Int) (hf : f = 0 ∨ f = 1) (v : Value) (fb db : Nat) (hfb : W.cell? ⟨fb, 0, none⟩ = some (.int .i64 f)) (hdb : W.cell? ⟨db, 0, none⟩ = some (ptr b 0)) : Does 81 #[v, ptr fb 0, ptr db 0] T b { d with root := f } W := by
  unfold Does
  have c3 : W.cell? ⟨b, 3, none⟩ = some (.int .i64 d.root) := h.dat.cell 3
  have f3 := h.dat.free 3
  have h1 := h.set (d' := { d with root := f }) 3 (.int .i64 f) rfl rfl rfl ⟨h.fine.a, h.fine.b, h.fine.room, h.fine.least, hf, h.fine.fuse⟩
  have HO : Hid (Own T W (W.setCell ⟨b, 3, none⟩ (.int .i64 f))) := Own.set h.tb W 3 _
  have H2 : Hid (DskE (W.setCell ⟨b, 3, none⟩ (.int .i64 f)) (More T W (W.setCell ⟨b, 3, none⟩ (.int .i64 f))) b { d with root := f }) := DskE.more (w := W) ⟨_, _, _, _, h1⟩ W
  clear h h1 hf
  go_enter Try.func81, Try.ntmps81
  go_wp2
  go_end0
  exact ⟨rfl, H2.out, HO.out⟩
set_option maxHeartbeats 2000000 in
set_option maxRecDepth 100000 in
theorem append_asks {W : World} {T : Nat → Prop} {b : Nat} {d : Dk.D} {n0 g0 n1 g1 : Value} (h : Dsk W T b d n0 g0 n1 g1) (v : Value) (y : Value) (l : List UInt8) (hy : RB W y l) (hl : l.length ≤ 9223372036854775807) (bb db : Nat) (hbb : W.cell? ⟨bb, 0, none⟩ = some y) (hdb : W.cell? ⟨db, 0, none⟩ = some (ptr b 0)) : Asks 82 #[v, ptr bb 0, ptr db 0] (if d.left < l.length then 11 else 0) W := by
  unfold Asks
  obtain ⟨a, cp, rfl⟩ := hy.form
  have C : ∀ W', Below W.heap.size W W' → Calls Try.prog 43 #[ptr b 0] W' fun e w' => e = .returned (.int .i64 d.left) ∧ Below W'.heap.size W' w' := fun W' hB => Left_yes (h.below hB)
  have HC : Hid (∀ W', Below W.heap.size W W' → Calls Try.prog 43 #[ptr b 0] W' fun e w' => e = .returned (.int .i64 d.left) ∧ Below W'.heap.size W' w') := C
  clear C h hy
  have hbl := cell_lt hbb
  generalize d.left = left at *
  by_cases h1 : left < (l.length : Int)
  · rw [if_pos h1]
    go_enter Try.func82, Try.ntmps82
    go_wp2
    go_region_with (go_at_call 43; refine (HC.out _ ((Below.refl _ _).drew)).mono ?_; rintro e w2 ⟨rfl, hB2⟩; have hc2 : w2.cell? ⟨bb, 0, none⟩ = some (.slice a l.length cp) := (hB2.cell (p := ⟨bb, 0, none⟩) hbl).trans hbb)
    all_goals (
      go_wp2
      go_ret
      exact ⟨rfl, bel ((Below.refl _ _).drew) hB2⟩)
  · rw [if_neg h1]
    go_enter Try.func82, Try.ntmps82
    go_wp2
    go_region_with (go_at_call 43; refine (HC.out _ ((Below.refl _ _).drew)).mono ?_; rintro e w2 ⟨rfl, hB2⟩; have hc2 : w2.cell? ⟨bb, 0, none⟩ = some (.slice a l.length cp) := (hB2.cell (p := ⟨bb, 0, none⟩) hbl).trans hbb)
    all_goals (
      go_wp2
      go_ret
      exact ⟨rfl, bel ((Below.refl _ _).drew) hB2⟩)
set_option maxHeartbeats 2000000 in
set_option maxRecDepth 100000 in
theorem append_does {W : World} {T : Nat → Prop} {b : Nat} {d : Dk.D} {n0 g0 n1 g1 : Value} (h : Dsk W T b d n0 g0 n1 g1) (f : Int) (hf : f = 0 ∨ f = 1) (y : Value) (l : List UInt8) (hy : RB W y l) (hl : (d.at f).now.length + l.length ≤ 1048576) (bb : Nat) (hbb : W.cell? ⟨bb, 0, none⟩ = some y) : Does 83 #[ptr b (fo f), ptr bb 0] T b (d.put f ((d.at f).app l)) W := by
  unfold Does
  have hC := h.ctf hf
  have hfa := h.fine.at f
  have HF : Hid (∀ w', CtPost W b (fo f) (xD d n0 g0 n1 g1) (nOf f n0 n1) (nOf f g0 g1) ((d.at f).app l) w' → DskE w' (More T W w') b (d.put f ((d.at f).app l)) ∧ Own T W w') := fun w' hp => h.liftf hf hp ⟨by have := hfa.whole; simp [Dk.Cn.app]; omega, by simp [Dk.Cn.app]; omega, hfa.gone⟩
  have hyd : RB W.drew y l := hy.keep (fun _ _ _ => rfl)
  obtain ⟨ya, yc, rfl⟩ := hy.form
  clear h hf hfa
  generalize nOf f n0 n1 = nv at *
  generalize nOf f g0 g1 = gv at *
  generalize fo f = o at *
  obtain ⟨a, cp, rfl⟩ := hC.n.form
  have c0 := hC.c0
  have HC : Hid (Ct W.drew b o (xD d n0 g0 n1 g1) (d.at f) (.slice a (d.at f).now.length cp) gv) := hC.heap rfl
  have hN : OwnsBytes W.drew 0 (.slice a (d.at f).now.length cp) (d.at f).now := own_drew hC.n
  clear hC
  have hl2 : (d.at f).now.length + l.length ≤ 1000000000 := by omega
  have HA : Hid ((d.at f).app l = ⟨(d.at f).now ++ l, (d.at f).whole, (d.at f).gone⟩) := rfl
  go_enter Try.func83, Try.ntmps83
  go_wp2
  go_region_law (refine step_append_RB rfl (.tmp 7) (.tmp 8) rfl _ _ rfl hN _ _ rfl hyd hl2 ?_; intro v' w' h1 h2 h3; obtain ⟨hN', hON, hKN, hc2, hf2⟩ := HC.out.grown rfl h2 h3 h1; obtain ⟨a', cp', rfl⟩ := h1.form1)
  all_goals (
    generalize w'.setCell ⟨b, o, none⟩ _ = wn at *
    go_wp2
    go_end0
    refine ⟨rfl, HF.out _ ?_⟩
    rw [HA.out]
    exact ⟨_, _, hN', (Own.of ((Below.refl _ _).drew)).trans hON (fun k hk => .inl hk), fun k hk => hKN k hk⟩)
end Go.Proofs.Ytcjbceidgaieaaa
