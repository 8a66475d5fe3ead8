/- What comes in; values beside a disk; what a disk does, further mathematics. -/
import Derived.Test.YtnnlmnjbmbflpaaDkN
set_option linter.unusedVariables false
set_option linter.unusedSimpArgs false
namespace Go.Proofs.Ytnnlmnjbmbflpaa
open Go.RowKit
/-- Bytes that came in. -/
def ArgB (w : World) (v : Value) (l : List UInt8) : Prop := RB w v l ∧ l.length ≤ maxLen
/-- A script that came in. -/
def ArgA (w : World) (v : Value) (as9 : List Ac) : Prop := RAs w v as9 ∧ as9.length ≤ maxLen
/-- A slice of the law's own, beside the disk's. -/
def Out (T : Nat → Prop) (W : World) (v : Value) : Prop := ∀ k, v.ownBlock = some k → ¬ T k ∧ k < W.heap.size
theorem Out.own {T : Nat → Prop} {W W' : World} {v : Value} (h : Out T W v) (hO : Own T W W') : Out (More T W W') W' v := fun k e => ⟨fun hx => by
  rcases hx with hx | hx
  · exact (h k e).1 hx
  · have := (h k e).2
    omega, Nat.lt_of_lt_of_le (h k e).2 hO.size⟩
theorem Out.below {T : Nat → Prop} {W W' : World} {v : Value} (h : Out T W v) (hs : W.heap.size ≤ W'.heap.size) : Out T W' v := fun k e => ⟨(h k e).1, Nat.lt_of_lt_of_le (h k e).2 hs⟩
theorem OwnsBytes.own {T : Nat → Prop} {B : Nat} {W W' : World} {v : Value} {l : List UInt8} (h : OwnsBytes W B v l) (ho : Out T W v) (hO : Own T W W') : OwnsBytes W' B v l := h.keep (fun k e hk => hO.block k hk (ho k e).1)
theorem RB.own {T : Nat → Prop} {W W' : World} {v : Value} {l : List UInt8} (h : RB W v l) (ho : Out T W v) (hO : Own T W W') : RB W' v l := h.keep (fun k e hk => hO.block k hk (ho k e).1)
/-- What was just made lies beside the disk. -/
theorem out_new {T : Nat → Prop} {W W' : World} {v : Value} {l : List UInt8} (h : OwnsBytes W' W.heap.size v l) (hl : ∀ k, T k → k < W.heap.size) : Out T W' v := fun k e => ⟨fun hx => by have := hl k hx; have := (h.lt e).1; omega, (h.lt e).2⟩
/-- A byte beside the disk is written. -/
theorem Lt.set {w0 W : World} {T : Nat → Prop} {b g i : Nat} {d : Dk.D} {v : Value} (h : Lt w0 T b d W) (hg : ¬ T g) (hb : w0.heap.size ≤ g) : Lt w0 T b d (W.setCell ⟨g, i, none⟩ v) := by
  obtain ⟨n0, g0, n1, g1, hD⟩ := h.dsk
  refine ⟨⟨n0, g0, n1, g1, hD.keep (by rw [setCell_size]; exact Nat.le_refl _) (fun k _ hk => Below.heap_setCell _ _ _ _ (fun e => hg (by have e2 : k = g := e; rw [← e2]; exact hk)))⟩, h.base, h.bel.setCell hb _⟩
theorem u8_up (x : UInt8) : IntKind.u8.wrap ((x.toNat : Int) + 1) = (((x + 1 : UInt8)).toNat : Int) := by
  rw [IntKind.wrap_u8, UInt8.toNat_add]
  simp
theorem Lt.low {w0 W : World} {T : Nat → Prop} {b : Nat} {d : Dk.D} (h : Lt w0 T b d W) : ∀ k, T k → k < W.heap.size := h.dsk.low
theorem Lt.fine {w0 W : World} {T : Nat → Prop} {b : Nat} {d : Dk.D} (h : Lt w0 T b d W) : d.Fine := by
  obtain ⟨_, _, _, _, hD⟩ := h.dsk
  exact hD.fine
theorem Lt.doesP {w0 W : World} {T : Nat → Prop} {b : Nat} {d : Dk.D} (h : Lt w0 T b d W) (a : Ac) (hA : AcOK W a) {r : Int × Dk.D} (e : Hid (d.doo a = r)) : Calls Try.prog 14 #[ptr b 0, aV a] W (fun e w' => e = .returned (.int .i64 r.1) ∧ Lt w0 (More T W w') b r.2 w' ∧ Own T W w') := by
  cases r
  exact h.does a hA e.out
namespace Dk
/-- A disk without a fuse, with power. -/
structure D.Calm (d : D) : Prop where
  on : d.on = true
  fuse : d.fuse = -1
theorem act_calm {d : D} (h : d.Calm) (f q : Int) (does : D → D) (hd : (does d).fuse = -1) : d.act f q does = if f < 0 ∨ 2 ≤ f then (1, d) else if q ≠ 0 then (q, d) else (0, does d) := by
  unfold D.act D.why
  rw [h.on, h.fuse]
  by_cases h1 : f < 0 ∨ 2 ≤ f
  · rw [if_pos h1]
    simp [h1]
  · rw [if_neg h1]
    by_cases h2 : q = 0
    · subst h2
      simp [h1]
      rw [← hd]
    · simp [h1, h2]
theorem put_fuse (d : D) (f : Int) (c : Cn) : (d.put f c).fuse = d.fuse := by unfold D.put; split <;> rfl
theorem put_on (d : D) (f : Int) (c : Cn) : (d.put f c).on = d.on := by unfold D.put; split <;> rfl
theorem put_room (d : D) (f : Int) (c : Cn) : (d.put f c).room = d.room := by unfold D.put; split <;> rfl
theorem put_root (d : D) (f : Int) (c : Cn) : (d.put f c).root = d.root := by unfold D.put; split <;> rfl
theorem append_calm {d : D} (h : d.Calm) (f : Int) (l : List UInt8) : d.append f l = if f < 0 ∨ 2 ≤ f then (1, d) else if d.left < l.length then (11, d) else (0, d.put f ((d.at f).app l)) := by
  unfold D.append
  rw [act_calm h _ _ _ (by rw [put_fuse]; exact h.fuse)]
  by_cases h1 : d.left < l.length
  · rw [if_pos h1, if_pos h1]; simp
  · rw [if_neg h1, if_neg h1]; simp
theorem sync_calm {d : D} (h : d.Calm) (f : Int) : d.sync f = if f < 0 ∨ 2 ≤ f then (1, d) else (0, d.put f (d.at f).settle) := by
  unfold D.sync
  rw [act_calm h _ _ _ (by rw [put_fuse]; exact h.fuse)]
  simp
theorem trunc_calm {d : D} (h : d.Calm) (f n : Int) : d.trunc f n = if f < 0 ∨ 2 ≤ f then (1, d) else if n < 0 ∨ ((d.at f).now.length : Int) < n then (1, d) else (0, d.put f ((d.at f).trunc n.toNat)) := by
  unfold D.trunc
  rw [act_calm h _ _ _ (by rw [put_fuse]; exact h.fuse)]
  by_cases h1 : n < 0 ∨ ((d.at f).now.length : Int) < n
  · rw [if_pos h1, if_pos h1]; simp
  · rw [if_neg h1, if_neg h1]; simp
theorem switch_calm {d : D} (h : d.Calm) (f : Int) : d.switch f = if f < 0 ∨ 2 ≤ f then (1, d) else (0, { d with root := f }) := by
  unfold D.switch
  rw [act_calm h _ _ _ (by exact h.fuse)]
  simp
theorem calm_put {d : D} (h : d.Calm) (f : Int) (c : Cn) : (d.put f c).Calm := ⟨by rw [put_on]; exact h.on, by rw [put_fuse]; exact h.fuse⟩
end Dk
/-- A script's act that arms nothing, lets no power go off and starts nothing. -/
def Plain (a : Ac) : Prop := a.kind % 8 < 4 ∨ a.kind % 8 = 7
theorem calm_doo {d : Dk.D} (h : d.Calm) (a : Ac) (hp : Plain a) : (d.doo a).2.Calm := by
  unfold Dk.D.doo
  have : a.kind % 8 ≠ 4 ∧ a.kind % 8 ≠ 5 ∧ a.kind % 8 ≠ 6 := by unfold Plain at hp; omega
  split
  · rw [Dk.sync_calm h]; split; exact h; exact Dk.calm_put h _ _
  · split
    · rw [Dk.trunc_calm h]; split; exact h; split; exact h; exact Dk.calm_put h _ _
    · split
      · rw [Dk.switch_calm h]; split; exact h; exact ⟨h.on, h.fuse⟩
      · rw [if_neg this.1, if_neg this.2.1, if_neg this.2.2, Dk.append_calm h]
        split; exact h; split; exact h; exact Dk.calm_put h _ _
/-- Acts on file 0 leave file 1. -/
theorem other_doo {d : Dk.D} (h : d.Calm) (a : Ac) (hp : Plain a) (h0 : a.file = 0) : (d.doo a).2.b = d.b := by
  unfold Dk.D.doo
  have : a.kind % 8 ≠ 4 ∧ a.kind % 8 ≠ 5 ∧ a.kind % 8 ≠ 6 := by unfold Plain at hp; omega
  rw [h0]
  split
  · rw [Dk.sync_calm h]; split <;> rfl
  · split
    · rw [Dk.trunc_calm h]; split; rfl; split <;> rfl
    · split
      · rw [Dk.switch_calm h]; split <;> rfl
      · rw [if_neg this.1, if_neg this.2.1, if_neg this.2.2, Dk.append_calm h]
        split; rfl; split <;> rfl
end Go.Proofs.Ytnnlmnjbmbflpaa
