/- The contracts of the document's Switch and Sync. -/
import Derived.Test.YtcjbceidgaieaaaKDkS
set_option linter.unusedVariables false
set_option linter.unusedSimpArgs false
namespace Go.Proofs.Ytcjbceidgaieaaa
open Go.RowKit
theorem burnt_same (d : Dk.D) : d.burnt.a = d.a ∧ d.burnt.b = d.b ∧ d.burnt.root = d.root ∧ d.burnt.room = d.room ∧ d.burnt.behind = d.behind := by unfold Dk.D.burnt; split <;> exact ⟨rfl, rfl, rfl, rfl, rfl⟩
theorem at_burnt (d : Dk.D) (f : Int) : d.burnt.at f = d.at f := by unfold Dk.D.at; rw [(burnt_same d).1, (burnt_same d).2.1]
set_option maxHeartbeats 2000000 in
set_option maxRecDepth 100000 in
theorem RSwitch_any {W : World} {P : Nat → Prop} {rb : Nat} {d : Dk.D} (h : RE W P rb d) (f : Int) :
    Calls Try.prog 69 #[ptr rb 0, .int .i64 f] W (RPost W P rb (d.switch f)) := by
  obtain ⟨fv, b0, s0, b1, s1, h⟩ := h
  have hA := Rask_any h f
  by_cases hw : d.why f = 0
  · have hB := Rburns_any h (Dk.D.why_file hw).2
    have HF := hide9 (Dk.D.why_file hw).1
    have HD : Hid (d.switch f = (d.burns.2, if d.burns.1 = true then { d.burnt with root := f } else d.burnt)) := act_burn hw (fun _ => rfl) ⟨rfl, rfl⟩
    rw [HD.out]
    rw [hw] at hA
    clear h hw
    unfold RPost
    generalize d.burns.2 = q at *
    generalize d.burnt = e at *
    cases hb : d.burns.1 with
    | true =>
      rw [hb] at hB
      simp only [if_true]
      go_enter Try.func69, Try.ntmps69
      go_wp2_with (first
        | (go_at_call 71; refine hA.mono ?_; rintro e w2 ⟨rfl, he⟩; replace he := he.symm; subst he)
        | (go_at_call 72; refine hB.mono ?_; rintro e1 w3 ⟨rfl, ⟨fv', h3⟩, hO3⟩; have c6 : w3.cell? ⟨rb, 6, none⟩ = some (.int .i64 e.root) := h3.cell 6; have f6 := h3.free 6; have HE : Hid (RE (w3.setCell ⟨rb, 6, none⟩ (.int .i64 f)) P rb { e with root := f } ∧ Own (fun k => k = rb) W (w3.setCell ⟨rb, 6, none⟩ (.int .i64 f))) := ⟨⟨_, _, _, _, _, h3.set (d' := { e with root := f }) (fv' := fv') 6 (.int .i64 f) rfl rfl rfl ⟨h3.fine.a, h3.fine.b, h3.fine.room, h3.fine.least, HF.out, h3.fine.fuse⟩ h3.fz h3.fb⟩, hO3.trans (Own.set (T := fun k => k = rb) rfl w3 6 _) (fun k hk => .inl hk)⟩; clear h3 hO3))
      go_ret
      exact ⟨rfl, HE.out⟩
    | false =>
      rw [hb] at hB
      simp only [Bool.false_eq_true, if_false]
      go_enter Try.func69, Try.ntmps69
      go_wp2_with (first
        | (go_at_call 71; refine hA.mono ?_; rintro e w2 ⟨rfl, he⟩; replace he := he.symm; subst he)
        | (go_at_call 72; refine hB.mono ?_; rintro e1 w3 ⟨rfl, ⟨fv', h3⟩, hO3⟩; have HE : Hid (RE w3 P rb e ∧ Own (fun k => k = rb) W w3) := ⟨⟨_, _, _, _, _, h3⟩, hO3⟩; clear h3 hO3))
      go_ret
      exact ⟨rfl, HE.out⟩
  · have HE : Hid (RPost W P rb (d.switch f) (.returned (.int .i64 (d.why f))) W) := by
      show RPost _ _ _ _ _ _
      unfold Dk.D.switch
      rw [act_why hw]
      exact ⟨rfl, ⟨_, _, _, _, _, h⟩, Own.refl _ _⟩
    have hyb : (d.why f == 0) = false := by simpa using hw
    clear h
    generalize d.why f = y at *
    go_enter Try.func69, Try.ntmps69
    go_wp2_with (go_at_call 71; refine hA.mono ?_; rintro e w2 ⟨rfl, he⟩; replace he := he.symm; subst he)
    go_ret
    exact HE.out
theorem settle_cut (c : Dk.Cn) : c.settle.cutv = -1 := rfl
/-- A file of the document's disk is sure. -/
theorem RAt.settle0 {W : World} {P : Nat → Prop} {rb : Nat} {d : Dk.D} {fv : Int} {b0 s0 b1 s1 : Value} (h : RAt W P rb d fv b0 s0 b1 s1) : RAt ((W.setCell ⟨rb, 1, none⟩ b0).setCell ⟨rb, 2, none⟩ (.int .i64 (-1))) P rb { d with a := d.a.settle } fv b0 b0 b1 s1 := by
  have hk : ∀ k, k < W.heap.size → P k → k ≠ rb → ((W.setCell ⟨rb, 1, none⟩ b0).setCell ⟨rb, 2, none⟩ (.int .i64 (-1))).heap[k]? = W.heap[k]? := fun k _ _ hk => (Below.heap_setCell _ _ _ _ hk).trans (Below.heap_setCell _ _ _ _ hk)
  have hs : W.heap.size ≤ ((W.setCell ⟨rb, 1, none⟩ b0).setCell ⟨rb, 2, none⟩ (.int .i64 (-1))).heap.size := by rw [setCell_size, setCell_size]; exact Nat.le_refl _
  refine ⟨heap_set (heap_set h.blk b0) _, h.q0.keep hs hk, ?_, h.q2.keep hs hk, h.q3.keep hs hk, ⟨h.fine.a.settle, h.fine.b, h.fine.room, h.fine.least, h.fine.root, h.fine.fuse⟩, h.fz, h.fb⟩
  rw [show ({ d with a := d.a.settle } : Dk.D).a.sure = d.a.now from Dk.sure_settle _]
  exact h.q0.keep hs hk
theorem RAt.settle1 {W : World} {P : Nat → Prop} {rb : Nat} {d : Dk.D} {fv : Int} {b0 s0 b1 s1 : Value} (h : RAt W P rb d fv b0 s0 b1 s1) : RAt ((W.setCell ⟨rb, 4, none⟩ b1).setCell ⟨rb, 5, none⟩ (.int .i64 (-1))) P rb { d with b := d.b.settle } fv b0 s0 b1 b1 := by
  have hk : ∀ k, k < W.heap.size → P k → k ≠ rb → ((W.setCell ⟨rb, 4, none⟩ b1).setCell ⟨rb, 5, none⟩ (.int .i64 (-1))).heap[k]? = W.heap[k]? := fun k _ _ hk => (Below.heap_setCell _ _ _ _ hk).trans (Below.heap_setCell _ _ _ _ hk)
  have hs : W.heap.size ≤ ((W.setCell ⟨rb, 4, none⟩ b1).setCell ⟨rb, 5, none⟩ (.int .i64 (-1))).heap.size := by rw [setCell_size, setCell_size]; exact Nat.le_refl _
  refine ⟨heap_set (heap_set h.blk b1) _, h.q0.keep hs hk, h.q1.keep hs hk, h.q2.keep hs hk, ?_, ⟨h.fine.a, h.fine.b.settle, h.fine.room, h.fine.least, h.fine.root, h.fine.fuse⟩, h.fz, h.fb⟩
  rw [show ({ d with b := d.b.settle } : Dk.D).b.sure = d.b.now from Dk.sure_settle _]
  exact h.q2.keep hs hk
end Go.Proofs.Ytcjbceidgaieaaa
