/- The contracts of New, Root, Read, Arm, Fail. -/
import Derived.Test.YtnnlmnjbmbflpaaDkA
set_option linter.unusedVariables false
set_option linter.unusedSimpArgs false
namespace Go.Proofs.Ytnnlmnjbmbflpaa
open Go.RowKit
theorem heap_set {w : World} {b i : Nat} {X : Array Value} {t : TypeId} (h : w.heap[b]? = some (.cells X t (0, 0))) (v : Value) : (w.setCell ⟨b, i, none⟩ v).heap[b]? = some (.cells (X.setIfInBounds i v) t (0, 0)) := heap_setCell_same w b i X t v h
theorem Own.set {T : Nat → Prop} {b : Nat} (hb : T b) (w : World) (i : Nat) (v : Value) : Own T w (w.setCell ⟨b, i, none⟩ v) := by
  have h := (Below.refl 0 w).setCell (p := ⟨b, i, none⟩) (Nat.zero_le _) v
  exact ⟨h.os, h.tape, h.output, h.size, fun k _ hk => Below.heap_setCell _ _ _ _ (fun e => hk (by rw [e]; exact hb))⟩
/-- A cell of the disk's own that holds no slice is written. -/
theorem DAt.set {w : World} {b : Nat} {d d' : Dk.D} {n0 g0 n1 g1 : Value} (h : DAt w b d n0 g0 n1 g1) (i : Nat) (v : Value) (hx : (xD d n0 g0 n1 g1).setIfInBounds i v = xD d' n0 g0 n1 g1) (ha : d'.a = d.a) (hb : d'.b = d.b) : DAt (w.setCell ⟨b, i, none⟩ v) b d' n0 g0 n1 g1 := by
  have hk : ∀ k, k ≠ b → (w.setCell ⟨b, i, none⟩ v).heap[k]? = w.heap[k]? := fun k hk => Below.heap_setCell _ _ _ _ hk
  refine ⟨by rw [← hx]; exact heap_set h.blk v, ?_, ?_, ?_, ?_, h.a1, h.a2, h.a3, h.a4, h.a5, h.a6, h.b0, h.b1, h.b2, h.b3⟩
  · rw [ha]; exact h.o0.keep (fun k e _ => hk k (fun e2 => h.b0 (by rw [e, e2])))
  · rw [ha]; exact h.q0.keep (fun k e _ => hk k (fun e2 => h.b1 (by rw [e, e2])))
  · rw [hb]; exact h.o1.keep (fun k e _ => hk k (fun e2 => h.b2 (by rw [e, e2])))
  · rw [hb]; exact h.q1.keep (fun k e _ => hk k (fun e2 => h.b3 (by rw [e, e2])))
theorem setCell_size (w : World) (a : Addr) (v : Value) : (w.setCell a v).heap.size = w.heap.size := by simp [World.setCell]
theorem Dsk.set {w : World} {T : Nat → Prop} {b : Nat} {d d' : Dk.D} {n0 g0 n1 g1 : Value} (h : Dsk w T b d n0 g0 n1 g1) (i : Nat) (v : Value) (hx : (xD d n0 g0 n1 g1).setIfInBounds i v = xD d' n0 g0 n1 g1) (ha : d'.a = d.a) (hb : d'.b = d.b) (hf : d'.Fine) : Dsk (w.setCell ⟨b, i, none⟩ v) T b d' n0 g0 n1 g1 :=
  ⟨h.dat.set i v hx ha hb, hf, h.tb, h.t0, h.t1, h.t2, h.t3, fun k hk => by rw [setCell_size]; exact h.low k hk⟩
set_option maxHeartbeats 2000000 in
set_option maxRecDepth 100000 in
theorem Root_no {w : World} {v : Value} (h : Made w v false) :
    Calls Try.prog 19 #[v] w fun e w' => e = .returned (.tuple #[.int .i64 0, .int .i64 2]) ∧ w' = w := by
  have H := ready_no h
  go_enter Try.func19, Try.ntmps19
  go_wp2_with (go_at_call 53; refine H.mono ?_; rintro e w2 ⟨rfl, he⟩; replace he := he.symm; subst he)
  go_ret2
  exact ⟨rfl, rfl⟩
set_option maxHeartbeats 2000000 in
set_option maxRecDepth 100000 in
theorem Root_yes {w : World} {T : Nat → Prop} {b : Nat} {d : Dk.D} {n0 g0 n1 g1 : Value} (h : Dsk w T b d n0 g0 n1 g1) :
    Calls Try.prog 19 #[.pointer (some ⟨b, 0, none⟩)] w fun e w' => e = .returned (.tuple #[.int .i64 (if d.on = true then d.root else 0), .int .i64 (if d.on = true then 0 else 12)]) ∧ w' = w := by
  have H := ready_yes h
  have c3 : w.cell? ⟨b, 3, none⟩ = some (.int .i64 d.root) := h.dat.cell 3
  clear h
  obtain ⟨on, room, root, a, bb, fuse, behind⟩ := d
  cases on
  · simp only [Bool.false_eq_true, if_false] at H ⊢
    go_enter Try.func19, Try.ntmps19
    go_wp2_with (go_at_call 53; refine H.mono ?_; rintro e w2 ⟨rfl, he⟩; replace he := he.symm; subst he)
    go_ret2
    exact ⟨rfl, rfl⟩
  · simp only [if_true] at H ⊢
    go_enter Try.func19, Try.ntmps19
    go_wp2_with (go_at_call 53; refine H.mono ?_; rintro e w2 ⟨rfl, he⟩; replace he := he.symm; subst he)
    go_ret2
    exact ⟨rfl, rfl⟩
theorem is_nil (w : World) (a : Option Addr) (n c : Nat) : (binOp .eql 27 (.slice a n c) (.slice none 0 0)).run Try.prog w = .ok (.bool a.isNone) w := by
  simp only [binOp]
  simp [run_equal_slice_nil w 27 5 a n c Try.underlying27]
/-- A copy of bytes, of the call's own. -/
theorem own_new {w w' : World} {v : Value} {l : List UInt8} (h : OwnsBytes w' 0 v l) {g : Nat} (hg : v.ownBlock = some g ∨ v.ownBlock = none ∨ v.ownBlock = some w.heap.size) (hb : w.heap.size ≤ g) : OwnsBytes w' w.heap.size v l := by
  refine h.base (fun k hk => ?_)
  rcases hg with e | e | e <;> rw [e] at hk <;> cases hk <;> omega
set_option maxHeartbeats 2000000 in
set_option maxRecDepth 100000 in
theorem Clone_any {w : World} {v : Value} {l : List UInt8} (h : RB w v l) (hl : l.length ≤ 1000000000) :
    Calls Try.prog 55 #[v] w fun e w' => ∃ u, e = .returned u ∧ OwnsBytes w' w.heap.size u l ∧ Below w.heap.size w w' := by
  have hnil := is_nil
  rcases h with ⟨a, c, rfl, rfl, h0⟩ | ⟨b, o, c, rfl, hc, hr⟩
  · cases a with
    | none =>
      obtain rfl := h0 rfl
      go_enter Try.func55, Try.ntmps55
      go_wp2
      go_ret
      exact ⟨_, rfl, OwnsBytes.nil _ _, Below.refl _ _⟩
    | some a =>
      have hN : ∀ (W : World), OwnsBytes (W.alloc (.cells #[] 5)) 0 (.slice (some ⟨W.heap.size, 0, none⟩) 0 0) [] := fun W => ⟨rfl, .inr ⟨W.heap.size, 0, #[], rfl, Nat.zero_le _, heap_new W _, Nat.le_refl _, Nat.zero_le _, rfl, rfl⟩⟩
      have hy : RB (w.alloc (.cells #[] 5)) (.slice (some a) 0 c) [] := .inl ⟨_, _, rfl, rfl, fun e => by cases e⟩
      go_enter Try.func55, Try.ntmps55
      go_wp2_with (refine wpList_append_RB rfl (.tmp 5) (.tmp 6) rfl _ _ rfl (hN w) _ _ rfl hy (by simp) ?_; intro v' w' h1 h2 h3)
      go_ret
      refine ⟨_, rfl, ?_, ?_⟩
      · rw [size_alloc] at h3
        exact own_new (g := w.heap.size + 1) h1 (by rcases h3 with h3 | h3; exact .inr (.inr h3); exact .inl h3) (by omega)
      · exact ((Below.refl _ w).alloc (Nat.le_refl _) _).grown h2 (by simp) (fun k hk => by cases hk; exact Nat.le_refl _)
  · have hN : ∀ (W : World), OwnsBytes (W.alloc (.cells #[] 5)) 0 (.slice (some ⟨W.heap.size, 0, none⟩) 0 0) [] := fun W => ⟨rfl, .inr ⟨W.heap.size, 0, #[], rfl, Nat.zero_le _, heap_new W _, Nat.le_refl _, Nat.zero_le _, rfl, rfl⟩⟩
    have hy : RB (w.alloc (.cells #[] 5)) (.slice (some ⟨b, o, none⟩) l.length c) l := RB.below (.inr ⟨b, o, c, rfl, hc, hr⟩) ((Below.refl _ w).alloc (Nat.le_refl _) _)
    go_enter Try.func55, Try.ntmps55
    go_wp2_with (refine wpList_append_RB rfl (.tmp 5) (.tmp 6) rfl _ _ rfl (hN w) _ _ rfl hy (by simp; omega) ?_; intro v' w' h1 h2 h3)
    go_ret
    refine ⟨_, rfl, ?_, ?_⟩
    · rw [size_alloc] at h3
      exact own_new (g := w.heap.size + 1) h1 (by rcases h3 with h3 | h3; exact .inr (.inr h3); exact .inl h3) (by omega)
    · exact ((Below.refl _ w).alloc (Nat.le_refl _) _).grown h2 (by simp) (fun k hk => by cases hk; exact Nat.le_refl _)
theorem Dsk.file {w : World} {T : Nat → Prop} {b : Nat} {d : Dk.D} {n0 g0 n1 g1 : Value} (h : Dsk w T b d n0 g0 n1 g1) {f : Int} (hf : f = 0 ∨ f = 1) : ∃ v, w.cell? ⟨b, fo f, none⟩ = some v ∧ OwnsBytes w 0 v (d.at f).now := by
  rcases hf with rfl | rfl
  · exact ⟨n0, h.dat.cell 4, h.dat.o0⟩
  · exact ⟨n1, h.dat.cell 7, h.dat.o1⟩
set_option maxHeartbeats 2000000 in
set_option maxRecDepth 100000 in
theorem Read_nil {w : World} {v : Value} (h : Made w v false) (f : Int) :
    Calls Try.prog 20 #[v, .int .i64 f] w fun e w' => e = .returned (.tuple #[.slice none 0 0, .int .i64 2]) ∧ w' = w := by
  have H := open_nil h f
  go_enter Try.func20, Try.ntmps20
  go_wp2_with (go_at_call 54; refine H.mono ?_; rintro e w2 ⟨rfl, he⟩; replace he := he.symm; subst he)
  go_ret2
  exact ⟨rfl, rfl⟩
set_option maxHeartbeats 2000000 in
set_option maxRecDepth 100000 in
theorem Read_no {w : World} {T : Nat → Prop} {b : Nat} {d : Dk.D} {n0 g0 n1 g1 : Value} (h : Dsk w T b d n0 g0 n1 g1) (f : Int) (hf : d.why f ≠ 0) :
    Calls Try.prog 20 #[.pointer (some ⟨b, 0, none⟩), .int .i64 f] w fun e w' => e = .returned (.tuple #[.slice none 0 0, .int .i64 (d.why f)]) ∧ w' = w := by
  have H := open_no h f hf
  clear h
  generalize d.why f = q at *
  have h0 : (q == 0) = false := by simpa using hf
  go_enter Try.func20, Try.ntmps20
  go_wp2_with (go_at_call 54; refine H.mono ?_; rintro e w2 ⟨rfl, he⟩; replace he := he.symm; subst he)
  go_ret2
  exact ⟨rfl, rfl⟩
set_option maxHeartbeats 2000000 in
set_option maxRecDepth 100000 in
theorem Read_yes {w : World} {T : Nat → Prop} {b : Nat} {d : Dk.D} {n0 g0 n1 g1 : Value} (h : Dsk w T b d n0 g0 n1 g1) (f : Int) (hf : d.why f = 0) :
    Calls Try.prog 20 #[.pointer (some ⟨b, 0, none⟩), .int .i64 f] w fun e w' => ∃ u, e = .returned (.tuple #[u, .int .i64 0]) ∧ OwnsBytes w' w.heap.size u (d.at f).now ∧ Below w.heap.size w w' := by
  have H := open_yes h f hf
  obtain ⟨v, hc, ho⟩ := h.file (Dk.D.why_file hf).1
  have hn := (h.fine.at f).now
  have C := Clone_any ho.reads (by omega)
  generalize fo f = o at *
  clear h hf
  go_enter Try.func20, Try.ntmps20
  go_wp2_with (first
    | (go_at_call 54; refine H.mono ?_; rintro e w2 ⟨rfl, he⟩; replace he := he.symm; subst he)
    | (go_at_call 55; refine C.mono ?_; rintro e w3 ⟨u, rfl, hu, hB⟩))
  go_ret2
  exact ⟨_, rfl, hu, hB⟩
set_option maxHeartbeats 2000000 in
set_option maxRecDepth 100000 in
theorem Arm_no {w : World} {v : Value} (h : Made w v false) (n : Int) (q : Bool) :
    Calls Try.prog 29 #[v, .int .i64 n, .bool q] w fun e w' => e = .returned (.tuple #[]) ∧ w' = w := by
  have H := isMade_any h
  go_enter Try.func29, Try.ntmps29
  go_wp2_with (go_at_call 52; refine H.mono ?_; rintro e w2 ⟨rfl, he⟩; replace he := he.symm; subst he)
  go_end0
  exact ⟨rfl, rfl⟩
set_option maxHeartbeats 2000000 in
set_option maxRecDepth 100000 in
theorem Arm_yes {w : World} {T : Nat → Prop} {b : Nat} {d : Dk.D} {n0 g0 n1 g1 : Value} (h : Dsk w T b d n0 g0 n1 g1) (n : Int) (hn : -9223372036854775808 ≤ n ∧ n ≤ 9223372036854775807) (q : Bool) :
    Calls Try.prog 29 #[.pointer (some ⟨b, 0, none⟩), .int .i64 n, .bool q] w fun e w' => e = .returned (.tuple #[]) ∧ Dsk w' T b (d.arm n q) n0 g0 n1 g1 ∧ Own T w w' := by
  have H := isMade_any h.made
  have c10 : w.cell? ⟨b, 10, none⟩ = some (.int .i64 d.fuse) := h.dat.cell 10
  have c11 : w.cell? ⟨b, 11, none⟩ = some (.bool d.behind) := h.dat.cell 11
  have f10 := h.dat.free 10
  have f11 := h.dat.free 11
  have h1 := h.set (d' := { d with fuse := n }) 10 (.int .i64 n) rfl rfl rfl ⟨h.fine.a, h.fine.b, h.fine.room, h.fine.least, h.fine.root, hn⟩
  have h2 := h1.set (d' := d.arm n q) 11 (.bool q) rfl rfl rfl (h.fine.arm hn q)
  have HO : Hid (Own T w ((w.setCell ⟨b, 10, none⟩ (.int .i64 n)).setCell ⟨b, 11, none⟩ (.bool q))) := (Own.set h.tb w 10 _).trans (Own.set h.tb _ 11 _) (fun k hk => .inl hk)
  have H2 : Hid (Dsk ((w.setCell ⟨b, 10, none⟩ (.int .i64 n)).setCell ⟨b, 11, none⟩ (.bool q)) T b (d.arm n q) n0 g0 n1 g1) := h2
  clear h h1 h2 hn
  go_enter Try.func29, Try.ntmps29
  go_wp2_with (go_at_call 52; refine H.mono ?_; rintro e w2 ⟨rfl, he⟩; replace he := he.symm; subst he)
  go_end0
  exact ⟨rfl, H2.out, HO.out⟩
set_option maxHeartbeats 2000000 in
set_option maxRecDepth 100000 in
theorem Fail_no {w : World} {v : Value} (h : Made w v false) :
    Calls Try.prog 30 #[v] w fun e w' => e = .returned (.tuple #[]) ∧ w' = w := by
  have H := isMade_any h
  go_enter Try.func30, Try.ntmps30
  go_wp2_with (go_at_call 52; refine H.mono ?_; rintro e w2 ⟨rfl, he⟩; replace he := he.symm; subst he)
  go_end0
  exact ⟨rfl, rfl⟩
set_option maxHeartbeats 2000000 in
set_option maxRecDepth 100000 in
theorem Fail_yes {w : World} {T : Nat → Prop} {b : Nat} {d : Dk.D} {n0 g0 n1 g1 : Value} (h : Dsk w T b d n0 g0 n1 g1) :
    Calls Try.prog 30 #[.pointer (some ⟨b, 0, none⟩)] w fun e w' => e = .returned (.tuple #[]) ∧ Dsk w' T b d.fail n0 g0 n1 g1 ∧ Own T w w' := by
  have H := isMade_any h.made
  have c1 : w.cell? ⟨b, 1, none⟩ = some (.bool d.on) := h.dat.cell 1
  have f1 := h.dat.free 1
  have h1 := h.set (d' := d.fail) 1 (.bool false) rfl rfl rfl h.fine.fail
  have HO : Hid (Own T w (w.setCell ⟨b, 1, none⟩ (.bool false))) := Own.set h.tb w 1 _
  have H2 : Hid (Dsk (w.setCell ⟨b, 1, none⟩ (.bool false)) T b d.fail n0 g0 n1 g1) := h1
  clear h h1
  go_enter Try.func30, Try.ntmps30
  go_wp2_with (go_at_call 52; refine H.mono ?_; rintro e w2 ⟨rfl, he⟩; replace he := he.symm; subst he)
  go_end0
  exact ⟨rfl, H2.out, HO.out⟩
set_option maxHeartbeats 2000000 in
set_option maxRecDepth 100000 in
theorem New_no (room : Int) (h : room < 1 ∨ 1048576 < room) (w : World) :
    Calls Try.prog 9 #[.int .i64 room] w fun e w' => e = .returned (.tuple #[.pointer none, .int .i64 1]) ∧ w' = w := by
  by_cases h1 : room < 1
  · clear h
    go_enter Try.func9, Try.ntmps9
    go_wp2
    go_ret2
    exact ⟨rfl, rfl⟩
  · have h2 : 1048576 < room := by omega
    clear h
    go_enter Try.func9, Try.ntmps9
    go_wp2
    go_ret2
    exact ⟨rfl, rfl⟩
abbrev nilS : Value := .slice none 0 0
theorem Dsk.new (w : World) (room : Int) (h1 : 1 ≤ room) (h2 : room ≤ 1048576) : Dsk (w.alloc (.cells (xD (Dk.new room) nilS nilS nilS nilS) 93)) (fun k => k = w.heap.size) w.heap.size (Dk.new room) nilS nilS nilS nilS := by
  have hn : ∀ v, Ap nilS v := fun v k hk => by cases hk
  have hi : ∀ T, In T nilS := fun T k hk => by cases hk
  have hb : (nilS : Value).ownBlock ≠ some w.heap.size := fun h => by cases h
  exact ⟨⟨heap_new w _, OwnsBytes.nil _ _, OwnsBytes.nil _ _, OwnsBytes.nil _ _, OwnsBytes.nil _ _, hn _, hn _, hn _, hn _, hn _, hn _, hb, hb, hb, hb⟩, Dk.new_fine h1 h2, rfl, hi _, hi _, hi _, hi _, fun k hk => by rw [hk, size_alloc]; omega⟩
set_option maxHeartbeats 2000000 in
set_option maxRecDepth 100000 in
theorem New_yes (room : Int) (h1 : 1 ≤ room) (h2 : room ≤ 1048576) (w : World) :
    Calls Try.prog 9 #[.int .i64 room] w fun e w' => e = .returned (.tuple #[.pointer (some ⟨w.heap.size, 0, none⟩), .int .i64 0]) ∧ Dsk w' (fun k => k = w.heap.size) w.heap.size (Dk.new room) nilS nilS nilS nilS ∧ Below w.heap.size w w' := by
  have H := Dsk.new w room h1 h2
  have HH : Hid (Dsk (w.alloc (.cells (xD (Dk.new room) nilS nilS nilS nilS) 93)) (fun k => k = w.heap.size) w.heap.size (Dk.new room) nilS nilS nilS nilS) := H
  clear H
  have h3 : ¬ room < 1 := by omega
  have h4 : ¬ 1048576 < room := by omega
  go_enter Try.func9, Try.ntmps9
  go_wp2
  go_ret2
  exact ⟨rfl, HH.out, (Below.refl _ w).alloc (Nat.le_refl _) _⟩
end Go.Proofs.Ytnnlmnjbmbflpaa
