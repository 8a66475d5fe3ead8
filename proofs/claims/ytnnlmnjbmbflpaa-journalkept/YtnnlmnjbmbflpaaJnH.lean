/- The contracts of a journal's calls that turn no disk: isMade, Group, Left, Size, Drop, fits, Add. -/
import Derived.Test.YtnnlmnjbmbflpaaJnG
import Derived.Deep.RegionHeldLaw
set_option linter.unusedVariables false
set_option linter.unusedSimpArgs false
namespace Go.Proofs.Ytnnlmnjbmbflpaa
open Go.RowKit
namespace Jn
def isRecB (r : List UInt8) : Bool := decide (1 ≤ r.length) && decide (r.length ≤ 16384)
theorem isRecB_iff (r : List UInt8) : isRecB r = true ↔ isRec r := by unfold isRecB isRec; simp
theorem all_iff (rs : List (List UInt8)) : rs.all isRecB = true ↔ All rs := by
  rw [List.all_eq_true]
  exact ⟨fun h r hr => (isRecB_iff r).1 (h r hr), fun h r hr => (isRecB_iff r).2 (h r hr)⟩
/-- Why records can't stand behind a group of m bytes. -/
def fits (d : Dk.D) (m : Nat) (rs : List (List UInt8)) : Int := if rs.all isRecB = true then (if d.left < (m : Int) + ((frames rs).length : Int) then 11 else 0) else 1
theorem fits_zero {d : Dk.D} {m : Nat} {rs : List (List UInt8)} (h : fits d m rs = 0) : All rs ∧ (m : Int) + ((frames rs).length : Int) ≤ d.left := by
  unfold fits at h
  split at h
  · rename_i h1
    split at h
    · cases h
    · exact ⟨(all_iff rs).1 h1, by omega⟩
  · cases h
theorem fits_some (d : Dk.D) (m : Nat) (rs : List (List UInt8)) : fits d m rs = 0 ∨ fits d m rs = 1 ∨ fits d m rs = 11 := by
  unfold fits
  split
  · split
    · exact .inr (.inr rfl)
    · exact .inl rfl
  · exact .inr (.inl rfl)
end Jn
/-- Whether what a pointer points to is a journal that Open gave. -/
def JMade (w : World) (v : Value) (m : Bool) : Prop := (v = .pointer none ∧ m = false) ∨ ∃ jb p, v = .pointer (some ⟨jb, 0, none⟩) ∧ w.cell? ⟨jb, 0, none⟩ = some (.pointer p) ∧ m = p.isSome
theorem JAt.made {w : World} {jb b n : Nat} {g : Value} {l : List UInt8} (h : JAt w jb b g l n) : JMade w (ptr jb 0) true := .inr ⟨jb, _, rfl, h.cell 0, rfl⟩
theorem JMade.form {w : World} {v : Value} {m : Bool} (h : JMade w v m) : ∃ p, v = .pointer p := by
  rcases h with ⟨rfl, _⟩ | ⟨jb, p, rfl, _⟩
  · exact ⟨_, rfl⟩
  · exact ⟨_, rfl⟩
set_option maxHeartbeats 2000000 in
set_option maxRecDepth 100000 in
theorem isMadeJ_any {w : World} {v : Value} {m : Bool} (h : JMade w v m) :
    Calls Try.prog 61 #[v] w fun e w' => e = .returned (.bool m) ∧ w' = w := by
  rcases h with ⟨rfl, rfl⟩ | ⟨jb, p, rfl, h, rfl⟩
  · go_enter Try.func61, Try.ntmps61
    go_wp2
    go_ret
    exact ⟨rfl, rfl⟩
  · cases p with
    | none =>
      go_enter Try.func61, Try.ntmps61
      go_wp2
      go_ret
      exact ⟨rfl, rfl⟩
    | some p =>
      go_enter Try.func61, Try.ntmps61
      go_wp2
      go_ret
      exact ⟨rfl, rfl⟩
set_option maxHeartbeats 2000000 in
set_option maxRecDepth 100000 in
theorem GroupJ_no {w : World} {v : Value} (h : JMade w v false) :
    Calls Try.prog 28 #[v] w fun e w' => e = .returned (.int .i64 0) ∧ w' = w := by
  have H := isMadeJ_any h
  obtain ⟨p, rfl⟩ := h.form
  clear h
  go_enter Try.func28, Try.ntmps28
  go_wp2_with (go_at_call 61; refine H.mono ?_; rintro e w2 ⟨rfl, he⟩; replace he := he.symm; subst he)
  go_ret
  exact ⟨rfl, rfl⟩
set_option maxHeartbeats 2000000 in
set_option maxRecDepth 100000 in
theorem LeftJ_no {w : World} {v : Value} (h : JMade w v false) :
    Calls Try.prog 34 #[v] w fun e w' => e = .returned (.int .i64 0) ∧ w' = w := by
  have H := isMadeJ_any h
  obtain ⟨p, rfl⟩ := h.form
  clear h
  go_enter Try.func34, Try.ntmps34
  go_wp2_with (go_at_call 61; refine H.mono ?_; rintro e w2 ⟨rfl, he⟩; replace he := he.symm; subst he)
  go_ret
  exact ⟨rfl, rfl⟩
set_option maxHeartbeats 2000000 in
set_option maxRecDepth 100000 in
theorem SizeJ_no {w : World} {v : Value} (h : JMade w v false) :
    Calls Try.prog 35 #[v] w fun e w' => e = .returned (.int .i64 0) ∧ w' = w := by
  have H := isMadeJ_any h
  obtain ⟨p, rfl⟩ := h.form
  clear h
  go_enter Try.func35, Try.ntmps35
  go_wp2_with (go_at_call 61; refine H.mono ?_; rintro e w2 ⟨rfl, he⟩; replace he := he.symm; subst he)
  go_ret
  exact ⟨rfl, rfl⟩
set_option maxHeartbeats 2000000 in
set_option maxRecDepth 100000 in
theorem DropJ_no {w : World} {v : Value} (h : JMade w v false) :
    Calls Try.prog 42 #[v] w fun e w' => e = .returned (.int .i64 0) ∧ w' = w := by
  have H := isMadeJ_any h
  obtain ⟨p, rfl⟩ := h.form
  clear h
  go_enter Try.func42, Try.ntmps42
  go_wp2_with (go_at_call 61; refine H.mono ?_; rintro e w2 ⟨rfl, he⟩; replace he := he.symm; subst he)
  go_ret
  exact ⟨rfl, rfl⟩
set_option maxHeartbeats 2000000 in
set_option maxRecDepth 100000 in
theorem CommitJ_no {w : World} {v : Value} (h : JMade w v false) :
    Calls Try.prog 41 #[v] w fun e w' => e = .returned (.int .i64 2) ∧ w' = w := by
  have H := isMadeJ_any h
  obtain ⟨p, rfl⟩ := h.form
  clear h
  go_enter Try.func41, Try.ntmps41
  go_wp2_with (go_at_call 61; refine H.mono ?_; rintro e w2 ⟨rfl, he⟩; replace he := he.symm; subst he)
  go_ret
  exact ⟨rfl, rfl⟩
set_option maxHeartbeats 2000000 in
set_option maxRecDepth 100000 in
theorem AddJ_no {w : World} {v : Value} (h : JMade w v false) (y : Value) :
    Calls Try.prog 40 #[v, y] w fun e w' => e = .returned (.int .i64 2) ∧ w' = w := by
  have H := isMadeJ_any h
  obtain ⟨p, rfl⟩ := h.form
  clear h
  go_enter Try.func40, Try.ntmps40
  go_wp2_with (go_at_call 61; refine H.mono ?_; rintro e w2 ⟨rfl, he⟩; replace he := he.symm; subst he)
  go_ret
  exact ⟨rfl, rfl⟩
set_option maxHeartbeats 2000000 in
set_option maxRecDepth 100000 in
theorem SnapshotJ_no {w : World} {v : Value} (h : JMade w v false) (y : Value) :
    Calls Try.prog 43 #[v, y] w fun e w' => e = .returned (.int .i64 2) ∧ w' = w := by
  have H := isMadeJ_any h
  obtain ⟨p, rfl⟩ := h.form
  clear h
  go_enter Try.func43, Try.ntmps43
  go_wp2_with (go_at_call 61; refine H.mono ?_; rintro e w2 ⟨rfl, he⟩; replace he := he.symm; subst he)
  go_ret
  exact ⟨rfl, rfl⟩
/-- A journal and its disk. -/
structure Jk (w : World) (D : Nat → Prop) (jb b : Nat) (d : Dk.D) (g : Value) (l : List UInt8) (n : Nat) : Prop where
  dsk : DskE w D b d
  j : JAt w jb b g l n
  nj : ¬ D jb
  ng : ∀ k, g.ownBlock = some k → ¬ D k
theorem Jk.below {w w' : World} {D : Nat → Prop} {jb b : Nat} {d : Dk.D} {g : Value} {l : List UInt8} {n : Nat} (h : Jk w D jb b d g l n) (hB : Below w.heap.size w w') : Jk w' D jb b d g l n := ⟨h.dsk.below hB, h.j.below hB, h.nj, h.ng⟩
theorem JAt.c0 {w : World} {jb b n : Nat} {g : Value} {l : List UInt8} (h : JAt w jb b g l n) : w.cell? ⟨jb, 0, none⟩ = some (ptr b 0) := h.cell 0
theorem JAt.c1 {w : World} {jb b n : Nat} {g : Value} {l : List UInt8} (h : JAt w jb b g l n) : w.cell? ⟨jb, 1, none⟩ = some g := h.cell 1
theorem JAt.c2 {w : World} {jb b n : Nat} {g : Value} {l : List UInt8} (h : JAt w jb b g l n) : w.cell? ⟨jb, 2, none⟩ = some (.int .i64 (n : Int)) := h.cell 2
set_option maxHeartbeats 2000000 in
set_option maxRecDepth 100000 in
theorem Group_yes {w : World} {jb b n : Nat} {g : Value} {l : List UInt8} (h : JAt w jb b g l n) :
    Calls Try.prog 28 #[ptr jb 0] w fun e w' => e = .returned (.int .i64 (l.length : Int)) ∧ w' = w := by
  have H := isMadeJ_any h.made
  have c1 := h.c1
  obtain ⟨a, c, rfl⟩ := h.own.form
  clear h
  go_enter Try.func28, Try.ntmps28
  go_wp2_with (go_at_call 61; refine H.mono ?_; rintro e w2 ⟨rfl, he⟩; replace he := he.symm; subst he)
  go_ret
  exact ⟨rfl, rfl⟩
set_option maxHeartbeats 2000000 in
set_option maxRecDepth 100000 in
theorem LeftJ_yes {w : World} {D : Nat → Prop} {jb b n : Nat} {d : Dk.D} {g : Value} {l : List UInt8} (h : Jk w D jb b d g l n) :
    Calls Try.prog 34 #[ptr jb 0] w fun e w' => e = .returned (.int .i64 d.left) ∧ Below w.heap.size w w' := by
  have H := isMadeJ_any h.j.made
  have c0 := h.j.c0
  have H2 := h.dsk.left
  clear h
  go_enter Try.func34, Try.ntmps34
  go_wp2_with (first
    | (go_at_call 61; refine H.mono ?_; rintro e w2 ⟨rfl, he⟩; replace he := he.symm; subst he)
    | (go_at_call 17; refine H2.mono ?_; rintro e w3 ⟨rfl, hB⟩))
  go_ret
  exact ⟨rfl, hB⟩
set_option maxHeartbeats 2000000 in
set_option maxRecDepth 100000 in
theorem Size_yes {w : World} {D : Nat → Prop} {jb b n : Nat} {d : Dk.D} {g : Value} {l : List UInt8} (h : Jk w D jb b d g l n) (hon : d.on = true) {m : List UInt8} (hm : Hid ((d.at d.root).now = m)) :
    Calls Try.prog 35 #[ptr jb 0] w fun e w' => e = .returned (.int .i64 (m.length : Int)) ∧ Below w.heap.size w w' := by
  have H := isMadeJ_any h.j.made
  have c0 := h.j.c0
  have H2 := h.dsk.root
  rw [hon] at H2
  simp only [if_true] at H2
  have H3 := h.dsk.read d.root h.dsk.fine.root hon hm
  clear h hon
  generalize d.root = rt at *
  go_enter Try.func35, Try.ntmps35
  go_wp2_with (first
    | (go_at_call 61; refine H.mono ?_; rintro e w2 ⟨rfl, he⟩; replace he := he.symm; subst he)
    | (go_at_call 19; refine H2.mono ?_; rintro e w3 ⟨rfl, he⟩; replace he := he.symm; subst he)
    | (go_at_call 20; refine H3.mono ?_; rintro e w4 ⟨a, c, rfl, ho, hB⟩))
  go_ret
  exact ⟨rfl, hB⟩
set_option maxHeartbeats 2000000 in
set_option maxRecDepth 100000 in
theorem Size_off {w : World} {D : Nat → Prop} {jb b n : Nat} {d : Dk.D} {g : Value} {l : List UInt8} (h : Jk w D jb b d g l n) (hon : d.on = false) :
    Calls Try.prog 35 #[ptr jb 0] w fun e w' => e = .returned (.int .i64 0) ∧ w' = w := by
  have H := isMadeJ_any h.j.made
  have c0 := h.j.c0
  have H2 := h.dsk.root
  rw [hon] at H2
  simp only [Bool.false_eq_true, if_false] at H2
  clear h hon
  go_enter Try.func35, Try.ntmps35
  go_wp2_with (first
    | (go_at_call 61; refine H.mono ?_; rintro e w2 ⟨rfl, he⟩; replace he := he.symm; subst he)
    | (go_at_call 19; refine H2.mono ?_; rintro e w3 ⟨rfl, he⟩; replace he := he.symm; subst he))
  go_ret
  exact ⟨rfl, rfl⟩
/-- The journal's cells are written. -/
theorem JAt.set {w : World} {jb b n n' : Nat} {g g' : Value} {l l' : List UInt8} (h : JAt w jb b g l n) (hg : OwnsBytes w 0 g' l') (ha : g'.ownBlock ≠ some jb) : JAt ((w.setCell ⟨jb, 1, none⟩ g').setCell ⟨jb, 2, none⟩ (.int .i64 (n' : Int))) jb b g' l' n' :=
  ⟨heap_set (heap_set h.blk g') _, hg.keep (fun k e _ => (Below.heap_setCell _ _ _ _ (fun e2 => ha (by rw [e]; exact congrArg some e2))).trans (Below.heap_setCell _ _ _ _ (fun e2 => ha (by rw [e]; exact congrArg some e2)))), ha⟩
theorem own_two (jb : Nat) (w : World) (x y : Value) : Own (fun k => k = jb) w ((w.setCell ⟨jb, 1, none⟩ x).setCell ⟨jb, 2, none⟩ y) := (Own.set (T := fun k => k = jb) rfl w 1 x).trans (Own.set (T := fun k => k = jb) rfl _ 2 y) (fun k hk => .inl hk)
set_option maxHeartbeats 2000000 in
set_option maxRecDepth 100000 in
theorem Drop_yes {w : World} {jb b n : Nat} {g : Value} {l : List UInt8} (h : JAt w jb b g l n) :
    Calls Try.prog 42 #[ptr jb 0] w fun e w' => e = .returned (.int .i64 (n : Int)) ∧ JAt w' jb b (.slice none 0 0) [] 0 ∧ Own (fun k => k = jb) w w' := by
  have H := isMadeJ_any h.made
  have c1 := h.c1
  have c2 := h.c2
  have f1 := h.free 1
  have f2 := h.free 2
  have HJ := hide9 (h.set (g' := .slice none 0 0) (l' := []) (n' := 0) (OwnsBytes.nil _ _) (fun e => by cases e))
  obtain ⟨a, c, rfl⟩ := h.own.form
  clear h
  go_enter Try.func42, Try.ntmps42
  go_wp2_with (go_at_call 61; refine H.mono ?_; rintro e w2 ⟨rfl, he⟩; replace he := he.symm; subst he)
  go_ret
  exact ⟨rfl, HJ.out, own_two _ _ _ _⟩
end Go.Proofs.Ytnnlmnjbmbflpaa
