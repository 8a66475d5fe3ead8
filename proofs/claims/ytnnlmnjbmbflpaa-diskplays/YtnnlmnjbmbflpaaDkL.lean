/- Acts of a script, and the contract of does. -/
import Derived.Test.YtnnlmnjbmbflpaaDkK
set_option linter.unusedVariables false
set_option linter.unusedSimpArgs false
namespace Go.Proofs.Ytnnlmnjbmbflpaa
open Go.RowKit
/-- An act of a script. -/
structure Ac where
  kind : Nat
  file : Int
  n : Int
  behind : Bool
  v : Value
  l : List UInt8
  k0 : Int
  k1 : Int
  c0 : Bool
  c1 : Bool
abbrev aX (a : Ac) : Array Value := #[.int .u8 (a.kind : Int), .int .i64 a.file, .int .i64 a.n, .bool a.behind, a.v, .int .i64 a.k0, .int .i64 a.k1, .bool a.c0, .bool a.c1]
abbrev aV (a : Ac) : Value := .agg (aX a)
structure AcOK (w : World) (a : Ac) : Prop where
  kind : a.kind ≤ 255
  file : -9223372036854775808 ≤ a.file ∧ a.file ≤ 9223372036854775807
  n : -9223372036854775808 ≤ a.n ∧ a.n ≤ 9223372036854775807
  k0 : -9223372036854775808 ≤ a.k0 ∧ a.k0 ≤ 9223372036854775807
  k1 : -9223372036854775808 ≤ a.k1 ∧ a.k1 ≤ 9223372036854775807
  rb : RB w a.v a.l
  len : a.l.length ≤ maxLen
theorem AcOK.below {w w' : World} {a : Ac} (h : AcOK w a) (hB : Below w.heap.size w w') : AcOK w' a := ⟨h.kind, h.file, h.n, h.k0, h.k1, h.rb.below hB, h.len⟩
/-- What an act of a script does. -/
def Dk.D.doo (d : Dk.D) (a : Ac) : Int × Dk.D :=
  if a.kind % 8 = 1 then d.sync a.file else if a.kind % 8 = 2 then d.trunc a.file a.n else if a.kind % 8 = 3 then d.switch a.file else if a.kind % 8 = 4 then (0, d.arm a.n a.behind) else
  if a.kind % 8 = 5 then (0, d.fail) else if a.kind % 8 = 6 then d.start a.k0 a.k1 a.c0 a.c1 else d.append a.file a.l
theorem rem8 (k : Nat) (h : k ≤ 255) : (k : Int).tmod 8 = ((k % 8 : Nat) : Int) := by
  rw [Int.tmod_eq_emod_of_nonneg (by omega)]
  omega
-- BY PROGRAM
set_option maxHeartbeats 2000000 in
set_option maxRecDepth 100000 in
theorem does0 {w : World} {T : Nat → Prop} {b : Nat} {d : Dk.D} {n0 g0 n1 g1 : Value} (h : Dsk w T b d n0 g0 n1 g1) (a : Ac) (hA : AcOK w a) (hk : a.kind % 8 = 0) :
    Calls Try.prog 14 #[ptr b 0, aV a] w (ActPost w T b (d.doo a)) := by
  have hm : (a.kind : Int).tmod 8 = 0 := by rw [rem8 _ hA.kind, hk]; rfl
  have hB : Below w.heap.size w (w.alloc (.cells (aX a) 41)) := (Below.refl _ w).alloc (Nat.le_refl _) _
  obtain ⟨va, vc, hv⟩ := hA.rb.form
  have hC := Append_yes (h.below hB) a.file a.v a.l (hA.rb.below hB) hA.len
  have HB : Hid (Below w.heap.size w (w.alloc (.cells (aX a) 41))) := hB
  have HD : Hid (d.doo a = d.append a.file a.l) := by show d.doo a = _; unfold Dk.D.doo; simp only [hk]; simp
  obtain ⟨kind, file, n, behind, v, l, k0, k1, c0, c1⟩ := a
  simp only at hv hm hC HD HB hk
  subst hv
  rw [HD.out]
  clear h hA hB hk
  generalize d.append file l = r at *
  go_enter Try.func14, Try.ntmps14
  go_wp2_with (go_at_call 44; refine hC.mono ?_; rintro e w2 hp; have hp2 := hp.ahead HB.out; unfold ActPost at hp; obtain ⟨rfl, _⟩ := hp)
  go_ret
  exact hp2
set_option maxHeartbeats 2000000 in
set_option maxRecDepth 100000 in
theorem does1 {w : World} {T : Nat → Prop} {b : Nat} {d : Dk.D} {n0 g0 n1 g1 : Value} (h : Dsk w T b d n0 g0 n1 g1) (a : Ac) (hA : AcOK w a) (hk : a.kind % 8 = 1) :
    Calls Try.prog 14 #[ptr b 0, aV a] w (ActPost w T b (d.doo a)) := by
  have hm : (a.kind : Int).tmod 8 = 1 := by rw [rem8 _ hA.kind, hk]; rfl
  have hB : Below w.heap.size w (w.alloc (.cells (aX a) 41)) := (Below.refl _ w).alloc (Nat.le_refl _) _
  obtain ⟨va, vc, hv⟩ := hA.rb.form
  have hC := Sync_yes (h.below hB) a.file
  have HB : Hid (Below w.heap.size w (w.alloc (.cells (aX a) 41))) := hB
  have HD : Hid (d.doo a = d.sync a.file) := by show d.doo a = _; unfold Dk.D.doo; simp only [hk]; simp
  obtain ⟨kind, file, n, behind, v, l, k0, k1, c0, c1⟩ := a
  simp only at hv hm hC HD HB hk
  subst hv
  rw [HD.out]
  clear h hA hB hk
  generalize d.sync file = r at *
  go_enter Try.func14, Try.ntmps14
  go_wp2_with (go_at_call 45; refine hC.mono ?_; rintro e w2 hp; have hp2 := hp.ahead HB.out; unfold ActPost at hp; obtain ⟨rfl, _⟩ := hp)
  go_ret
  exact hp2
set_option maxHeartbeats 2000000 in
set_option maxRecDepth 100000 in
theorem does2 {w : World} {T : Nat → Prop} {b : Nat} {d : Dk.D} {n0 g0 n1 g1 : Value} (h : Dsk w T b d n0 g0 n1 g1) (a : Ac) (hA : AcOK w a) (hk : a.kind % 8 = 2) :
    Calls Try.prog 14 #[ptr b 0, aV a] w (ActPost w T b (d.doo a)) := by
  have hm : (a.kind : Int).tmod 8 = 2 := by rw [rem8 _ hA.kind, hk]; rfl
  have hB : Below w.heap.size w (w.alloc (.cells (aX a) 41)) := (Below.refl _ w).alloc (Nat.le_refl _) _
  obtain ⟨va, vc, hv⟩ := hA.rb.form
  have hC := Truncate_yes (h.below hB) a.file a.n
  have HB : Hid (Below w.heap.size w (w.alloc (.cells (aX a) 41))) := hB
  have HD : Hid (d.doo a = d.trunc a.file a.n) := by show d.doo a = _; unfold Dk.D.doo; simp only [hk]; simp
  obtain ⟨kind, file, n, behind, v, l, k0, k1, c0, c1⟩ := a
  simp only at hv hm hC HD HB hk
  subst hv
  rw [HD.out]
  clear h hA hB hk
  generalize d.trunc file n = r at *
  go_enter Try.func14, Try.ntmps14
  go_wp2_with (go_at_call 46; refine hC.mono ?_; rintro e w2 hp; have hp2 := hp.ahead HB.out; unfold ActPost at hp; obtain ⟨rfl, _⟩ := hp)
  go_ret
  exact hp2
set_option maxHeartbeats 2000000 in
set_option maxRecDepth 100000 in
theorem does3 {w : World} {T : Nat → Prop} {b : Nat} {d : Dk.D} {n0 g0 n1 g1 : Value} (h : Dsk w T b d n0 g0 n1 g1) (a : Ac) (hA : AcOK w a) (hk : a.kind % 8 = 3) :
    Calls Try.prog 14 #[ptr b 0, aV a] w (ActPost w T b (d.doo a)) := by
  have hm : (a.kind : Int).tmod 8 = 3 := by rw [rem8 _ hA.kind, hk]; rfl
  have hB : Below w.heap.size w (w.alloc (.cells (aX a) 41)) := (Below.refl _ w).alloc (Nat.le_refl _) _
  obtain ⟨va, vc, hv⟩ := hA.rb.form
  have hC := Switch_yes (h.below hB) a.file
  have HB : Hid (Below w.heap.size w (w.alloc (.cells (aX a) 41))) := hB
  have HD : Hid (d.doo a = d.switch a.file) := by show d.doo a = _; unfold Dk.D.doo; simp only [hk]; simp
  obtain ⟨kind, file, n, behind, v, l, k0, k1, c0, c1⟩ := a
  simp only at hv hm hC HD HB hk
  subst hv
  rw [HD.out]
  clear h hA hB hk
  generalize d.switch file = r at *
  go_enter Try.func14, Try.ntmps14
  go_wp2_with (go_at_call 47; refine hC.mono ?_; rintro e w2 hp; have hp2 := hp.ahead HB.out; unfold ActPost at hp; obtain ⟨rfl, _⟩ := hp)
  go_ret
  exact hp2
set_option maxHeartbeats 2000000 in
set_option maxRecDepth 100000 in
theorem does4 {w : World} {T : Nat → Prop} {b : Nat} {d : Dk.D} {n0 g0 n1 g1 : Value} (h : Dsk w T b d n0 g0 n1 g1) (a : Ac) (hA : AcOK w a) (hk : a.kind % 8 = 4) :
    Calls Try.prog 14 #[ptr b 0, aV a] w (ActPost w T b (d.doo a)) := by
  have hm : (a.kind : Int).tmod 8 = 4 := by rw [rem8 _ hA.kind, hk]; rfl
  have hB : Below w.heap.size w (w.alloc (.cells (aX a) 41)) := (Below.refl _ w).alloc (Nat.le_refl _) _
  obtain ⟨va, vc, hv⟩ := hA.rb.form
  have hC := Arm_yes (h.below hB) a.n hA.n a.behind
  have HB : Hid (Below w.heap.size w (w.alloc (.cells (aX a) 41))) := hB
  have HD : Hid (d.doo a = (0, d.arm a.n a.behind)) := by show d.doo a = _; unfold Dk.D.doo; simp only [hk]; simp
  obtain ⟨kind, file, n, behind, v, l, k0, k1, c0, c1⟩ := a
  simp only at hv hm hC HD HB hk
  subst hv
  rw [HD.out]
  clear h hA hB hk
  generalize d.arm n behind = r at *
  go_enter Try.func14, Try.ntmps14
  go_wp2_with (go_at_call 29; refine hC.mono ?_; rintro e w2 ⟨rfl, hD2, hO2⟩; have hp2 : ActPost w T b (0, r) (.returned (.int .i64 0)) w2 := ActPost.ahead ⟨rfl, DskE.more (w := w) ⟨_, _, _, _, hD2⟩ _, hO2⟩ HB.out)
  go_ret
  exact hp2
set_option maxHeartbeats 2000000 in
set_option maxRecDepth 100000 in
theorem does5 {w : World} {T : Nat → Prop} {b : Nat} {d : Dk.D} {n0 g0 n1 g1 : Value} (h : Dsk w T b d n0 g0 n1 g1) (a : Ac) (hA : AcOK w a) (hk : a.kind % 8 = 5) :
    Calls Try.prog 14 #[ptr b 0, aV a] w (ActPost w T b (d.doo a)) := by
  have hm : (a.kind : Int).tmod 8 = 5 := by rw [rem8 _ hA.kind, hk]; rfl
  have hB : Below w.heap.size w (w.alloc (.cells (aX a) 41)) := (Below.refl _ w).alloc (Nat.le_refl _) _
  obtain ⟨va, vc, hv⟩ := hA.rb.form
  have hC := Fail_yes (h.below hB)
  have HB : Hid (Below w.heap.size w (w.alloc (.cells (aX a) 41))) := hB
  have HD : Hid (d.doo a = (0, d.fail)) := by show d.doo a = _; unfold Dk.D.doo; simp only [hk]; simp
  obtain ⟨kind, file, n, behind, v, l, k0, k1, c0, c1⟩ := a
  simp only at hv hm hC HD HB hk
  subst hv
  rw [HD.out]
  clear h hA hB hk
  generalize d.fail = r at *
  go_enter Try.func14, Try.ntmps14
  go_wp2_with (go_at_call 30; refine hC.mono ?_; rintro e w2 ⟨rfl, hD2, hO2⟩; have hp2 : ActPost w T b (0, r) (.returned (.int .i64 0)) w2 := ActPost.ahead ⟨rfl, DskE.more (w := w) ⟨_, _, _, _, hD2⟩ _, hO2⟩ HB.out)
  go_ret
  exact hp2
set_option maxHeartbeats 2000000 in
set_option maxRecDepth 100000 in
theorem does6 {w : World} {T : Nat → Prop} {b : Nat} {d : Dk.D} {n0 g0 n1 g1 : Value} (h : Dsk w T b d n0 g0 n1 g1) (a : Ac) (hA : AcOK w a) (hk : a.kind % 8 = 6) :
    Calls Try.prog 14 #[ptr b 0, aV a] w (ActPost w T b (d.doo a)) := by
  have hm : (a.kind : Int).tmod 8 = 6 := by rw [rem8 _ hA.kind, hk]; rfl
  have hB : Below w.heap.size w (w.alloc (.cells (aX a) 41)) := (Below.refl _ w).alloc (Nat.le_refl _) _
  obtain ⟨va, vc, hv⟩ := hA.rb.form
  have hC := Start_yes (h.below hB) a.k0 a.k1 a.c0 a.c1 hA.k0 hA.k1
  have HB : Hid (Below w.heap.size w (w.alloc (.cells (aX a) 41))) := hB
  have HD : Hid (d.doo a = d.start a.k0 a.k1 a.c0 a.c1) := by show d.doo a = _; unfold Dk.D.doo; simp only [hk]; simp
  obtain ⟨kind, file, n, behind, v, l, k0, k1, c0, c1⟩ := a
  simp only at hv hm hC HD HB hk
  subst hv
  rw [HD.out]
  clear h hA hB hk
  generalize d.start k0 k1 c0 c1 = r at *
  have hr1 : ∀ W : World, (∀ i, W.cell? ⟨w.heap.size, i, none⟩ = (aX ⟨kind, file, n, behind, .slice va l.length vc, l, k0, k1, c0, c1⟩)[i]?) → W.rangeAt w.heap.size 5 [.int .i64 k0, .int .i64 k1] := fun W hc j v hj => by
    rw [hc]
    rcases j with _ | _ | j
    · exact hj
    · exact hj
    · simp at hj
  go_enter Try.func14, Try.ntmps14
  go_wp2_with (go_at_call 31; refine hC.mono ?_; rintro e w2 hp; have hp2 := hp.ahead HB.out; unfold ActPost at hp; obtain ⟨rfl, _⟩ := hp)
  go_ret
  exact hp2
set_option maxHeartbeats 2000000 in
set_option maxRecDepth 100000 in
theorem does7 {w : World} {T : Nat → Prop} {b : Nat} {d : Dk.D} {n0 g0 n1 g1 : Value} (h : Dsk w T b d n0 g0 n1 g1) (a : Ac) (hA : AcOK w a) (hk : a.kind % 8 = 7) :
    Calls Try.prog 14 #[ptr b 0, aV a] w (ActPost w T b (d.doo a)) := by
  have hm : (a.kind : Int).tmod 8 = 7 := by rw [rem8 _ hA.kind, hk]; rfl
  have hB : Below w.heap.size w (w.alloc (.cells (aX a) 41)) := (Below.refl _ w).alloc (Nat.le_refl _) _
  obtain ⟨va, vc, hv⟩ := hA.rb.form
  have hC := Append_yes (h.below hB) a.file a.v a.l (hA.rb.below hB) hA.len
  have HB : Hid (Below w.heap.size w (w.alloc (.cells (aX a) 41))) := hB
  have HD : Hid (d.doo a = d.append a.file a.l) := by show d.doo a = _; unfold Dk.D.doo; simp only [hk]; simp
  obtain ⟨kind, file, n, behind, v, l, k0, k1, c0, c1⟩ := a
  simp only at hv hm hC HD HB hk
  subst hv
  rw [HD.out]
  clear h hA hB hk
  generalize d.append file l = r at *
  go_enter Try.func14, Try.ntmps14
  go_wp2_with (go_at_call 44; refine hC.mono ?_; rintro e w2 hp; have hp2 := hp.ahead HB.out; unfold ActPost at hp; obtain ⟨rfl, _⟩ := hp)
  go_ret
  exact hp2
theorem does_any {w : World} {T : Nat → Prop} {b : Nat} {d : Dk.D} {n0 g0 n1 g1 : Value} (h : Dsk w T b d n0 g0 n1 g1) (a : Ac) (hA : AcOK w a) :
    Calls Try.prog 14 #[ptr b 0, aV a] w (ActPost w T b (d.doo a)) := by
  have hlt : a.kind % 8 < 8 := Nat.mod_lt _ (by decide)
  rcases (by omega : a.kind % 8 = 0 ∨ a.kind % 8 = 1 ∨ a.kind % 8 = 2 ∨ a.kind % 8 = 3 ∨ a.kind % 8 = 4 ∨ a.kind % 8 = 5 ∨ a.kind % 8 = 6 ∨ a.kind % 8 = 7) with hk | hk | hk | hk | hk | hk | hk | hk
  · exact does0 h a hA hk
  · exact does1 h a hA hk
  · exact does2 h a hA hk
  · exact does3 h a hA hk
  · exact does4 h a hA hk
  · exact does5 h a hA hk
  · exact does6 h a hA hk
  · exact does7 h a hA hk
end Go.Proofs.Ytnnlmnjbmbflpaa
