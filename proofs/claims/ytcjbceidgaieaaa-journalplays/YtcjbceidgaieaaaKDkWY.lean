/- Texts laid as one. -/
import Derived.Test.YtcjbceidgaieaaaKDkV
import Derived.Deep.RegionHeldLaw
/- The contract of the document's Start. -/
set_option linter.unusedVariables false
set_option linter.unusedSimpArgs false
namespace Go.Proofs.Ytcjbceidgaieaaa
open Go.RowKit
/-- The lesser one of two numbers, at a step of a region that draws. -/
theorem step_min {w : World} {ops : Array Oper} {o : Oper} {a : Act} {K : Act → World → Prop} {Q : Exit → Act → World → Prop} {E : Prop} (hgd : o.guard = none) (s x : Operand)
    (ho : o.op = .call { callee := .builtin .min, args := #[s, x], argTypes := #[3, 3] }) (p q r : Int) (hs : a.eval s = .int .i64 p) (hx : a.eval x = .int .i64 q) (hr : (if q < p then q else p) = r)
    (h : K (a.put o.dst (.int .i64 r)) w) : if Region.wanted o (yielded ops a.tmps) = true then Oper.wp Try.prog o a w K Q else E := by
  rw [if_pos (by simp [Region.wanted, hgd])]
  unfold Oper.wp execOp
  simp only [ho, resolve, invoke, builtin, Sem.run_bind, Sem.run_pure, Result.andThen_ok, List.map_toArray, List.map_cons, List.map_nil, hs, hx, run_min_int2, hr]
  exact h
theorem RB.none9 {w : World} (a : Addr) (c : Nat) : RB w (.slice (some a) 0 c) [] := .inl ⟨_, _, rfl, rfl, fun e => by cases e⟩
/-- What a loss leaves, in the document's order. -/
theorem left_back (c : Dk.Cn) (h : c.gone ≠ []) (k : Int) : c.left k false = c.sure ++ [] := by
  unfold Dk.Cn.left Dk.Cn.sure
  rw [if_pos ⟨h, rfl⟩, List.append_nil]
theorem left_stay (c : Dk.Cn) (hf : c.Fine) (cut : Bool) (h : c.gone = [] ∨ cut = true) (k : Int) : c.left k cut = c.sure.take c.whole ++ (c.now.drop c.whole).take (c.kept k) := by
  have h1 := hf.whole
  unfold Dk.Cn.left
  rw [if_neg (by rcases h with h | h; exact fun e => e.1 h; exact fun e => by rw [h] at e; exact absurd e.2 (by decide))]
  have e : c.sure.take c.whole = c.now.take c.whole := by
    unfold Dk.Cn.sure
    rw [List.take_append_of_le_length (by simp; omega), List.take_take, Nat.min_self]
  rw [e, List.take_add]
theorem lose_cut (c : Dk.Cn) (k : Int) (cut : Bool) : (c.lose k cut).cutv = -1 := rfl
theorem lose_sure (c : Dk.Cn) (k : Int) (cut : Bool) : (c.lose k cut).sure = c.left k cut := by
  unfold Dk.Cn.sure Dk.Cn.lose
  simp
theorem RAt.on9 {W : World} {P : Nat → Prop} {rb : Nat} {d : Dk.D} {fv : Int} {b0 s0 b1 s1 : Value} (h : RAt W P rb d fv b0 s0 b1 s1) : RAt ((W.setCell ⟨rb, 8, none⟩ (.bool false)).setCell ⟨rb, 9, none⟩ (.int .i64 (-1))) P rb { d with on := true, fuse := -1 } (-1) b0 s0 b1 s1 := by
  have hk : ∀ k, k < W.heap.size → P k → k ≠ rb → ((W.setCell ⟨rb, 8, none⟩ (.bool false)).setCell ⟨rb, 9, none⟩ (.int .i64 (-1))).heap[k]? = W.heap[k]? := fun k _ _ hk => (Below.heap_setCell _ _ _ _ hk).trans (Below.heap_setCell _ _ _ _ hk)
  have hs : W.heap.size ≤ ((W.setCell ⟨rb, 8, none⟩ (.bool false)).setCell ⟨rb, 9, none⟩ (.int .i64 (-1))).heap.size := by rw [setCell_size, setCell_size]; exact Nat.le_refl _
  exact ⟨heap_set (heap_set h.blk _) _, h.q0.keep hs hk, h.q1.keep hs hk, h.q2.keep hs hk, h.q3.keep hs hk, ⟨h.fine.a, h.fine.b, h.fine.room, h.fine.least, h.fine.root, ⟨by show -9223372036854775808 ≤ (-1 : Int); decide, by show (-1 : Int) ≤ 9223372036854775807; decide⟩⟩, fun _ => rfl, ⟨by decide, by decide⟩⟩
end Go.Proofs.Ytcjbceidgaieaaa
/- The contract of the document's New. -/
set_option linter.unusedVariables false
set_option linter.unusedSimpArgs false
namespace Go.Proofs.Ytcjbceidgaieaaa
open Go.RowKit
abbrev rX0 : Array Value := #[nilS, nilS, .int .i64 0, nilS, nilS, .int .i64 0, .int .i64 0, .int .i64 0, .bool false, .int .i64 0, .bool false]
abbrev rX1 (room : Int) : Array Value := #[nilS, nilS, .int .i64 (-1), nilS, nilS, .int .i64 (-1), .int .i64 0, .int .i64 room, .bool false, .int .i64 (-1), .bool false]
theorem sizeR : (Try.prog.info? 32).map (·.size) = some 11 := by kernel_rfl
theorem results_two {fn : Func} {p q : Tmp} {ty : TypeId} (h : fn.results = #[.cell p ty, .tmp q]) (tmps : Array Value) (P : Program) (w : World) (a : Addr) (x : Value) (hp : tmps.getD p undef = .pointer (some a)) (hl : (loadVar ty a).run P w = .ok x w) :
    (results fn tmps).run P w = .ok (.tuple #[x, tmps.getD q undef]) w := by
  have hp2 : tmps[p]?.getD undef = .pointer (some a) := by rw [← hp]; simp
  simp only [results, h]
  simp [Sem.run_bind, Result.andThen, asAddr, hp2, hl]
/-- The block of a disk that New gave. -/
theorem RAt.new {W : World} {P : Nat → Prop} {rb : Nat} {room : Int} (h : W.heap[rb]? = some (.cells (rX1 room) 32 (0, 0))) (h1 : 1 ≤ room) (h2 : room ≤ 1048576) : RAt W P rb (Dk.new room) (-1) nilS nilS nilS nilS :=
  ⟨h, ⟨RB.nil _, fun k e => by cases e⟩, ⟨RB.nil _, fun k e => by cases e⟩, ⟨RB.nil _, fun k e => by cases e⟩, ⟨RB.nil _, fun k e => by cases e⟩, Dk.new_fine h1 h2, fun _ => rfl, ⟨by decide, by decide⟩⟩
theorem load_R {w : World} {b : Nat} {X : Array Value} (h : w.heap[b]? = some (.cells X 32 (0, 0))) (hX : X.size = 11) : (loadVar 32 ⟨b, 0, none⟩).run Try.prog w = .ok (.agg X) w :=
  run_loadVar_row _ _ _ _ _ _ _ h Try.underlying32 rfl (by rw [hX]; exact sizeR)
set_option maxHeartbeats 4000000 in
set_option maxRecDepth 100000 in
theorem RNew_no (room : Int) (h : room < 1 ∨ 1048576 < room) (w : World) :
    Calls Try.prog 10 #[.int .i64 room] w fun e w' => e = .returned (.tuple #[.agg rX0, .int .i64 1]) ∧ Below w.heap.size w w' := by
  by_cases h1 : room < 1
  · clear h
    go_enter Try.func10, Try.ntmps10
    go_wp2
    refine bodyPost_ret (results_two rfl _ _ _ _ (.agg rX0) rfl (load_R (heap_new _ _) rfl)) rfl ⟨rfl, ?_⟩
    exact (Below.refl _ w).alloc (Nat.le_refl _) _
  · have h2 : 1048576 < room := by omega
    clear h
    go_enter Try.func10, Try.ntmps10
    go_wp2
    refine bodyPost_ret (results_two rfl _ _ _ _ (.agg rX0) rfl (load_R (heap_new _ _) rfl)) rfl ⟨rfl, ?_⟩
    exact (Below.refl _ w).alloc (Nat.le_refl _) _
set_option maxHeartbeats 4000000 in
set_option maxRecDepth 100000 in
theorem RNew_yes (room : Int) (h1 : 1 ≤ room) (h2 : room ≤ 1048576) (w : World) :
    Calls Try.prog 10 #[.int .i64 room] w fun e w' => e = .returned (.tuple #[.agg (rX1 room), .int .i64 0]) ∧ Below w.heap.size w w' := by
  have h3 : ¬ room < 1 := by omega
  have h4 : ¬ 1048576 < room := by omega
  go_enter Try.func10, Try.ntmps10
  go_wp2
  refine bodyPost_ret (results_two rfl _ _ _ _ (.agg (rX1 room)) rfl (load_R (heap_new _ _) rfl)) rfl ⟨rfl, ?_⟩
  exact (Below.refl _ w).alloc (Nat.le_refl _) _
end Go.Proofs.Ytcjbceidgaieaaa
/- The contract of would. -/
set_option linter.unusedVariables false
set_option linter.unusedSimpArgs false
namespace Go.Proofs.Ytcjbceidgaieaaa
open Go.RowKit
theorem RPost.ahead {w W w' : World} {P : Nat → Prop} {rb : Nat} {r : Int × Dk.D} {e : Ending} (h : RPost W P rb r e w') (hB : Below w.heap.size w W) : RPost w P rb r e w' := ⟨h.1, h.2.1, (Own.of hB).trans h.2.2 (fun k hk => .inl hk)⟩
/-- What Start of the document's disk is to leave. -/
def StartC : Prop := ∀ {W : World} {P : Nat → Prop} {rb : Nat} {d : Dk.D}, RE W P rb d → (∀ k, W.heap.size ≤ k → P k) → ∀ (k0 k1 : Int) (c0 c1 : Bool), (-9223372036854775808 ≤ k0 ∧ k0 ≤ 9223372036854775807) → (-9223372036854775808 ≤ k1 ∧ k1 ≤ 9223372036854775807) → Calls Try.prog 23 #[ptr rb 0, lossV k0 k1 c0 c1] W (RPost W P rb (d.start k0 k1 c0 c1))
/-- Two cells of the document's disk are written. -/
theorem RAt.two {W : World} {P : Nat → Prop} {rb : Nat} {d d' : Dk.D} {fv fv' : Int} {b0 s0 b1 s1 : Value} (h : RAt W P rb d fv b0 s0 b1 s1) (i j : Nat) (x y : Value) (hx : ((xR d fv b0 s0 b1 s1).setIfInBounds i x).setIfInBounds j y = xR d' fv' b0 s0 b1 s1) (ha : d'.a = d.a) (hb : d'.b = d.b) (hf : d'.Fine) (hz : d'.on = true → fv' = max d'.fuse (-1)) (hfb : -9223372036854775808 ≤ fv' ∧ fv' ≤ 9223372036854775807) : RAt ((W.setCell ⟨rb, i, none⟩ x).setCell ⟨rb, j, none⟩ y) P rb d' fv' b0 s0 b1 s1 := by
  have hk : ∀ k, k < W.heap.size → P k → k ≠ rb → ((W.setCell ⟨rb, i, none⟩ x).setCell ⟨rb, j, none⟩ y).heap[k]? = W.heap[k]? := fun k _ _ hk => (Below.heap_setCell _ _ _ _ hk).trans (Below.heap_setCell _ _ _ _ hk)
  have hs : W.heap.size ≤ ((W.setCell ⟨rb, i, none⟩ x).setCell ⟨rb, j, none⟩ y).heap.size := by rw [setCell_size, setCell_size]; exact Nat.le_refl _
  refine ⟨by rw [← hx]; exact heap_set (heap_set h.blk x) y, ?_, ?_, ?_, ?_, hf, hz, hfb⟩
  · rw [ha]; exact h.q0.keep hs hk
  · rw [ha]; exact h.q1.keep hs hk
  · rw [hb]; exact h.q2.keep hs hk
  · rw [hb]; exact h.q3.keep hs hk
theorem own_2 {rb i j : Nat} {x y : Value} (W : World) : Own (fun k => k = rb) W ((W.setCell ⟨rb, i, none⟩ x).setCell ⟨rb, j, none⟩ y) := (Own.set (T := fun k => k = rb) rfl W i x).trans (Own.set (T := fun k => k = rb) rfl _ j y) (fun k hk => .inl hk)
set_option maxHeartbeats 2000000 in
set_option maxRecDepth 100000 in
theorem would0 {w : World} {P : Nat → Prop} {rb : Nat} {d : Dk.D} (h : RE w P rb d) (hP : ∀ k, w.heap.size ≤ k → P k) (a : Ac) (hA : AcOK w a) (hvr : ∀ w', Own (fun k => k = rb) w w' → RB w' a.v a.l) (hS : StartC) (hk : a.kind % 8 = 0) :
    Calls Try.prog 42 #[ptr rb 0, aV a] w (RPost w P rb (d.doo a)) := by
  have hm : (a.kind : Int).tmod 8 = 0 := by rw [rem8 _ hA.kind, hk]; rfl
  have hB : Below w.heap.size w (w.alloc (.cells (aX a) 85)) := (Below.refl _ w).alloc (Nat.le_refl _) _
  obtain ⟨va, vc, hv⟩ := hA.rb.form
  have hP1 : ∀ k, (w.alloc (.cells (aX a) 85)).heap.size ≤ k → P k := fun k hk => hP k (Nat.le_trans hB.size hk)
  have h1 := h.below hB
  have HB : Hid (Below w.heap.size w (w.alloc (.cells (aX a) 85))) := hB
  have HD : Hid (d.doo a = d.append a.file a.l) := by show d.doo a = _; unfold Dk.D.doo; simp only [hk]; simp
  have hC := RAppend_any h1 hP1 a.file a.v a.l (hA.rb.below hB) (fun w' hO => hvr w' ((Own.of hB).trans hO (fun k hk => .inl hk))) hA.len
  obtain ⟨kind, file, n, behind, v, l, k0, k1, c0, c1⟩ := a
  simp only at hv hm hC HD HB hk
  subst hv
  rw [HD.out]
  clear h h1 hA hB hk hP hP1 hvr hS
  generalize d.append file l = r at *
  go_enter Try.func42, Try.ntmps42
  go_wp2_with (go_at_call 70; refine hC.mono ?_; rintro e w2 hp; have hp2 := hp.ahead HB.out; unfold RPost at hp; obtain ⟨rfl, _⟩ := hp)
  go_ret
  exact hp2
set_option maxHeartbeats 2000000 in
set_option maxRecDepth 100000 in
theorem would1 {w : World} {P : Nat → Prop} {rb : Nat} {d : Dk.D} (h : RE w P rb d) (hP : ∀ k, w.heap.size ≤ k → P k) (a : Ac) (hA : AcOK w a) (hvr : ∀ w', Own (fun k => k = rb) w w' → RB w' a.v a.l) (hS : StartC) (hk : a.kind % 8 = 1) :
    Calls Try.prog 42 #[ptr rb 0, aV a] w (RPost w P rb (d.doo a)) := by
  have hm : (a.kind : Int).tmod 8 = 1 := by rw [rem8 _ hA.kind, hk]; rfl
  have hB : Below w.heap.size w (w.alloc (.cells (aX a) 85)) := (Below.refl _ w).alloc (Nat.le_refl _) _
  obtain ⟨va, vc, hv⟩ := hA.rb.form
  have hP1 : ∀ k, (w.alloc (.cells (aX a) 85)).heap.size ≤ k → P k := fun k hk => hP k (Nat.le_trans hB.size hk)
  have h1 := h.below hB
  have HB : Hid (Below w.heap.size w (w.alloc (.cells (aX a) 85))) := hB
  have HD : Hid (d.doo a = d.sync a.file) := by show d.doo a = _; unfold Dk.D.doo; simp only [hk]; simp
  have hC := RSync_any h1 hP1 a.file
  obtain ⟨kind, file, n, behind, v, l, k0, k1, c0, c1⟩ := a
  simp only at hv hm hC HD HB hk
  subst hv
  rw [HD.out]
  clear h h1 hA hB hk hP hP1 hvr hS
  generalize d.sync file = r at *
  go_enter Try.func42, Try.ntmps42
  go_wp2_with (go_at_call 47; refine hC.mono ?_; rintro e w2 hp; have hp2 := hp.ahead HB.out; unfold RPost at hp; obtain ⟨rfl, _⟩ := hp)
  go_ret
  exact hp2
set_option maxHeartbeats 2000000 in
set_option maxRecDepth 100000 in
theorem would2 {w : World} {P : Nat → Prop} {rb : Nat} {d : Dk.D} (h : RE w P rb d) (hP : ∀ k, w.heap.size ≤ k → P k) (a : Ac) (hA : AcOK w a) (hvr : ∀ w', Own (fun k => k = rb) w w' → RB w' a.v a.l) (hS : StartC) (hk : a.kind % 8 = 2) :
    Calls Try.prog 42 #[ptr rb 0, aV a] w (RPost w P rb (d.doo a)) := by
  have hm : (a.kind : Int).tmod 8 = 2 := by rw [rem8 _ hA.kind, hk]; rfl
  have hB : Below w.heap.size w (w.alloc (.cells (aX a) 85)) := (Below.refl _ w).alloc (Nat.le_refl _) _
  obtain ⟨va, vc, hv⟩ := hA.rb.form
  have hP1 : ∀ k, (w.alloc (.cells (aX a) 85)).heap.size ≤ k → P k := fun k hk => hP k (Nat.le_trans hB.size hk)
  have h1 := h.below hB
  have HB : Hid (Below w.heap.size w (w.alloc (.cells (aX a) 85))) := hB
  have HD : Hid (d.doo a = d.trunc a.file a.n) := by show d.doo a = _; unfold Dk.D.doo; simp only [hk]; simp
  have hC := RTruncate_any h1 a.file a.n
  obtain ⟨kind, file, n, behind, v, l, k0, k1, c0, c1⟩ := a
  simp only at hv hm hC HD HB hk
  subst hv
  rw [HD.out]
  clear h h1 hA hB hk hP hP1 hvr hS
  generalize d.trunc file n = r at *
  go_enter Try.func42, Try.ntmps42
  go_wp2_with (go_at_call 46; refine hC.mono ?_; rintro e w2 hp; have hp2 := hp.ahead HB.out; unfold RPost at hp; obtain ⟨rfl, _⟩ := hp)
  go_ret
  exact hp2
set_option maxHeartbeats 2000000 in
set_option maxRecDepth 100000 in
theorem would3 {w : World} {P : Nat → Prop} {rb : Nat} {d : Dk.D} (h : RE w P rb d) (hP : ∀ k, w.heap.size ≤ k → P k) (a : Ac) (hA : AcOK w a) (hvr : ∀ w', Own (fun k => k = rb) w w' → RB w' a.v a.l) (hS : StartC) (hk : a.kind % 8 = 3) :
    Calls Try.prog 42 #[ptr rb 0, aV a] w (RPost w P rb (d.doo a)) := by
  have hm : (a.kind : Int).tmod 8 = 3 := by rw [rem8 _ hA.kind, hk]; rfl
  have hB : Below w.heap.size w (w.alloc (.cells (aX a) 85)) := (Below.refl _ w).alloc (Nat.le_refl _) _
  obtain ⟨va, vc, hv⟩ := hA.rb.form
  have hP1 : ∀ k, (w.alloc (.cells (aX a) 85)).heap.size ≤ k → P k := fun k hk => hP k (Nat.le_trans hB.size hk)
  have h1 := h.below hB
  have HB : Hid (Below w.heap.size w (w.alloc (.cells (aX a) 85))) := hB
  have HD : Hid (d.doo a = d.switch a.file) := by show d.doo a = _; unfold Dk.D.doo; simp only [hk]; simp
  have hC := RSwitch_any h1 a.file
  obtain ⟨kind, file, n, behind, v, l, k0, k1, c0, c1⟩ := a
  simp only at hv hm hC HD HB hk
  subst hv
  rw [HD.out]
  clear h h1 hA hB hk hP hP1 hvr hS
  generalize d.switch file = r at *
  go_enter Try.func42, Try.ntmps42
  go_wp2_with (go_at_call 69; refine hC.mono ?_; rintro e w2 hp; have hp2 := hp.ahead HB.out; unfold RPost at hp; obtain ⟨rfl, _⟩ := hp)
  go_ret
  exact hp2
set_option maxHeartbeats 2000000 in
set_option maxRecDepth 100000 in
theorem would4 {w : World} {P : Nat → Prop} {rb : Nat} {d : Dk.D} (h : RE w P rb d) (hP : ∀ k, w.heap.size ≤ k → P k) (a : Ac) (hA : AcOK w a) (hvr : ∀ w', Own (fun k => k = rb) w w' → RB w' a.v a.l) (hS : StartC) (hk : a.kind % 8 = 4) :
    Calls Try.prog 42 #[ptr rb 0, aV a] w (RPost w P rb (d.doo a)) := by
  have hm : (a.kind : Int).tmod 8 = 4 := by rw [rem8 _ hA.kind, hk]; rfl
  have hB : Below w.heap.size w (w.alloc (.cells (aX a) 85)) := (Below.refl _ w).alloc (Nat.le_refl _) _
  obtain ⟨va, vc, hv⟩ := hA.rb.form
  have hP1 : ∀ k, (w.alloc (.cells (aX a) 85)).heap.size ≤ k → P k := fun k hk => hP k (Nat.le_trans hB.size hk)
  have h1 := h.below hB
  have HB : Hid (Below w.heap.size w (w.alloc (.cells (aX a) 85))) := hB
  have HD : Hid (d.doo a = (0, d.arm a.n a.behind)) := by show d.doo a = _; unfold Dk.D.doo; simp only [hk]; simp
  obtain ⟨fv, b0, s0, b1, s1, h2⟩ := h1
  have hfi := h2.fine
  have hrl := h2.lt
  have hbn := hA.n
  obtain ⟨kind, file, n, behind, v, l, k0, k1, c0, c1⟩ := a
  simp only at hv hm HD HB hk hbn
  subst hv
  rw [HD.out]
  have q8 : (w.alloc (.cells (aX ⟨kind, file, n, behind, .slice va l.length vc, l, k0, k1, c0, c1⟩) 85)).cell? ⟨rb, 8, none⟩ = some (.bool (!d.on)) := h2.cell 8
  have q9 : (w.alloc (.cells (aX ⟨kind, file, n, behind, .slice va l.length vc, l, k0, k1, c0, c1⟩) 85)).cell? ⟨rb, 9, none⟩ = some (.int .i64 fv) := h2.cell 9
  have q10 : (w.alloc (.cells (aX ⟨kind, file, n, behind, .slice va l.length vc, l, k0, k1, c0, c1⟩) 85)).cell? ⟨rb, 10, none⟩ = some (.bool d.behind) := h2.cell 10
  have f8 := h2.free 8
  have f9 := h2.free 9
  have f10 := h2.free 10
  by_cases hn : n < -1
  · have HE : Hid (RPost w P rb (0, d.arm n behind) (.returned (.int .i64 0)) (((w.alloc (.cells (aX ⟨kind, file, n, behind, .slice va l.length vc, l, k0, k1, c0, c1⟩) 85)).setCell ⟨rb, 9, none⟩ (.int .i64 (-1))).setCell ⟨rb, 10, none⟩ (.bool behind))) := RPost.ahead ⟨rfl, ⟨_, _, _, _, _, h2.two (d' := d.arm n behind) (fv' := -1) 9 10 (.int .i64 (-1)) (.bool behind) rfl rfl rfl (hfi.arm hbn behind) (fun _ => by show (-1 : Int) = max n (-1); omega) ⟨by decide, by decide⟩⟩, own_2 _⟩ HB.out
    have hn2 : ¬ (-1 : Int) < n := by omega
    clear h h2 hA hB hk hP hP1 hvr hS hfi hbn hrl
    go_enter Try.func42, Try.ntmps42
    go_wp2
    go_region
    have HE2 : Hid (RPost w P rb (0, d.arm n behind) (.returned (.int .i64 0)) (((w.alloc (.cells (aX ⟨kind, file, n, behind, .slice va l.length vc, l, k0, k1, c0, c1⟩) 85)).setCell ⟨rb, 9, none⟩ (.int .i64 (-1))).setCell ⟨rb, 10, none⟩ (.bool behind)).drew) := ⟨HE.out.1, HE.out.2.1.below ((Below.refl _ _).drew), HE.out.2.2.trans (Own.of (T := fun k => k = rb) ((Below.refl _ _).drew)) (fun k hk => .inl hk)⟩
    go_wp2
    go_ret
    exact HE2.out
  · have HE : Hid (RPost w P rb (0, d.arm n behind) (.returned (.int .i64 0)) (((w.alloc (.cells (aX ⟨kind, file, n, behind, .slice va l.length vc, l, k0, k1, c0, c1⟩) 85)).setCell ⟨rb, 9, none⟩ (.int .i64 n)).setCell ⟨rb, 10, none⟩ (.bool behind))) := RPost.ahead ⟨rfl, ⟨_, _, _, _, _, h2.two (d' := d.arm n behind) (fv' := n) 9 10 (.int .i64 n) (.bool behind) rfl rfl rfl (hfi.arm hbn behind) (fun _ => by show n = max n (-1); omega) hbn⟩, own_2 _⟩ HB.out
    clear h h2 hA hB hk hP hP1 hvr hS hfi hbn hrl
    go_enter Try.func42, Try.ntmps42
    go_wp2
    go_region
    have HE2 : Hid (RPost w P rb (0, d.arm n behind) (.returned (.int .i64 0)) (((w.alloc (.cells (aX ⟨kind, file, n, behind, .slice va l.length vc, l, k0, k1, c0, c1⟩) 85)).setCell ⟨rb, 9, none⟩ (.int .i64 n)).setCell ⟨rb, 10, none⟩ (.bool behind)).drew) := ⟨HE.out.1, HE.out.2.1.below ((Below.refl _ _).drew), HE.out.2.2.trans (Own.of (T := fun k => k = rb) ((Below.refl _ _).drew)) (fun k hk => .inl hk)⟩
    go_wp2
    go_ret
    exact HE2.out
set_option maxHeartbeats 2000000 in
set_option maxRecDepth 100000 in
theorem would5 {w : World} {P : Nat → Prop} {rb : Nat} {d : Dk.D} (h : RE w P rb d) (hP : ∀ k, w.heap.size ≤ k → P k) (a : Ac) (hA : AcOK w a) (hvr : ∀ w', Own (fun k => k = rb) w w' → RB w' a.v a.l) (hS : StartC) (hk : a.kind % 8 = 5) :
    Calls Try.prog 42 #[ptr rb 0, aV a] w (RPost w P rb (d.doo a)) := by
  have hm : (a.kind : Int).tmod 8 = 5 := by rw [rem8 _ hA.kind, hk]; rfl
  have hB : Below w.heap.size w (w.alloc (.cells (aX a) 85)) := (Below.refl _ w).alloc (Nat.le_refl _) _
  obtain ⟨va, vc, hv⟩ := hA.rb.form
  have hP1 : ∀ k, (w.alloc (.cells (aX a) 85)).heap.size ≤ k → P k := fun k hk => hP k (Nat.le_trans hB.size hk)
  have h1 := h.below hB
  have HB : Hid (Below w.heap.size w (w.alloc (.cells (aX a) 85))) := hB
  have HD : Hid (d.doo a = (0, d.fail)) := by show d.doo a = _; unfold Dk.D.doo; simp only [hk]; simp
  obtain ⟨fv, b0, s0, b1, s1, h2⟩ := h1
  have hfi := h2.fine
  have hrl := h2.lt
  have hbn := hA.n
  obtain ⟨kind, file, n, behind, v, l, k0, k1, c0, c1⟩ := a
  simp only at hv hm HD HB hk hbn
  subst hv
  rw [HD.out]
  have q8 : (w.alloc (.cells (aX ⟨kind, file, n, behind, .slice va l.length vc, l, k0, k1, c0, c1⟩) 85)).cell? ⟨rb, 8, none⟩ = some (.bool (!d.on)) := h2.cell 8
  have q9 : (w.alloc (.cells (aX ⟨kind, file, n, behind, .slice va l.length vc, l, k0, k1, c0, c1⟩) 85)).cell? ⟨rb, 9, none⟩ = some (.int .i64 fv) := h2.cell 9
  have q10 : (w.alloc (.cells (aX ⟨kind, file, n, behind, .slice va l.length vc, l, k0, k1, c0, c1⟩) 85)).cell? ⟨rb, 10, none⟩ = some (.bool d.behind) := h2.cell 10
  have f8 := h2.free 8
  have f9 := h2.free 9
  have f10 := h2.free 10
  have HE : Hid (RPost w P rb (0, d.fail) (.returned (.int .i64 0)) (((w.alloc (.cells (aX ⟨kind, file, n, behind, .slice va l.length vc, l, k0, k1, c0, c1⟩) 85)).setCell ⟨rb, 8, none⟩ (.bool true)).setCell ⟨rb, 9, none⟩ (.int .i64 (-1)))) := RPost.ahead ⟨rfl, ⟨_, _, _, _, _, h2.two (d' := d.fail) (fv' := -1) 8 9 (.bool true) (.int .i64 (-1)) rfl rfl rfl hfi.fail (fun e => by cases e) ⟨by decide, by decide⟩⟩, own_2 _⟩ HB.out
  clear h h2 hA hB hk hP hP1 hvr hS hfi hbn hrl
  go_enter Try.func42, Try.ntmps42
  go_wp2
  go_ret
  exact HE.out
set_option maxHeartbeats 2000000 in
set_option maxRecDepth 100000 in
theorem would6 {w : World} {P : Nat → Prop} {rb : Nat} {d : Dk.D} (h : RE w P rb d) (hP : ∀ k, w.heap.size ≤ k → P k) (a : Ac) (hA : AcOK w a) (hvr : ∀ w', Own (fun k => k = rb) w w' → RB w' a.v a.l) (hS : StartC) (hk : a.kind % 8 = 6) :
    Calls Try.prog 42 #[ptr rb 0, aV a] w (RPost w P rb (d.doo a)) := by
  have hm : (a.kind : Int).tmod 8 = 6 := by rw [rem8 _ hA.kind, hk]; rfl
  have hB : Below w.heap.size w (w.alloc (.cells (aX a) 85)) := (Below.refl _ w).alloc (Nat.le_refl _) _
  obtain ⟨va, vc, hv⟩ := hA.rb.form
  have hP1 : ∀ k, (w.alloc (.cells (aX a) 85)).heap.size ≤ k → P k := fun k hk => hP k (Nat.le_trans hB.size hk)
  have h1 := h.below hB
  have HB : Hid (Below w.heap.size w (w.alloc (.cells (aX a) 85))) := hB
  have HD : Hid (d.doo a = d.start a.k0 a.k1 a.c0 a.c1) := by show d.doo a = _; unfold Dk.D.doo; simp only [hk]; simp
  have hC := hS h1 hP1 a.k0 a.k1 a.c0 a.c1 hA.k0 hA.k1
  obtain ⟨kind, file, n, behind, v, l, k0, k1, c0, c1⟩ := a
  simp only at hv hm hC HD HB hk
  subst hv
  rw [HD.out]
  clear h h1 hA hB hk hP hP1 hvr hS
  generalize d.start k0 k1 c0 c1 = r at *
  go_enter Try.func42, Try.ntmps42
  go_wp2_with (go_at_call 23; refine hC.mono ?_; rintro e w2 hp; have hp2 := hp.ahead HB.out; unfold RPost at hp; obtain ⟨rfl, _⟩ := hp)
  go_ret
  exact hp2
set_option maxHeartbeats 2000000 in
set_option maxRecDepth 100000 in
theorem would7 {w : World} {P : Nat → Prop} {rb : Nat} {d : Dk.D} (h : RE w P rb d) (hP : ∀ k, w.heap.size ≤ k → P k) (a : Ac) (hA : AcOK w a) (hvr : ∀ w', Own (fun k => k = rb) w w' → RB w' a.v a.l) (hS : StartC) (hk : a.kind % 8 = 7) :
    Calls Try.prog 42 #[ptr rb 0, aV a] w (RPost w P rb (d.doo a)) := by
  have hm : (a.kind : Int).tmod 8 = 7 := by rw [rem8 _ hA.kind, hk]; rfl
  have hB : Below w.heap.size w (w.alloc (.cells (aX a) 85)) := (Below.refl _ w).alloc (Nat.le_refl _) _
  obtain ⟨va, vc, hv⟩ := hA.rb.form
  have hP1 : ∀ k, (w.alloc (.cells (aX a) 85)).heap.size ≤ k → P k := fun k hk => hP k (Nat.le_trans hB.size hk)
  have h1 := h.below hB
  have HB : Hid (Below w.heap.size w (w.alloc (.cells (aX a) 85))) := hB
  have HD : Hid (d.doo a = d.append a.file a.l) := by show d.doo a = _; unfold Dk.D.doo; simp only [hk]; simp
  have hC := RAppend_any h1 hP1 a.file a.v a.l (hA.rb.below hB) (fun w' hO => hvr w' ((Own.of hB).trans hO (fun k hk => .inl hk))) hA.len
  obtain ⟨kind, file, n, behind, v, l, k0, k1, c0, c1⟩ := a
  simp only at hv hm hC HD HB hk
  subst hv
  rw [HD.out]
  clear h h1 hA hB hk hP hP1 hvr hS
  generalize d.append file l = r at *
  go_enter Try.func42, Try.ntmps42
  go_wp2_with (go_at_call 70; refine hC.mono ?_; rintro e w2 hp; have hp2 := hp.ahead HB.out; unfold RPost at hp; obtain ⟨rfl, _⟩ := hp)
  go_ret
  exact hp2
theorem would_any {w : World} {P : Nat → Prop} {rb : Nat} {d : Dk.D} (h : RE w P rb d) (hP : ∀ k, w.heap.size ≤ k → P k) (a : Ac) (hA : AcOK w a) (hvr : ∀ w', Own (fun k => k = rb) w w' → RB w' a.v a.l) (hS : StartC) :
    Calls Try.prog 42 #[ptr rb 0, aV a] w (RPost w P rb (d.doo a)) := by
  have hlt : a.kind % 8 < 8 := Nat.mod_lt _ (by decide)
  rcases (by omega : a.kind % 8 = 0 ∨ a.kind % 8 = 1 ∨ a.kind % 8 = 2 ∨ a.kind % 8 = 3 ∨ a.kind % 8 = 4 ∨ a.kind % 8 = 5 ∨ a.kind % 8 = 6 ∨ a.kind % 8 = 7) with hk | hk | hk | hk | hk | hk | hk | hk
  · exact would0 h hP a hA hvr hS hk
  · exact would1 h hP a hA hvr hS hk
  · exact would2 h hP a hA hvr hS hk
  · exact would3 h hP a hA hvr hS hk
  · exact would4 h hP a hA hvr hS hk
  · exact would5 h hP a hA hvr hS hk
  · exact would6 h hP a hA hvr hS hk
  · exact would7 h hP a hA hvr hS hk
end Go.Proofs.Ytcjbceidgaieaaa
