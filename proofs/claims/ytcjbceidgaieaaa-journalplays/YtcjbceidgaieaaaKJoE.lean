/- The contract of the document's Open. -/
import Derived.Test.YtcjbceidgaieaaaKJoC
import Derived.BigQuiet
set_option linter.unusedVariables false
set_option linter.unusedSimpArgs false
namespace Go.Proofs.Ytcjbceidgaieaaa
open Go.RowKit
/-- What a new journal of the document's has. -/
abbrev kX (rb : Nat) : Array Value := #[ptr rb 0, .slice none 0 0, .int .i64 0]
abbrev kX0 : Array Value := #[.pointer none, .slice none 0 0, .int .i64 0]
theorem sizeK : (Try.prog.info? 43).map (·.size) = some 3 := by kernel_rfl
theorem load_K {w : World} {b : Nat} {X : Array Value} (h : w.heap[b]? = some (.cells X 43 (0, 0))) (hX : X.size = 3) : (loadVar 43 ⟨b, 0, none⟩).run Try.prog w = .ok (.agg X) w :=
  run_loadVar_row _ _ _ _ _ _ _ h Try.underlying43 rfl (by rw [hX]; exact sizeK)
theorem results_three {fn : Func} {p q r : Tmp} {ty : TypeId} (h : fn.results = #[.cell p ty, .tmp q, .tmp r]) (tmps : Array Value) (P : Program) (w : World) (a : Addr) (x : Value) (hp : tmps.getD p undef = .pointer (some a)) (hl : (loadVar ty a).run P w = .ok x w) :
    (results fn tmps).run P w = .ok (.tuple #[x, tmps.getD q undef, tmps.getD r undef]) w := by
  have hp2 : tmps[p]?.getD undef = .pointer (some a) := by rw [← hp]; simp
  simp only [results, h]
  simp [Sem.run_bind, Result.andThen, asAddr, hp2, hl]
theorem exec_store_K {w : World} {o : Oper} {a : Act} (x y : Operand) (ho : o.op = .store 43 x y) (b : Nat) (u g : Value) (n : Int) (Y : Array Value) (hx : a.eval x = ptr b 0) (hy : a.eval y = .agg #[u, g, .int .i64 n]) (h : w.heap[b]? = some (.cells Y 43 (0, 0))) (hY : Y.size = 3) (hu : u.oneCell' = true) (hg : g.oneCell' = true) : (execOp a.eval o).run Try.prog w = .ok .skip (w.setRow b #[u, g, .int .i64 n]) := by
  unfold execOp
  rw [ho]
  have e2 : (Instr.storeAt 43 (ptr b 0) (.agg #[u, g, .int .i64 n])).run Try.prog w = .ok () (w.setRow b #[u, g, .int .i64 n]) := by
    simp only [Instr.storeAt, Instr.sureAddr, Sem.run_bind, Sem.run_pure, Result.andThen]
    exact run_storeVar_row _ _ _ _ _ _ h sizeK hY (by simp [hu, hg]; rfl)
  simp only [hx, hy, Sem.run_bind, e2, Result.andThen, Sem.run_pure]
theorem wpList_store_K {ops : Array Oper} {rest : List Oper} {o : Oper} {a : Act} {w : World} {Q : Exit → Act → World → Prop} (x y : Operand) (ho : o.op = .store 43 x y) (hgd : o.guard = none) (b : Nat) (u g : Value) (n : Int) (Y : Array Value) (hx : a.eval x = ptr b 0) (hy : a.eval y = .agg #[u, g, .int .i64 n]) (h : w.heap[b]? = some (.cells Y 43 (0, 0))) (hY : Y.size = 3) (hu : u.oneCell' = true) (hg : g.oneCell' = true)
    (hn : ∀ w', w'.heap[b]? = some (.cells #[u, g, .int .i64 n] 43 (0, 0)) → Own (fun k => k = b) w w' → wpList Try.prog ops Q rest (a.put o.dst undef) w') : wpList Try.prog ops Q (o :: rest) a w := by
  refine wpList_plain hgd fun KC hK => ?_
  unfold Oper.wp
  rw [exec_store_K x y ho b u g n Y hx hy h hY hu hg, Oper.upon_skip]
  exact hK _ _ (hn _ (setRow_heap w b Y _ _ _ h) ⟨rfl, rfl, rfl, by simp [World.setRow], fun k _ hk => setRow_other w b k _ hk⟩)
theorem RE.see {W : World} {P : Nat → Prop} {rb : Nat} {d : Dk.D} (h : RE W P rb d) {n0 n1 : Nat} (h0 : Hid (d.a.now.length = n0)) (h1 : Hid (d.b.now.length = n1)) : W.cell? ⟨rb, 8, none⟩ = some (.bool (!d.on)) ∧ W.cell? ⟨rb, 6, none⟩ = some (.int .i64 d.root) ∧ (∃ a c, W.cell? ⟨rb, 0, none⟩ = some (.slice a n0 c) ∧ RQ W P rb (.slice a n0 c) d.a.now) ∧ (∃ a c, W.cell? ⟨rb, 3, none⟩ = some (.slice a n1 c) ∧ RQ W P rb (.slice a n1 c) d.b.now) := by
  obtain ⟨fv, b0, s0, b1, s1, hr⟩ := h
  obtain ⟨a, c, e0⟩ := hr.q0.rd.form
  obtain ⟨a', c', e1⟩ := hr.q2.rd.form
  rw [h0.out] at e0
  rw [h1.out] at e1
  refine ⟨hr.cell 8, hr.cell 6, ⟨a, c, ?_, ?_⟩, ⟨a', c', ?_, ?_⟩⟩
  · rw [← e0]; exact hr.cell 0
  · rw [← e0]; exact hr.q0
  · rw [← e1]; exact hr.cell 3
  · rw [← e1]; exact hr.q2
theorem RE.fine {W : World} {P : Nat → Prop} {rb : Nat} {d : Dk.D} (h : RE W P rb d) : d.Fine := by
  obtain ⟨fv, b0, s0, b1, s1, hr⟩ := h
  exact hr.fine
/-- What the document's Open leaves. -/
def ROPost (W : World) (P : Nat → Prop) (rb : Nat) (rs : List (List UInt8)) (d : Dk.D) (e : Ending) (w' : World) : Prop := ∃ a c B, e = .returned (.tuple #[.agg (kX rb), .slice a rs.length c, .int .i64 0]) ∧ RE w' P rb d ∧ Own (fun k => k = rb) W w' ∧ W.heap.size ≤ B ∧ OR w' B (.slice a rs.length c) rs
abbrev oZ : Obj := .cells kX0 43
/-- Within the document's Open: the disk, the result's block, the records. -/
structure RO (W : World) (P : Nat → Prop) (rb : Nat) (d : Dk.D) (u : Value) (rs : List (List UInt8)) (w' : World) : Prop where
  re : RE w' (fun k => P k ∧ k ≠ W.heap.size) rb d
  blk : w'.heap[W.heap.size]? = some (.cells kX0 43 (0, 0))
  own : Own (fun k => k = rb) W w'
  rows : OR w' (W.heap.size + 1) u rs
  lt : rb < W.heap.size
  big : W.heap.size + 1 ≤ w'.heap.size
theorem RO.new {W : World} {P : Nat → Prop} {rb : Nat} {d : Dk.D} {u : Value} {rs : List (List UInt8)} {w' : World} (h : RO W P rb d u rs w') (hP : ∀ k, W.heap.size ≤ k → P k) : ∀ k, w'.heap.size ≤ k → (P k ∧ k ≠ W.heap.size) := fun k hk => ⟨hP k (by have := h.big; omega), by have := h.big; omega⟩
theorem RO.below {W : World} {P : Nat → Prop} {rb : Nat} {d : Dk.D} {u : Value} {rs : List (List UInt8)} {w' w2 : World} (h : RO W P rb d u rs w') (hB : Below w'.heap.size w' w2) : RO W P rb d u rs w2 :=
  ⟨h.re.below hB, (hB.block _ (by have := h.big; omega)).trans h.blk, h.own.trans (Own.of (T := fun _ => False) hB) (fun k hk => hk.elim), h.rows.below hB, h.lt, Nat.le_trans h.big hB.size⟩
theorem RO.turn {W : World} {P : Nat → Prop} {rb : Nat} {d d' : Dk.D} {u : Value} {rs : List (List UInt8)} {w' w2 : World} (h : RO W P rb d u rs w') (hR : RE w2 (fun k => P k ∧ k ≠ W.heap.size) rb d') (hO : Own (fun k => k = rb) w' w2) : RO W P rb d' u rs w2 :=
  ⟨hR, (hO.block _ (by have := h.big; omega) (by have := h.lt; omega)).trans h.blk, h.own.trans hO (fun k hk => .inl hk), h.rows.keep (fun k hb hk => hO.block k hk (by have := h.lt; omega)), h.lt, Nat.le_trans h.big hO.size⟩
theorem RO.ends {W : World} {P : Nat → Prop} {rb : Nat} {d : Dk.D} {a : Option Addr} {c : Nat} {rs : List (List UInt8)} {w' w2 : World} (h : RO W P rb d (.slice a rs.length c) rs w') (hO : Own (fun k => k = W.heap.size) w' w2) : ROPost W P rb rs d (.returned (.tuple #[.agg (kX rb), .slice a rs.length c, .int .i64 0])) w2 :=
  ⟨a, c, W.heap.size + 1, rfl, h.re.turn hO.size (hO.block rb h.re.lt (by have := h.lt; omega)) (fun k hk hp _ => hO.block k hk hp.2) (fun k _ hp => hp.1), h.own.trans hO (fun k hk => .inr (by omega)), by omega, h.rows.keep (fun k hb hk => hO.block k hk (by omega))⟩
theorem RE.zero {W : World} {P : Nat → Prop} {rb : Nat} {d : Dk.D} (h : RE W P rb d) : RE (W.alloc oZ) (fun k => P k ∧ k ≠ W.heap.size) rb d := h.turn (alloc1 W oZ).size ((alloc1 W oZ).block rb h.lt) (fun k hk _ _ => (alloc1 W oZ).block k hk) (fun k hk hp => ⟨hp, by omega⟩)
theorem RO.made {W : World} {P : Nat → Prop} {rb : Nat} {d : Dk.D} (h : RE W P rb d) {u : Value} {rs : List (List UInt8)} {w2 : World} (hB : Below (W.alloc oZ).heap.size (W.alloc oZ) w2) (ho : OR w2 (W.alloc oZ).heap.size u rs) : RO W P rb d u rs w2 := by
  rw [size_alloc] at ho
  have hs := hB.size
  rw [size_alloc] at hs
  exact ⟨h.zero.below hB, (hB.block _ (by rw [size_alloc]; omega)).trans (heap_new W oZ), (Own.of (alloc1 W oZ)).trans (Own.of (T := fun _ => False) hB) (fun k hk => hk.elim), ho, h.lt, hs⟩
set_option maxHeartbeats 8000000 in
set_option maxRecDepth 100000 in
theorem ROpen_000 {W : World} {P : Nat → Prop} {rb : Nat} {d : Dk.D} (h : RE W P rb d) (hP : ∀ k, W.heap.size ≤ k → P k) (hon : d.on = true) (hrt : d.root = 0) {rs : List (List UInt8)} (hr : Hid (Jn.scan d.a.now = rs)) (hT : (Jn.frames rs).length = d.a.now.length) (hN : d.b.now.length = 0) :
    Calls Try.prog 14 #[ptr rb 0] W (ROPost W P rb rs d) := by
  obtain ⟨n0, HN0⟩ : ∃ n0, Hid (d.a.now.length = n0) := ⟨_, rfl⟩
  obtain ⟨n1, HN1⟩ : ∃ n1, Hid (d.b.now.length = n1) := ⟨_, rfl⟩
  have hl0 : n0 ≤ 1048576 := by rw [← HN0.out]; exact h.fine.a.now
  have hl1 : n1 ≤ 1048576 := by rw [← HN1.out]; exact h.fine.b.now
  obtain ⟨S, HS⟩ : ∃ S, Hid ((Jn.frames rs).length = S) := ⟨_, rfl⟩
  rw [HS.out, HN0.out] at hT
  have hti : ¬ (S : Int) < (n0 : Int) := by omega
  have H0 := hide9 h.zero
  obtain ⟨c8, -, -, -⟩ := H0.out.see HN0 HN1
  rw [hon] at c8
  obtain ⟨-, c6, ⟨a0, k0, c0, q0⟩, ⟨a1, k1, c1, q1⟩⟩ := (H0.out.below (bel_drew _)).see HN0 HN1
  rw [hrt] at c6
  have CS := RScan_any q0.rd (by have := h.fine.a.now; omega)
  rw [hr.out, HS.out] at CS
  have HH := hide9 h
  have HP := hide9 hP
  clear h hP q0 q1 hr hon
  rw [HN1.out] at hN
  have hni : ¬ 0 < (n1 : Int) := by omega
  clear hT hN
  go_enter Try.func14, Try.ntmps14
  go_wp2
  go_region_with (go_at_call 33; refine CS.mono ?_; rintro e w2 ⟨u, rfl, ho2, hB2⟩; obtain ⟨ua, uc, rfl⟩ := ho2.form; have R2 := hide9 (RO.made HH.out (bel (bel_drew _) hB2) ho2); clear CS hB2 ho2)
  all_goals
    clear c8 c6 c0 c1 H0
    have R3 := hide9 (R2.out.below (bel_drew w2))
    obtain ⟨-, c6, ⟨a0, k0, c0, -⟩, ⟨a1, k1, c1, -⟩⟩ := R3.out.re.see HN0 HN1
    rw [hrt] at c6
    go_wp2
    go_region
    go_wp2
    clear c0 c1 c6
    have R6 := hide9 (R3.out.below (bel_drew w2.drew))
    obtain ⟨-, c6, ⟨a0, k0, c0, -⟩, ⟨a1, k1, c1, -⟩⟩ := R6.out.re.see HN0 HN1
    rw [hrt] at c6
    go_region
    clear c0 c1
    go_wp2_with ((with_reducible show wpList _ _ _ ({ op := Op.store 43 _ _, .. } :: _) _ _); refine wpList_store_K _ _ rfl rfl W.heap.size (ptr rb 0) (.slice none 0 0) 0 kX0 rfl rfl R6.out.blk rfl rfl rfl ?_; intro w7 hb7 hO7)
    refine bodyPost_ret (results_three rfl _ _ _ _ (.agg (kX rb)) rfl (load_K hb7 rfl)) rfl ?_
    exact R6.out.ends hO7
set_option maxHeartbeats 8000000 in
set_option maxRecDepth 100000 in
theorem ROpen_001 {W : World} {P : Nat → Prop} {rb : Nat} {d d3 d4 : Dk.D} (h : RE W P rb d) (hP : ∀ k, W.heap.size ≤ k → P k) (hon : d.on = true) (hrt : d.root = 0) {rs : List (List UInt8)} (hr : Hid (Jn.scan d.a.now = rs)) (hT : (Jn.frames rs).length = d.a.now.length) (hN : 0 < d.b.now.length) (E3 : Hid (d.trunc 1 0 = (0, d3))) (E4 : Hid (d3.sync 1 = (0, d4))) :
    Calls Try.prog 14 #[ptr rb 0] W (ROPost W P rb rs d4) := by
  obtain ⟨n0, HN0⟩ : ∃ n0, Hid (d.a.now.length = n0) := ⟨_, rfl⟩
  obtain ⟨n1, HN1⟩ : ∃ n1, Hid (d.b.now.length = n1) := ⟨_, rfl⟩
  have hl0 : n0 ≤ 1048576 := by rw [← HN0.out]; exact h.fine.a.now
  have hl1 : n1 ≤ 1048576 := by rw [← HN1.out]; exact h.fine.b.now
  obtain ⟨S, HS⟩ : ∃ S, Hid ((Jn.frames rs).length = S) := ⟨_, rfl⟩
  rw [HS.out, HN0.out] at hT
  have hti : ¬ (S : Int) < (n0 : Int) := by omega
  have hd3 : d3.root = 0 := by have := trunc_root d 1 0; rw [E3.out] at this; exact this.trans hrt
  have H0 := hide9 h.zero
  obtain ⟨c8, -, -, -⟩ := H0.out.see HN0 HN1
  rw [hon] at c8
  obtain ⟨-, c6, ⟨a0, k0, c0, q0⟩, ⟨a1, k1, c1, q1⟩⟩ := (H0.out.below (bel_drew _)).see HN0 HN1
  rw [hrt] at c6
  have CS := RScan_any q0.rd (by have := h.fine.a.now; omega)
  rw [hr.out, HS.out] at CS
  have HH := hide9 h
  have HP := hide9 hP
  clear h hP q0 q1 hr hon
  rw [HN1.out] at hN
  have hni : 0 < (n1 : Int) := by omega
  clear hT hN
  go_enter Try.func14, Try.ntmps14
  go_wp2
  go_region_with (go_at_call 33; refine CS.mono ?_; rintro e w2 ⟨u, rfl, ho2, hB2⟩; obtain ⟨ua, uc, rfl⟩ := ho2.form; have R2 := hide9 (RO.made HH.out (bel (bel_drew _) hB2) ho2); clear CS hB2 ho2)
  all_goals
    clear c8 c6 c0 c1 H0
    have R3 := hide9 (R2.out.below (bel_drew w2))
    obtain ⟨-, c6, ⟨a0, k0, c0, -⟩, ⟨a1, k1, c1, -⟩⟩ := R3.out.re.see HN0 HN1
    rw [hrt] at c6
    go_wp2
    go_region
    go_wp2
    clear c0 c1 c6
    have R6 := hide9 (R3.out.below (bel_drew w2.drew))
    obtain ⟨-, c6, ⟨a0, k0, c0, -⟩, ⟨a1, k1, c1, -⟩⟩ := R6.out.re.see HN0 HN1
    rw [hrt] at c6
    have CT := RTruncate_any R6.out.re 1 0
    rw [E3.out] at CT
    go_region
    clear c0 c1
    go_wp2_with (first
      | (go_at_call 46; refine CT.mono ?_; rintro e w5 ⟨rfl, hR5, hO5⟩; have R7 := hide9 (R6.out.turn hR5 hO5); have c6 := R7.out.re.root; rw [hd3] at c6; have CY := RSync_any R7.out.re (R7.out.new HP.out) 1; rw [E4.out] at CY; clear CT hR5 hO5)
      | (go_at_call 47; refine CY.mono ?_; rintro e w6 ⟨rfl, hR6, hO6⟩; have R8 := hide9 (R7.out.turn hR6 hO6); clear CY hR6 hO6 c6)
      | ((with_reducible show wpList _ _ _ ({ op := Op.store 43 _ _, .. } :: _) _ _); refine wpList_store_K _ _ rfl rfl W.heap.size (ptr rb 0) (.slice none 0 0) 0 kX0 rfl rfl R8.out.blk rfl rfl rfl ?_; intro w7 hb7 hO7))
    refine bodyPost_ret (results_three rfl _ _ _ _ (.agg (kX rb)) rfl (load_K hb7 rfl)) rfl ?_
    exact R8.out.ends hO7
set_option maxHeartbeats 8000000 in
set_option maxRecDepth 100000 in
theorem ROpen_010 {W : World} {P : Nat → Prop} {rb : Nat} {d d1 d2 : Dk.D} (h : RE W P rb d) (hP : ∀ k, W.heap.size ≤ k → P k) (hon : d.on = true) (hrt : d.root = 0) {rs : List (List UInt8)} (hr : Hid (Jn.scan d.a.now = rs)) (hT : (Jn.frames rs).length < d.a.now.length) (E1 : Hid (d.trunc 0 ((Jn.frames rs).length : Int) = (0, d1))) (E2 : Hid (d1.sync 0 = (0, d2))) (hN : d2.b.now.length = 0) :
    Calls Try.prog 14 #[ptr rb 0] W (ROPost W P rb rs d2) := by
  obtain ⟨n0, HN0⟩ : ∃ n0, Hid (d.a.now.length = n0) := ⟨_, rfl⟩
  obtain ⟨n1, HN1⟩ : ∃ n1, Hid (d.b.now.length = n1) := ⟨_, rfl⟩
  have hl0 : n0 ≤ 1048576 := by rw [← HN0.out]; exact h.fine.a.now
  have hl1 : n1 ≤ 1048576 := by rw [← HN1.out]; exact h.fine.b.now
  obtain ⟨S, HS⟩ : ∃ S, Hid ((Jn.frames rs).length = S) := ⟨_, rfl⟩
  rw [HS.out, HN0.out] at hT
  rw [HS.out] at E1
  have hti : (S : Int) < (n0 : Int) := by omega
  have hd1 : d1.root = 0 := by have := trunc_root d 0 (S : Int); rw [E1.out] at this; exact this.trans hrt
  have hd2 : d2.root = 0 := by have := sync_root d1 0; rw [E2.out] at this; exact this.trans hd1
  have H0 := hide9 h.zero
  obtain ⟨c8, -, -, -⟩ := H0.out.see HN0 HN1
  rw [hon] at c8
  obtain ⟨-, c6, ⟨a0, k0, c0, q0⟩, ⟨a1, k1, c1, q1⟩⟩ := (H0.out.below (bel_drew _)).see HN0 HN1
  rw [hrt] at c6
  have CS := RScan_any q0.rd (by have := h.fine.a.now; omega)
  rw [hr.out, HS.out] at CS
  have HH := hide9 h
  have HP := hide9 hP
  clear h hP q0 q1 hr hon
  obtain ⟨m0, HM0⟩ : ∃ m0, Hid (d2.a.now.length = m0) := ⟨_, rfl⟩
  obtain ⟨m1, HM1⟩ : ∃ m1, Hid (d2.b.now.length = m1) := ⟨_, rfl⟩
  rw [HM1.out] at hN
  have hni : ¬ 0 < (m1 : Int) := by omega
  clear hT hN
  go_enter Try.func14, Try.ntmps14
  go_wp2
  go_region_with (go_at_call 33; refine CS.mono ?_; rintro e w2 ⟨u, rfl, ho2, hB2⟩; obtain ⟨ua, uc, rfl⟩ := ho2.form; have R2 := hide9 (RO.made HH.out (bel (bel_drew _) hB2) ho2); clear CS hB2 ho2)
  all_goals
    clear c8 c6 c0 c1 H0
    have R3 := hide9 (R2.out.below (bel_drew w2))
    obtain ⟨-, c6, ⟨a0, k0, c0, -⟩, ⟨a1, k1, c1, -⟩⟩ := R3.out.re.see HN0 HN1
    rw [hrt] at c6
    have CT := RTruncate_any R3.out.re 0 (S : Int)
    rw [E1.out] at CT
    go_wp2
    go_region
    clear c0 c1
    go_wp2_with (first
      | (go_at_call 46; refine CT.mono ?_; rintro e w3 ⟨rfl, hR3, hO3⟩; have R4 := hide9 (R3.out.turn hR3 hO3); have c6 := R4.out.re.root; rw [hd1] at c6; have CY := RSync_any R4.out.re (R4.out.new HP.out) 0; rw [E2.out] at CY; clear CT hR3 hO3)
      | (go_at_call 47; refine CY.mono ?_; rintro e w4 ⟨rfl, hR4, hO4⟩; have R5 := hide9 (R4.out.turn hR4 hO4); clear CY hR4 hO4 c6))
    have R6 := hide9 (R5.out.below (bel_drew w4))
    obtain ⟨-, c6, ⟨a0, k0, c0, -⟩, ⟨a1, k1, c1, -⟩⟩ := R6.out.re.see HM0 HM1
    rw [hd2] at c6
    go_region
    clear c0 c1
    go_wp2_with ((with_reducible show wpList _ _ _ ({ op := Op.store 43 _ _, .. } :: _) _ _); refine wpList_store_K _ _ rfl rfl W.heap.size (ptr rb 0) (.slice none 0 0) 0 kX0 rfl rfl R6.out.blk rfl rfl rfl ?_; intro w7 hb7 hO7)
    refine bodyPost_ret (results_three rfl _ _ _ _ (.agg (kX rb)) rfl (load_K hb7 rfl)) rfl ?_
    exact R6.out.ends hO7
set_option maxHeartbeats 8000000 in
set_option maxRecDepth 100000 in
theorem ROpen_011 {W : World} {P : Nat → Prop} {rb : Nat} {d d1 d2 d3 d4 : Dk.D} (h : RE W P rb d) (hP : ∀ k, W.heap.size ≤ k → P k) (hon : d.on = true) (hrt : d.root = 0) {rs : List (List UInt8)} (hr : Hid (Jn.scan d.a.now = rs)) (hT : (Jn.frames rs).length < d.a.now.length) (E1 : Hid (d.trunc 0 ((Jn.frames rs).length : Int) = (0, d1))) (E2 : Hid (d1.sync 0 = (0, d2))) (hN : 0 < d2.b.now.length) (E3 : Hid (d2.trunc 1 0 = (0, d3))) (E4 : Hid (d3.sync 1 = (0, d4))) :
    Calls Try.prog 14 #[ptr rb 0] W (ROPost W P rb rs d4) := by
  obtain ⟨n0, HN0⟩ : ∃ n0, Hid (d.a.now.length = n0) := ⟨_, rfl⟩
  obtain ⟨n1, HN1⟩ : ∃ n1, Hid (d.b.now.length = n1) := ⟨_, rfl⟩
  have hl0 : n0 ≤ 1048576 := by rw [← HN0.out]; exact h.fine.a.now
  have hl1 : n1 ≤ 1048576 := by rw [← HN1.out]; exact h.fine.b.now
  obtain ⟨S, HS⟩ : ∃ S, Hid ((Jn.frames rs).length = S) := ⟨_, rfl⟩
  rw [HS.out, HN0.out] at hT
  rw [HS.out] at E1
  have hti : (S : Int) < (n0 : Int) := by omega
  have hd1 : d1.root = 0 := by have := trunc_root d 0 (S : Int); rw [E1.out] at this; exact this.trans hrt
  have hd2 : d2.root = 0 := by have := sync_root d1 0; rw [E2.out] at this; exact this.trans hd1
  have hd3 : d3.root = 0 := by have := trunc_root d2 1 0; rw [E3.out] at this; exact this.trans hd2
  have H0 := hide9 h.zero
  obtain ⟨c8, -, -, -⟩ := H0.out.see HN0 HN1
  rw [hon] at c8
  obtain ⟨-, c6, ⟨a0, k0, c0, q0⟩, ⟨a1, k1, c1, q1⟩⟩ := (H0.out.below (bel_drew _)).see HN0 HN1
  rw [hrt] at c6
  have CS := RScan_any q0.rd (by have := h.fine.a.now; omega)
  rw [hr.out, HS.out] at CS
  have HH := hide9 h
  have HP := hide9 hP
  clear h hP q0 q1 hr hon
  obtain ⟨m0, HM0⟩ : ∃ m0, Hid (d2.a.now.length = m0) := ⟨_, rfl⟩
  obtain ⟨m1, HM1⟩ : ∃ m1, Hid (d2.b.now.length = m1) := ⟨_, rfl⟩
  rw [HM1.out] at hN
  have hni : 0 < (m1 : Int) := by omega
  clear hT hN
  go_enter Try.func14, Try.ntmps14
  go_wp2
  go_region_with (go_at_call 33; refine CS.mono ?_; rintro e w2 ⟨u, rfl, ho2, hB2⟩; obtain ⟨ua, uc, rfl⟩ := ho2.form; have R2 := hide9 (RO.made HH.out (bel (bel_drew _) hB2) ho2); clear CS hB2 ho2)
  all_goals
    clear c8 c6 c0 c1 H0
    have R3 := hide9 (R2.out.below (bel_drew w2))
    obtain ⟨-, c6, ⟨a0, k0, c0, -⟩, ⟨a1, k1, c1, -⟩⟩ := R3.out.re.see HN0 HN1
    rw [hrt] at c6
    have CT := RTruncate_any R3.out.re 0 (S : Int)
    rw [E1.out] at CT
    go_wp2
    go_region
    clear c0 c1
    go_wp2_with (first
      | (go_at_call 46; refine CT.mono ?_; rintro e w3 ⟨rfl, hR3, hO3⟩; have R4 := hide9 (R3.out.turn hR3 hO3); have c6 := R4.out.re.root; rw [hd1] at c6; have CY := RSync_any R4.out.re (R4.out.new HP.out) 0; rw [E2.out] at CY; clear CT hR3 hO3)
      | (go_at_call 47; refine CY.mono ?_; rintro e w4 ⟨rfl, hR4, hO4⟩; have R5 := hide9 (R4.out.turn hR4 hO4); clear CY hR4 hO4 c6))
    have R6 := hide9 (R5.out.below (bel_drew w4))
    obtain ⟨-, c6, ⟨a0, k0, c0, -⟩, ⟨a1, k1, c1, -⟩⟩ := R6.out.re.see HM0 HM1
    rw [hd2] at c6
    have CT := RTruncate_any R6.out.re 1 0
    rw [E3.out] at CT
    go_region
    clear c0 c1
    go_wp2_with (first
      | (go_at_call 46; refine CT.mono ?_; rintro e w5 ⟨rfl, hR5, hO5⟩; have R7 := hide9 (R6.out.turn hR5 hO5); have c6 := R7.out.re.root; rw [hd3] at c6; have CY := RSync_any R7.out.re (R7.out.new HP.out) 1; rw [E4.out] at CY; clear CT hR5 hO5)
      | (go_at_call 47; refine CY.mono ?_; rintro e w6 ⟨rfl, hR6, hO6⟩; have R8 := hide9 (R7.out.turn hR6 hO6); clear CY hR6 hO6 c6)
      | ((with_reducible show wpList _ _ _ ({ op := Op.store 43 _ _, .. } :: _) _ _); refine wpList_store_K _ _ rfl rfl W.heap.size (ptr rb 0) (.slice none 0 0) 0 kX0 rfl rfl R8.out.blk rfl rfl rfl ?_; intro w7 hb7 hO7))
    refine bodyPost_ret (results_three rfl _ _ _ _ (.agg (kX rb)) rfl (load_K hb7 rfl)) rfl ?_
    exact R8.out.ends hO7
set_option maxHeartbeats 8000000 in
set_option maxRecDepth 100000 in
theorem ROpen_100 {W : World} {P : Nat → Prop} {rb : Nat} {d : Dk.D} (h : RE W P rb d) (hP : ∀ k, W.heap.size ≤ k → P k) (hon : d.on = true) (hrt : d.root = 1) {rs : List (List UInt8)} (hr : Hid (Jn.scan d.b.now = rs)) (hT : (Jn.frames rs).length = d.b.now.length) (hN : d.a.now.length = 0) :
    Calls Try.prog 14 #[ptr rb 0] W (ROPost W P rb rs d) := by
  obtain ⟨n0, HN0⟩ : ∃ n0, Hid (d.a.now.length = n0) := ⟨_, rfl⟩
  obtain ⟨n1, HN1⟩ : ∃ n1, Hid (d.b.now.length = n1) := ⟨_, rfl⟩
  have hl0 : n0 ≤ 1048576 := by rw [← HN0.out]; exact h.fine.a.now
  have hl1 : n1 ≤ 1048576 := by rw [← HN1.out]; exact h.fine.b.now
  obtain ⟨S, HS⟩ : ∃ S, Hid ((Jn.frames rs).length = S) := ⟨_, rfl⟩
  rw [HS.out, HN1.out] at hT
  have hti : ¬ (S : Int) < (n1 : Int) := by omega
  have H0 := hide9 h.zero
  obtain ⟨c8, -, -, -⟩ := H0.out.see HN0 HN1
  rw [hon] at c8
  obtain ⟨-, c6, ⟨a0, k0, c0, q0⟩, ⟨a1, k1, c1, q1⟩⟩ := (H0.out.below (bel_drew _)).see HN0 HN1
  rw [hrt] at c6
  have CS := RScan_any q1.rd (by have := h.fine.b.now; omega)
  rw [hr.out, HS.out] at CS
  have HH := hide9 h
  have HP := hide9 hP
  clear h hP q0 q1 hr hon
  rw [HN0.out] at hN
  have hni : ¬ 0 < (n0 : Int) := by omega
  clear hT hN
  go_enter Try.func14, Try.ntmps14
  go_wp2
  go_region_with (go_at_call 33; refine CS.mono ?_; rintro e w2 ⟨u, rfl, ho2, hB2⟩; obtain ⟨ua, uc, rfl⟩ := ho2.form; have R2 := hide9 (RO.made HH.out (bel (bel_drew _) hB2) ho2); clear CS hB2 ho2)
  all_goals
    clear c8 c6 c0 c1 H0
    have R3 := hide9 (R2.out.below (bel_drew w2))
    obtain ⟨-, c6, ⟨a0, k0, c0, -⟩, ⟨a1, k1, c1, -⟩⟩ := R3.out.re.see HN0 HN1
    rw [hrt] at c6
    go_wp2
    go_region
    go_wp2
    clear c0 c1 c6
    have R6 := hide9 (R3.out.below (bel_drew w2.drew))
    obtain ⟨-, c6, ⟨a0, k0, c0, -⟩, ⟨a1, k1, c1, -⟩⟩ := R6.out.re.see HN0 HN1
    rw [hrt] at c6
    go_region
    clear c0 c1
    go_wp2_with ((with_reducible show wpList _ _ _ ({ op := Op.store 43 _ _, .. } :: _) _ _); refine wpList_store_K _ _ rfl rfl W.heap.size (ptr rb 0) (.slice none 0 0) 0 kX0 rfl rfl R6.out.blk rfl rfl rfl ?_; intro w7 hb7 hO7)
    refine bodyPost_ret (results_three rfl _ _ _ _ (.agg (kX rb)) rfl (load_K hb7 rfl)) rfl ?_
    exact R6.out.ends hO7
set_option maxHeartbeats 8000000 in
set_option maxRecDepth 100000 in
theorem ROpen_101 {W : World} {P : Nat → Prop} {rb : Nat} {d d3 d4 : Dk.D} (h : RE W P rb d) (hP : ∀ k, W.heap.size ≤ k → P k) (hon : d.on = true) (hrt : d.root = 1) {rs : List (List UInt8)} (hr : Hid (Jn.scan d.b.now = rs)) (hT : (Jn.frames rs).length = d.b.now.length) (hN : 0 < d.a.now.length) (E3 : Hid (d.trunc 0 0 = (0, d3))) (E4 : Hid (d3.sync 0 = (0, d4))) :
    Calls Try.prog 14 #[ptr rb 0] W (ROPost W P rb rs d4) := by
  obtain ⟨n0, HN0⟩ : ∃ n0, Hid (d.a.now.length = n0) := ⟨_, rfl⟩
  obtain ⟨n1, HN1⟩ : ∃ n1, Hid (d.b.now.length = n1) := ⟨_, rfl⟩
  have hl0 : n0 ≤ 1048576 := by rw [← HN0.out]; exact h.fine.a.now
  have hl1 : n1 ≤ 1048576 := by rw [← HN1.out]; exact h.fine.b.now
  obtain ⟨S, HS⟩ : ∃ S, Hid ((Jn.frames rs).length = S) := ⟨_, rfl⟩
  rw [HS.out, HN1.out] at hT
  have hti : ¬ (S : Int) < (n1 : Int) := by omega
  have hd3 : d3.root = 1 := by have := trunc_root d 0 0; rw [E3.out] at this; exact this.trans hrt
  have H0 := hide9 h.zero
  obtain ⟨c8, -, -, -⟩ := H0.out.see HN0 HN1
  rw [hon] at c8
  obtain ⟨-, c6, ⟨a0, k0, c0, q0⟩, ⟨a1, k1, c1, q1⟩⟩ := (H0.out.below (bel_drew _)).see HN0 HN1
  rw [hrt] at c6
  have CS := RScan_any q1.rd (by have := h.fine.b.now; omega)
  rw [hr.out, HS.out] at CS
  have HH := hide9 h
  have HP := hide9 hP
  clear h hP q0 q1 hr hon
  rw [HN0.out] at hN
  have hni : 0 < (n0 : Int) := by omega
  clear hT hN
  go_enter Try.func14, Try.ntmps14
  go_wp2
  go_region_with (go_at_call 33; refine CS.mono ?_; rintro e w2 ⟨u, rfl, ho2, hB2⟩; obtain ⟨ua, uc, rfl⟩ := ho2.form; have R2 := hide9 (RO.made HH.out (bel (bel_drew _) hB2) ho2); clear CS hB2 ho2)
  all_goals
    clear c8 c6 c0 c1 H0
    have R3 := hide9 (R2.out.below (bel_drew w2))
    obtain ⟨-, c6, ⟨a0, k0, c0, -⟩, ⟨a1, k1, c1, -⟩⟩ := R3.out.re.see HN0 HN1
    rw [hrt] at c6
    go_wp2
    go_region
    go_wp2
    clear c0 c1 c6
    have R6 := hide9 (R3.out.below (bel_drew w2.drew))
    obtain ⟨-, c6, ⟨a0, k0, c0, -⟩, ⟨a1, k1, c1, -⟩⟩ := R6.out.re.see HN0 HN1
    rw [hrt] at c6
    have CT := RTruncate_any R6.out.re 0 0
    rw [E3.out] at CT
    go_region
    clear c0 c1
    go_wp2_with (first
      | (go_at_call 46; refine CT.mono ?_; rintro e w5 ⟨rfl, hR5, hO5⟩; have R7 := hide9 (R6.out.turn hR5 hO5); have c6 := R7.out.re.root; rw [hd3] at c6; have CY := RSync_any R7.out.re (R7.out.new HP.out) 0; rw [E4.out] at CY; clear CT hR5 hO5)
      | (go_at_call 47; refine CY.mono ?_; rintro e w6 ⟨rfl, hR6, hO6⟩; have R8 := hide9 (R7.out.turn hR6 hO6); clear CY hR6 hO6 c6)
      | ((with_reducible show wpList _ _ _ ({ op := Op.store 43 _ _, .. } :: _) _ _); refine wpList_store_K _ _ rfl rfl W.heap.size (ptr rb 0) (.slice none 0 0) 0 kX0 rfl rfl R8.out.blk rfl rfl rfl ?_; intro w7 hb7 hO7))
    refine bodyPost_ret (results_three rfl _ _ _ _ (.agg (kX rb)) rfl (load_K hb7 rfl)) rfl ?_
    exact R8.out.ends hO7
set_option maxHeartbeats 8000000 in
set_option maxRecDepth 100000 in
theorem ROpen_110 {W : World} {P : Nat → Prop} {rb : Nat} {d d1 d2 : Dk.D} (h : RE W P rb d) (hP : ∀ k, W.heap.size ≤ k → P k) (hon : d.on = true) (hrt : d.root = 1) {rs : List (List UInt8)} (hr : Hid (Jn.scan d.b.now = rs)) (hT : (Jn.frames rs).length < d.b.now.length) (E1 : Hid (d.trunc 1 ((Jn.frames rs).length : Int) = (0, d1))) (E2 : Hid (d1.sync 1 = (0, d2))) (hN : d2.a.now.length = 0) :
    Calls Try.prog 14 #[ptr rb 0] W (ROPost W P rb rs d2) := by
  obtain ⟨n0, HN0⟩ : ∃ n0, Hid (d.a.now.length = n0) := ⟨_, rfl⟩
  obtain ⟨n1, HN1⟩ : ∃ n1, Hid (d.b.now.length = n1) := ⟨_, rfl⟩
  have hl0 : n0 ≤ 1048576 := by rw [← HN0.out]; exact h.fine.a.now
  have hl1 : n1 ≤ 1048576 := by rw [← HN1.out]; exact h.fine.b.now
  obtain ⟨S, HS⟩ : ∃ S, Hid ((Jn.frames rs).length = S) := ⟨_, rfl⟩
  rw [HS.out, HN1.out] at hT
  rw [HS.out] at E1
  have hti : (S : Int) < (n1 : Int) := by omega
  have hd1 : d1.root = 1 := by have := trunc_root d 1 (S : Int); rw [E1.out] at this; exact this.trans hrt
  have hd2 : d2.root = 1 := by have := sync_root d1 1; rw [E2.out] at this; exact this.trans hd1
  have H0 := hide9 h.zero
  obtain ⟨c8, -, -, -⟩ := H0.out.see HN0 HN1
  rw [hon] at c8
  obtain ⟨-, c6, ⟨a0, k0, c0, q0⟩, ⟨a1, k1, c1, q1⟩⟩ := (H0.out.below (bel_drew _)).see HN0 HN1
  rw [hrt] at c6
  have CS := RScan_any q1.rd (by have := h.fine.b.now; omega)
  rw [hr.out, HS.out] at CS
  have HH := hide9 h
  have HP := hide9 hP
  clear h hP q0 q1 hr hon
  obtain ⟨m0, HM0⟩ : ∃ m0, Hid (d2.a.now.length = m0) := ⟨_, rfl⟩
  obtain ⟨m1, HM1⟩ : ∃ m1, Hid (d2.b.now.length = m1) := ⟨_, rfl⟩
  rw [HM0.out] at hN
  have hni : ¬ 0 < (m0 : Int) := by omega
  clear hT hN
  go_enter Try.func14, Try.ntmps14
  go_wp2
  go_region_with (go_at_call 33; refine CS.mono ?_; rintro e w2 ⟨u, rfl, ho2, hB2⟩; obtain ⟨ua, uc, rfl⟩ := ho2.form; have R2 := hide9 (RO.made HH.out (bel (bel_drew _) hB2) ho2); clear CS hB2 ho2)
  all_goals
    clear c8 c6 c0 c1 H0
    have R3 := hide9 (R2.out.below (bel_drew w2))
    obtain ⟨-, c6, ⟨a0, k0, c0, -⟩, ⟨a1, k1, c1, -⟩⟩ := R3.out.re.see HN0 HN1
    rw [hrt] at c6
    have CT := RTruncate_any R3.out.re 1 (S : Int)
    rw [E1.out] at CT
    go_wp2
    go_region
    clear c0 c1
    go_wp2_with (first
      | (go_at_call 46; refine CT.mono ?_; rintro e w3 ⟨rfl, hR3, hO3⟩; have R4 := hide9 (R3.out.turn hR3 hO3); have c6 := R4.out.re.root; rw [hd1] at c6; have CY := RSync_any R4.out.re (R4.out.new HP.out) 1; rw [E2.out] at CY; clear CT hR3 hO3)
      | (go_at_call 47; refine CY.mono ?_; rintro e w4 ⟨rfl, hR4, hO4⟩; have R5 := hide9 (R4.out.turn hR4 hO4); clear CY hR4 hO4 c6))
    have R6 := hide9 (R5.out.below (bel_drew w4))
    obtain ⟨-, c6, ⟨a0, k0, c0, -⟩, ⟨a1, k1, c1, -⟩⟩ := R6.out.re.see HM0 HM1
    rw [hd2] at c6
    go_region
    clear c0 c1
    go_wp2_with ((with_reducible show wpList _ _ _ ({ op := Op.store 43 _ _, .. } :: _) _ _); refine wpList_store_K _ _ rfl rfl W.heap.size (ptr rb 0) (.slice none 0 0) 0 kX0 rfl rfl R6.out.blk rfl rfl rfl ?_; intro w7 hb7 hO7)
    refine bodyPost_ret (results_three rfl _ _ _ _ (.agg (kX rb)) rfl (load_K hb7 rfl)) rfl ?_
    exact R6.out.ends hO7
set_option maxHeartbeats 8000000 in
set_option maxRecDepth 100000 in
theorem ROpen_111 {W : World} {P : Nat → Prop} {rb : Nat} {d d1 d2 d3 d4 : Dk.D} (h : RE W P rb d) (hP : ∀ k, W.heap.size ≤ k → P k) (hon : d.on = true) (hrt : d.root = 1) {rs : List (List UInt8)} (hr : Hid (Jn.scan d.b.now = rs)) (hT : (Jn.frames rs).length < d.b.now.length) (E1 : Hid (d.trunc 1 ((Jn.frames rs).length : Int) = (0, d1))) (E2 : Hid (d1.sync 1 = (0, d2))) (hN : 0 < d2.a.now.length) (E3 : Hid (d2.trunc 0 0 = (0, d3))) (E4 : Hid (d3.sync 0 = (0, d4))) :
    Calls Try.prog 14 #[ptr rb 0] W (ROPost W P rb rs d4) := by
  obtain ⟨n0, HN0⟩ : ∃ n0, Hid (d.a.now.length = n0) := ⟨_, rfl⟩
  obtain ⟨n1, HN1⟩ : ∃ n1, Hid (d.b.now.length = n1) := ⟨_, rfl⟩
  have hl0 : n0 ≤ 1048576 := by rw [← HN0.out]; exact h.fine.a.now
  have hl1 : n1 ≤ 1048576 := by rw [← HN1.out]; exact h.fine.b.now
  obtain ⟨S, HS⟩ : ∃ S, Hid ((Jn.frames rs).length = S) := ⟨_, rfl⟩
  rw [HS.out, HN1.out] at hT
  rw [HS.out] at E1
  have hti : (S : Int) < (n1 : Int) := by omega
  have hd1 : d1.root = 1 := by have := trunc_root d 1 (S : Int); rw [E1.out] at this; exact this.trans hrt
  have hd2 : d2.root = 1 := by have := sync_root d1 1; rw [E2.out] at this; exact this.trans hd1
  have hd3 : d3.root = 1 := by have := trunc_root d2 0 0; rw [E3.out] at this; exact this.trans hd2
  have H0 := hide9 h.zero
  obtain ⟨c8, -, -, -⟩ := H0.out.see HN0 HN1
  rw [hon] at c8
  obtain ⟨-, c6, ⟨a0, k0, c0, q0⟩, ⟨a1, k1, c1, q1⟩⟩ := (H0.out.below (bel_drew _)).see HN0 HN1
  rw [hrt] at c6
  have CS := RScan_any q1.rd (by have := h.fine.b.now; omega)
  rw [hr.out, HS.out] at CS
  have HH := hide9 h
  have HP := hide9 hP
  clear h hP q0 q1 hr hon
  obtain ⟨m0, HM0⟩ : ∃ m0, Hid (d2.a.now.length = m0) := ⟨_, rfl⟩
  obtain ⟨m1, HM1⟩ : ∃ m1, Hid (d2.b.now.length = m1) := ⟨_, rfl⟩
  rw [HM0.out] at hN
  have hni : 0 < (m0 : Int) := by omega
  clear hT hN
  go_enter Try.func14, Try.ntmps14
  go_wp2
  go_region_with (go_at_call 33; refine CS.mono ?_; rintro e w2 ⟨u, rfl, ho2, hB2⟩; obtain ⟨ua, uc, rfl⟩ := ho2.form; have R2 := hide9 (RO.made HH.out (bel (bel_drew _) hB2) ho2); clear CS hB2 ho2)
  all_goals
    clear c8 c6 c0 c1 H0
    have R3 := hide9 (R2.out.below (bel_drew w2))
    obtain ⟨-, c6, ⟨a0, k0, c0, -⟩, ⟨a1, k1, c1, -⟩⟩ := R3.out.re.see HN0 HN1
    rw [hrt] at c6
    have CT := RTruncate_any R3.out.re 1 (S : Int)
    rw [E1.out] at CT
    go_wp2
    go_region
    clear c0 c1
    go_wp2_with (first
      | (go_at_call 46; refine CT.mono ?_; rintro e w3 ⟨rfl, hR3, hO3⟩; have R4 := hide9 (R3.out.turn hR3 hO3); have c6 := R4.out.re.root; rw [hd1] at c6; have CY := RSync_any R4.out.re (R4.out.new HP.out) 1; rw [E2.out] at CY; clear CT hR3 hO3)
      | (go_at_call 47; refine CY.mono ?_; rintro e w4 ⟨rfl, hR4, hO4⟩; have R5 := hide9 (R4.out.turn hR4 hO4); clear CY hR4 hO4 c6))
    have R6 := hide9 (R5.out.below (bel_drew w4))
    obtain ⟨-, c6, ⟨a0, k0, c0, -⟩, ⟨a1, k1, c1, -⟩⟩ := R6.out.re.see HM0 HM1
    rw [hd2] at c6
    have CT := RTruncate_any R6.out.re 0 0
    rw [E3.out] at CT
    go_region
    clear c0 c1
    go_wp2_with (first
      | (go_at_call 46; refine CT.mono ?_; rintro e w5 ⟨rfl, hR5, hO5⟩; have R7 := hide9 (R6.out.turn hR5 hO5); have c6 := R7.out.re.root; rw [hd3] at c6; have CY := RSync_any R7.out.re (R7.out.new HP.out) 0; rw [E4.out] at CY; clear CT hR5 hO5)
      | (go_at_call 47; refine CY.mono ?_; rintro e w6 ⟨rfl, hR6, hO6⟩; have R8 := hide9 (R7.out.turn hR6 hO6); clear CY hR6 hO6 c6)
      | ((with_reducible show wpList _ _ _ ({ op := Op.store 43 _ _, .. } :: _) _ _); refine wpList_store_K _ _ rfl rfl W.heap.size (ptr rb 0) (.slice none 0 0) 0 kX0 rfl rfl R8.out.blk rfl rfl rfl ?_; intro w7 hb7 hO7))
    refine bodyPost_ret (results_three rfl _ _ _ _ (.agg (kX rb)) rfl (load_K hb7 rfl)) rfl ?_
    exact R8.out.ends hO7
theorem cut_zero {d d' : Dk.D} {f n : Int} (e : Jn.cut d f n = (0, d')) : ∃ d1, d.trunc f n = (0, d1) ∧ d1.sync f = (0, d') := by
  unfold Jn.cut at e
  obtain ⟨c1, d1, E1⟩ : ∃ c1 d1, d.trunc f n = (c1, d1) := ⟨_, _, rfl⟩
  rw [E1] at e
  by_cases hc : c1 = 0
  · subst hc
    simp only [ne_eq, not_true_eq_false, if_false] at e
    exact ⟨d1, E1, e⟩
  · simp only [ne_eq, hc, not_false_eq_true, if_true] at e
    cases e
    exact absurd rfl hc
theorem ROpen_any {W : World} {P : Nat → Prop} {rb : Nat} {d d' : Dk.D} (h : RE W P rb d) (hP : ∀ k, W.heap.size ≤ k → P k) (hon : d.on = true) (e : Hid (Jn.opens d = (0, d'))) {rs : List (List UInt8)} (hr : Hid (Jn.recs d d.root = rs)) :
    Calls Try.prog 14 #[ptr rb 0] W (ROPost W P rb rs d') := by
  have e' := e.out
  have hr' := hr.out
  unfold Jn.opens at e'
  rw [if_neg (by simp [hon])] at e'
  unfold Jn.mend at e'
  rw [hr'] at e'
  have hsz : (Jn.frames rs).length ≤ (d.at d.root).now.length := by rw [← hr']; exact Jn.scan_size _
  rcases h.fine.root with hrt | hrt
  · rw [hrt] at e' hr' hsz
    have hra : Hid (Jn.scan d.a.now = rs) := hr'
    have e1 : (1 : Int) - 0 = 1 := by decide
    have ax : ∀ x : Dk.D, x.at 0 = x.a := fun x => rfl
    have ay : ∀ x : Dk.D, x.at 1 = x.b := fun x => rfl
    rw [ax] at hsz
    rw [e1, ax] at e'
    by_cases hT : (Jn.frames rs).length = d.a.now.length
    · rw [if_pos hT] at e'
      simp only [ne_eq, not_true_eq_false, if_false] at e'
      unfold Jn.empty at e'
      rw [ay] at e'
      by_cases hN : d.b.now.length = 0
      · rw [if_pos hN] at e'
        cases e'
        exact ROpen_000 h hP hon hrt hra hT hN
      · rw [if_neg hN] at e'
        obtain ⟨d3, E3, E4⟩ := cut_zero e'
        exact ROpen_001 h hP hon hrt hra hT (by omega) (by exact E3) (by exact E4)
    · rw [if_neg hT] at e'
      obtain ⟨c1, d2, E1⟩ : ∃ c1 d2, Jn.cut d 0 ((Jn.frames rs).length : Int) = (c1, d2) := ⟨_, _, rfl⟩
      rw [E1] at e'
      by_cases hc : c1 = 0
      · subst hc
        simp only [ne_eq, not_true_eq_false, if_false] at e'
        obtain ⟨d1, F1, F2⟩ := cut_zero E1
        unfold Jn.empty at e'
        rw [ay] at e'
        by_cases hN : d2.b.now.length = 0
        · rw [if_pos hN] at e'
          cases e'
          exact ROpen_010 h hP hon hrt hra (by omega) (by exact F1) (by exact F2) hN
        · rw [if_neg hN] at e'
          obtain ⟨d3, E3, E4⟩ := cut_zero e'
          exact ROpen_011 h hP hon hrt hra (by omega) (by exact F1) (by exact F2) (by omega) (by exact E3) (by exact E4)
      · simp only [ne_eq, hc, not_false_eq_true, if_true] at e'
        cases e'
        exact absurd rfl hc
  · rw [hrt] at e' hr' hsz
    have hra : Hid (Jn.scan d.b.now = rs) := hr'
    have e1 : (1 : Int) - 1 = 0 := by decide
    have ax : ∀ x : Dk.D, x.at 1 = x.b := fun x => rfl
    have ay : ∀ x : Dk.D, x.at 0 = x.a := fun x => rfl
    rw [ax] at hsz
    rw [e1, ax] at e'
    by_cases hT : (Jn.frames rs).length = d.b.now.length
    · rw [if_pos hT] at e'
      simp only [ne_eq, not_true_eq_false, if_false] at e'
      unfold Jn.empty at e'
      rw [ay] at e'
      by_cases hN : d.a.now.length = 0
      · rw [if_pos hN] at e'
        cases e'
        exact ROpen_100 h hP hon hrt hra hT hN
      · rw [if_neg hN] at e'
        obtain ⟨d3, E3, E4⟩ := cut_zero e'
        exact ROpen_101 h hP hon hrt hra hT (by omega) (by exact E3) (by exact E4)
    · rw [if_neg hT] at e'
      obtain ⟨c1, d2, E1⟩ : ∃ c1 d2, Jn.cut d 1 ((Jn.frames rs).length : Int) = (c1, d2) := ⟨_, _, rfl⟩
      rw [E1] at e'
      by_cases hc : c1 = 0
      · subst hc
        simp only [ne_eq, not_true_eq_false, if_false] at e'
        obtain ⟨d1, F1, F2⟩ := cut_zero E1
        unfold Jn.empty at e'
        rw [ay] at e'
        by_cases hN : d2.a.now.length = 0
        · rw [if_pos hN] at e'
          cases e'
          exact ROpen_110 h hP hon hrt hra (by omega) (by exact F1) (by exact F2) hN
        · rw [if_neg hN] at e'
          obtain ⟨d3, E3, E4⟩ := cut_zero e'
          exact ROpen_111 h hP hon hrt hra (by omega) (by exact F1) (by exact F2) (by omega) (by exact E3) (by exact E4)
      · simp only [ne_eq, hc, not_false_eq_true, if_true] at e'
        cases e'
        exact absurd rfl hc
end Go.Proofs.Ytcjbceidgaieaaa
