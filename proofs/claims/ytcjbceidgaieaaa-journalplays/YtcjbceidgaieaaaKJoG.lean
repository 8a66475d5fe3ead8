/- The program's journal and the document's, side by side. -/
import Derived.Test.YtcjbceidgaieaaaKJoE
import Derived.Test.YtcjbceidgaieaaaKJoF
set_option linter.unusedVariables false
set_option linter.unusedSimpArgs false
namespace Go.Proofs.Ytcjbceidgaieaaa
open Go.RowKit
theorem RK.turn {W W' : World} {P P' : Nat → Prop} {kb rb : Nat} {d : Dk.D} {gs : List (List UInt8)} (h : RK W P kb rb d gs) (hs : W.heap.size ≤ W'.heap.size) (hb : W'.heap[rb]? = W.heap[rb]?) (hkb : W'.heap[kb]? = W.heap[kb]?) (hk : ∀ k, k < W.heap.size → P k → k ≠ rb → W'.heap[k]? = W.heap[k]?) (hP : ∀ k, k < W.heap.size → P k → P' k) (hn : ∀ k, P' k → k ≠ kb) (hw : ∀ k, W'.heap.size ≤ k → P' k) : RK W' P' kb rb d gs := by
  obtain ⟨g, hb', hq⟩ := h.ex
  exact ⟨h.re.turn hs hb hk hP, ⟨g, hkb.trans hb', hq.turn hs hk hP⟩, hn, h.ne, hw, h.small⟩
/-- A new journal's block is laid into kb. -/
theorem RK.reset {W W' : World} {P : Nat → Prop} {kb rb : Nat} {d : Dk.D} {gs : List (List UInt8)} (h : RK W P kb rb d gs) (hb : W'.heap[kb]? = some (.cells (kX rb) 43 (0, 0))) (hO : Own (fun k => k = kb) W W') : RK W' P kb rb d [] :=
  ⟨h.re.keep9 hO.size (hO.block rb h.re.lt (fun e => h.ne e.symm)) (fun k hk hp _ => hO.block k hk (h.nk k hp)), ⟨.slice none 0 0, hb, ⟨RB.nil _, fun k e => by cases e⟩⟩, h.nk, h.ne, fun k hk => h.new k (Nat.le_trans hO.size hk), by simp [Jn.frames]⟩
theorem RK.fresh {W W' : World} {P P' : Nat → Prop} {kb rb : Nat} {d : Dk.D} (h : RE W P rb d) (hB : Below W.heap.size W W') (hkb : W.heap.size ≤ kb) (hb : W'.heap[kb]? = some (.cells (kX rb) 43 (0, 0))) (hP : ∀ k, k < W.heap.size → P k → P' k) (hn : ∀ k, P' k → k ≠ kb) (hw : ∀ k, W'.heap.size ≤ k → P' k) : RK W' P' kb rb d [] :=
  ⟨h.turn hB.size (hB.block rb h.lt) (fun k hk _ _ => hB.block k hk) hP, ⟨.slice none 0 0, hb, ⟨RB.nil _, fun k e => by cases e⟩⟩, hn, by have := h.lt; omega, hw, by simp [Jn.frames]⟩
theorem JR.keepO {w0 W W' : World} {T : Nat → Prop} {b jb : Nat} {d : Dk.D} {gs : List (List UInt8)} (h : JR w0 T b jb d gs W) {U : Nat → Prop} (hU : ∀ k, U k → ¬ T k) (hb : ∀ k, U k → w0.heap.size ≤ k) (hO : Own U W W') : JR w0 T b jb d gs W' := by
  obtain ⟨D, g, hk, h1, h2⟩ := h.ex
  have hs : ∀ k, k < W.heap.size → T k → W'.heap[k]? = W.heap[k]? := fun k hl ht => hO.block k hl (fun e => hU k e ht)
  obtain ⟨n0, g0, n1, g1, hD⟩ := hk.dsk
  exact ⟨⟨D, g, ⟨⟨n0, g0, n1, g1, hD.keep hO.size (fun k hl hd => hs k hl (h1 k hd))⟩, hk.j.keep (fun k hl hx => hs k hl (hx.elim (fun e => e ▸ h.tj) (h2 k))), hk.nj, hk.ng⟩, h1, h2⟩, h.tj, fun k ht => Nat.lt_of_lt_of_le (h.low k ht) hO.size, h.base, h.bel.trans (hO.below hb h.bel.size), h.small, h.all⟩
/-- The two journals, each with its disk and its group. -/
structure Pj (w0 : World) (T : Nat → Prop) (b jb kb rb : Nat) (d1 : Dk.D) (g1 : List (List UInt8)) (d2 : Dk.D) (g2 : List (List UInt8)) (W : World) : Prop where
  j : JR w0 T b jb d1 g1 W
  k : RK W (fun k => ¬ T k ∧ k ≠ kb) kb rb d2 g2
  nr : ¬ T rb
  nk : ¬ T kb
  br : w0.heap.size ≤ rb
  bk : w0.heap.size ≤ kb
theorem Pj.own1 {w0 W W' : World} {T T' : Nat → Prop} {b jb jb' kb rb : Nat} {d1 d2 d' : Dk.D} {g1 g2 g' : List (List UInt8)} (h : Pj w0 T b jb kb rb d1 g1 d2 g2 W) (hJ : JR w0 T' b jb' d' g' W') (hT : Tw W T T' W') : Pj w0 T' b jb' kb rb d' g' d2 g2 W' := by
  have hr := h.k.re.lt
  have hkb := h.k.lt
  have hn : ∀ k, k < W.heap.size → ¬ T k → ¬ T' k := fun k hk hx hm => (hT.sub k hm).elim hx (fun h9 => by omega)
  have hz := hT.own.size
  exact ⟨hJ, h.k.turn hT.own.size (hT.own.block rb hr h.nr) (hT.own.block kb hkb h.nk) (fun k hk hp _ => hT.own.block k hk hp.1) (fun k hk hp => ⟨hn k hk hp.1, hp.2⟩) (fun k hp => hp.2) (fun k hk => ⟨fun hx => by have := hJ.low k hx; omega, by omega⟩), hn rb hr h.nr, hn kb hkb h.nk, h.br, h.bk⟩
theorem Pj.own2 {w0 W W' : World} {T : Nat → Prop} {b jb kb rb : Nat} {d1 d2 d' : Dk.D} {g1 g2 g' : List (List UInt8)} (h : Pj w0 T b jb kb rb d1 g1 d2 g2 W) (hK : RK W' (fun k => ¬ T k ∧ k ≠ kb) kb rb d' g') (hO : Own (fun k => k = rb ∨ k = kb) W W') : Pj w0 T b jb kb rb d1 g1 d' g' W' :=
  ⟨h.j.keepO (fun k hk => hk.elim (fun e => e ▸ h.nr) (fun e => e ▸ h.nk)) (fun k hk => hk.elim (fun e => e ▸ h.br) (fun e => e ▸ h.bk)) hO, hK, h.nr, h.nk, h.br, h.bk⟩
theorem Pj.disk2 {w0 W W' : World} {T : Nat → Prop} {b jb kb rb : Nat} {d1 d2 d' : Dk.D} {g1 g2 : List (List UInt8)} (h : Pj w0 T b jb kb rb d1 g1 d2 g2 W) (hR : RE W' (fun k => ¬ T k ∧ k ≠ kb) rb d') (hO : Own (fun k => k = rb) W W') : Pj w0 T b jb kb rb d1 g1 d' g2 W' := h.own2 (h.k.disk hR hO) (hO.mono9 (fun k hk => .inl hk))
theorem Pj.below {w0 W W' : World} {T : Nat → Prop} {b jb kb rb : Nat} {d1 d2 : Dk.D} {g1 g2 : List (List UInt8)} (h : Pj w0 T b jb kb rb d1 g1 d2 g2 W) (hB : Below W.heap.size W W') : Pj w0 T b jb kb rb d1 g1 d2 g2 W' := ⟨h.j.below hB, h.k.below hB, h.nr, h.nk, h.br, h.bk⟩
theorem Pj.does {w0 W : World} {T : Nat → Prop} {b jb kb rb : Nat} {d1 d2 : Dk.D} {g1 g2 : List (List UInt8)} (h : Pj w0 T b jb kb rb d1 g1 d2 g2 W) (a : Aj) (hA : AjOK w0 a) (h20 : a.rs.length ≤ 20) {r : Int × Dk.D × List (List UInt8)} (e : Hid (Jn.does d1 g1 a = r)) :
    Calls Try.prog 16 #[ptr jb 0, jV a] W (fun e w' => ∃ T', e = .returned (.int .i64 r.1) ∧ Pj w0 T' b jb kb rb r.2.1 r.2.2 d2 g2 w' ∧ Tw W T T' w') := by
  refine (h.j.does a hA h20 e).mono ?_
  rintro e w' ⟨T', rfl, hJ, hT⟩
  exact ⟨T', rfl, h.own1 hJ hT, hT⟩
theorem Pj.would {w0 W : World} {T : Nat → Prop} {b jb kb rb : Nat} {d1 d2 : Dk.D} {g1 g2 : List (List UInt8)} (h : Pj w0 T b jb kb rb d1 g1 d2 g2 W) (hon : d2.on = true) (a : Aj) (hA : AjOK w0 a) (h20 : a.rs.length ≤ 20) {r : Int × Dk.D × List (List UInt8)} (e : Hid (Jn.does d2 g2 a = r)) :
    Calls Try.prog 17 #[ptr kb 0, jV a] W (fun e w' => e = .returned (.int .i64 r.1) ∧ Pj w0 T b jb kb rb d1 g1 r.2.1 r.2.2 w' ∧ Own (fun k => k = rb ∨ k = kb) W w') := by
  refine (h.k.would hon a (hA.below h.j.bel) h20 e).mono ?_
  rintro e w' ⟨rfl, hK, hO⟩
  exact ⟨rfl, h.own2 hK hO, hO⟩
theorem Pj.off {w0 W : World} {T : Nat → Prop} {b jb kb rb : Nat} {d1 d2 : Dk.D} {g1 g2 : List (List UInt8)} (h : Pj w0 T b jb kb rb d1 g1 d2 g2 W) {n : Nat} (hn : Hid ((Jn.frames g2).length = n)) : W.cell? ⟨rb, 8, none⟩ = some (.bool (!d2.on)) ∧ ∃ a c, W.cell? ⟨kb, 1, none⟩ = some (.slice a n c) := by
  obtain ⟨fv, b0, s0, b1, s1, hr⟩ := h.k.re
  obtain ⟨-, -, a, c, h1, -, -⟩ := h.k.cells hn
  exact ⟨hr.cell 8, a, c, h1⟩
theorem Pj.rleft {w0 W : World} {T : Nat → Prop} {b jb kb rb : Nat} {d1 d2 : Dk.D} {g1 g2 : List (List UInt8)} (h : Pj w0 T b jb kb rb d1 g1 d2 g2 W) {x : Int} (e : Hid (d2.left = x)) : Calls Try.prog 28 #[ptr rb 0] W fun e w' => e = .returned (.int .i64 x) ∧ Below W.heap.size W w' := h.k.rleft e
theorem JR.leftH {w0 W : World} {T : Nat → Prop} {b jb : Nat} {d : Dk.D} {gs : List (List UInt8)} (h : JR w0 T b jb d gs W) {x : Int} (e : Hid (d.left = x)) : Calls Try.prog 27 #[ptr jb 0] W fun e w' => e = .returned (.int .i64 x) ∧ Below W.heap.size W w' := by
  have := h.left
  rw [e.out] at this
  exact this
theorem RE.nine {W : World} {P : Nat → Prop} {rb : Nat} {d : Dk.D} (h : RE W P rb d) : ∃ fv, W.cell? ⟨rb, 8, none⟩ = some (.bool (!d.on)) ∧ W.cell? ⟨rb, 9, none⟩ = some (.int .i64 fv) ∧ W.cell? ⟨rb, 10, none⟩ = some (.bool d.behind) ∧ W.frozen? ⟨rb, 8, none⟩ = false ∧ W.frozen? ⟨rb, 9, none⟩ = false ∧ W.frozen? ⟨rb, 10, none⟩ = false := by
  obtain ⟨fv, b0, s0, b1, s1, hr⟩ := h
  exact ⟨fv, hr.cell 8, hr.cell 9, hr.cell 10, hr.free 8, hr.free 9, hr.free 10⟩
theorem RE.armed {W : World} {P : Nat → Prop} {rb : Nat} {d : Dk.D} (h : RE W P rb d) (n m : Int) (hn : -9223372036854775808 ≤ n ∧ n ≤ 9223372036854775807) (hm : m = max n (-1)) (q : Bool) : RE ((W.setCell ⟨rb, 9, none⟩ (.int .i64 m)).setCell ⟨rb, 10, none⟩ (.bool q)) P rb (d.arm n q) := by
  obtain ⟨fv, b0, s0, b1, s1, hr⟩ := h
  exact ⟨_, _, _, _, _, hr.two (d' := d.arm n q) (fv' := m) 9 10 (.int .i64 m) (.bool q) rfl rfl rfl (hr.fine.arm hn q) (fun _ => hm) (by omega)⟩
theorem RE.failed {W : World} {P : Nat → Prop} {rb : Nat} {d : Dk.D} (h : RE W P rb d) : RE ((W.setCell ⟨rb, 8, none⟩ (.bool true)).setCell ⟨rb, 9, none⟩ (.int .i64 (-1))) P rb d.fail := by
  obtain ⟨fv, b0, s0, b1, s1, hr⟩ := h
  exact ⟨_, _, _, _, _, hr.two (d' := d.fail) (fv' := -1) 8 9 (.bool true) (.int .i64 (-1)) rfl rfl rfl hr.fine.fail (fun e => by cases e) ⟨by decide, by decide⟩⟩
theorem Bx.own {T : Nat → Prop} {W W' : World} {bx : Nat} {a : Aj} (h : Bx T W bx a) {U : Nat → Prop} (hO : Own U W W') (hU : ¬ U bx) : Bx T W' bx a := ⟨h.at'.keep (hO.block bx h.at'.lt hU), h.no⟩
theorem Bx.kind {T : Nat → Prop} {W : World} {bx : Nat} {a : Aj} (h : Bx T W bx a) : W.cell? ⟨bx, 0, none⟩ = some (.int .u8 (a.kind : Int)) := h.at'.cell 0
theorem OQ.rbs {T : Nat → Prop} {w : World} {v : Value} {rs : List (List UInt8)} (h : OQ T w v rs) : RBs w v rs := by
  obtain ⟨xs, h⟩ := h
  exact row_rbs h.len h.row (fun j x r h1 h2 => (h.each j x r h1 h2).1.reads)
namespace Jn
theorem opens_any {d : Dk.D} (h : d.Calm) (hF : d.Fine) : ∃ d', opens d = (0, d') ∧ d'.Calm := by
  have hr := hF.root
  have hm : (mend d d.root).1 = 0 ∧ (mend d d.root).2.Calm := by
    unfold mend
    by_cases hl : (frames (recs d d.root)).length = (d.at d.root).now.length
    · rw [if_pos hl]
      exact ⟨rfl, h⟩
    · rw [if_neg hl]
      exact cut_calm h d.root hr _ (scan_size _)
  unfold opens
  rw [if_neg (by simp [h.on]), if_neg (by simp [hm.1])]
  generalize (mend d d.root).2 = d2 at hm
  unfold empty
  by_cases hl : (d2.at (1 - d.root)).now.length = 0
  · rw [if_pos hl]
    exact ⟨d2, rfl, hm.2⟩
  · rw [if_neg hl]
    have := cut_calm hm.2 (1 - d.root) (by omega) 0 (Nat.zero_le _)
    exact ⟨_, Prod.ext this.1 rfl, this.2⟩
theorem scan_few (l : List UInt8) (hl : l.length ≤ 1048576) : (scan l).length ≤ 120000 := by
  obtain ⟨t, ht, _, ha⟩ := scan_spec l
  have := frames_nine _ ha
  have := scan_size l
  omega
/-- What a start behind a loss comes to. -/
theorem restart {d : Dk.D} (hoff : d.on = false) (hF : d.Fine) (k0 k1 : Int) (c0 c1 : Bool) : ∃ dS d' rs, d.start k0 k1 c0 c1 = (0, dS) ∧ dS.on = true ∧ opens dS = (0, d') ∧ d'.on = true ∧ recs dS dS.root = rs ∧ rs.length ≤ 120000 := by
  have e : d.start k0 k1 c0 c1 = (0, { d with a := d.a.lose k0 c0, b := d.b.lose k1 c1, on := true, fuse := -1 }) := by
    unfold Dk.D.start
    rw [if_neg (by simp [hoff])]
  have hFS := hF.start k0 k1 c0 c1
  rw [e] at hFS
  simp only at hFS
  obtain ⟨d', h1, h2⟩ := opens_any (d := { d with a := d.a.lose k0 c0, b := d.b.lose k1 c1, on := true, fuse := -1 }) ⟨rfl, rfl⟩ hFS
  refine ⟨_, d', _, e, rfl, h1, h2.on, rfl, ?_⟩
  exact scan_few _ (hFS.at d.root).now
end Jn
theorem exec_load_K {ops : Array Oper} {S : World → Prop} {o : Oper} {a : Act} (x : Operand) (ho : o.op = .load 43 x) (hw : Region.wanted o (yielded ops a.tmps) = true) (b : Nat) (X : Array Value) (hX : X.size = 3) (hx : a.eval x = .pointer (some ⟨b, 0, none⟩)) (h : ∀ W, S W → W.heap[b]? = some (.cells X 43 (0, 0))) : YieldsIf Try.prog ops S o (.agg X) a :=
  .inl ⟨hw, fun w hs => by
    unfold execOp
    simp only [ho, hx, Instr.loadAt, Instr.sureAddr, Sem.run_bind, Sem.run_pure, Result.andThen_ok, load_K (h w hs) hX]⟩
theorem anyH_store_K {md : Region.Mode} {ops : Array Oper} {Q : Exit → Act → World → Prop} {S : World → Prop} {fuel : Nat} {listed : Array Bool} {a : Act} {w : World} (i : Nat) {o : Oper} (hr : Region.ready md ops listed = [i]) (hi : ops[i]? = some o) (hd : o.dst = none) (x y : Operand) (ho : o.op = .store 43 x y) (hgd : o.guard = none) (b : Nat) (u g : Value) (n : Int) (Y : Array Value) (hx : a.eval x = ptr b 0) (hy : a.eval y = .agg #[u, g, .int .i64 n]) (h : w.heap[b]? = some (.cells Y 43 (0, 0))) (hY : Y.size = 3) (hu : u.oneCell' = true) (hg : g.oneCell' = true)
    (hn : ∀ w', w'.heap[b]? = some (.cells #[u, g, .int .i64 n] 43 (0, 0)) → Own (fun k => k = b) w w' → S w' ∧ (S w' → wpAnyH Try.prog md ops Q S fuel (listed.setIfInBounds i true) a w')) : wpAnyH Try.prog md ops Q S (fuel + 1) listed a w := by
  refine wpAnyH_ready hr (by simp) (AllReadyH.cons hi (fun KC h2 => ?_) AllReadyH.nil)
  have hw : Region.wanted o (yielded ops a.tmps) = true := by simp [Region.wanted, hgd]
  rw [if_pos hw]
  unfold Oper.wp
  rw [exec_store_K x y ho b u g n Y hx hy h hY hu hg, Oper.upon_skip]
  have h3 := hn (w.setRow b #[u, g, .int .i64 n]) (setRow_heap w b Y _ _ _ h) ⟨rfl, rfl, rfl, by simp [World.setRow], fun k _ hk => setRow_other w b k _ hk⟩
  refine h2.out _ _ h3.1 ?_
  rw [hd]
  exact h3.2
end Go.Proofs.Ytcjbceidgaieaaa
