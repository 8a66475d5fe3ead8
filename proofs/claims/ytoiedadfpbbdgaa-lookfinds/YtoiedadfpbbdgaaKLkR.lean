/- Texts laid as one. -/
import Derived.Test.YtoiedadfpbbdgaaKBase
import Derived.RangeFuncBox
import Derived.RangeFuncLeaves
import Derived.RangeFuncOwn
import Derived.RangeFuncCalls
import Derived.Shelf.Abstract
import Derived.WalkKit
import Derived.OwnWalkIn
import Derived.TacticsInMore
import Derived.LoopNIn
import Derived.LoopIn
import Derived.Test.YtoiedadfpbbdgaaKLkA
import Derived.Test.YtoiedadfpbbdgaaKTreGI
import Derived.Maps.AppendAt
/- A range over an iterator that writes a row of cells of its own: the law for its caller. -/
set_option linter.unusedVariables false
set_option linter.unusedSimpArgs false
namespace Go.Proofs.Ytoiedadfpbbdgaa
open Go Go.RowKit
/-- What a round keeps: all below n₀, and three blocks more. -/
structure Keeps3 (n₀ b1 b2 L : Nat) (A B : World) : Prop where
  bel : Below n₀ A B
  one : B.heap[b1]? = A.heap[b1]?
  two : B.heap[b2]? = A.heap[b2]?
  row : B.heap[L]? = A.heap[L]?
theorem Keeps3.trans {n₀ b1 b2 L : Nat} {A B C : World} (h : Keeps3 n₀ b1 b2 L A B) (k : Keeps3 n₀ b1 b2 L B C) : Keeps3 n₀ b1 b2 L A C := ⟨h.bel.trans k.bel, k.one.trans h.one, k.two.trans h.two, k.row.trans h.row⟩
theorem Keeps3.put {n₀ b1 b2 L l : Nat} {W : World} (o : Obj) (hl : l < W.heap.size) (h0 : n₀ ≤ l) (h1 : b1 ≠ l) (h2 : b2 ≠ l) (h3 : L ≠ l) : Keeps3 n₀ b1 b2 L W (W.putObj l o) :=
  ⟨(Below.refl n₀ W).grown (grownBy_putObj' W l o) (by omega) (fun k e => by cases e; omega), World.putObj_heap_other h1, World.putObj_heap_other h2, World.putObj_heap_other h3⟩
theorem Keeps3.of {n₀ b1 b2 L : Nat} {A B : World} (h : Below A.heap.size A B) (h0 : n₀ ≤ A.heap.size) (h1 : b1 < A.heap.size) (h2 : b2 < A.heap.size) (h3 : L < A.heap.size) : Keeps3 n₀ b1 b2 L A B := ⟨h.mono h0, h.block _ h1, h.block _ h2, h.block _ h3⟩
/-- What an iterator promises that has a row L of its own, made in its call. -/
def SeqCells (n : Nat) (P : Program) (gf : Nat) (lb : Array Value) (n₀ b1 b2 : Nat) (xs : List Int) (w0 : World) : Prop :=
  ∀ (l : Nat) (J : Nat → List Int → World → Prop) (W : World), Below w0.heap.size w0 W →
    (∀ L pre A B, J L pre A → Below A.heap.size A B → J L pre B) →
    (∀ L pre A i v, J L pre A → J L pre (A.setCell ⟨L, i, none⟩ v)) →
    (∀ A L, Below W.heap.size W A → W.heap.size ≤ L → L < A.heap.size → J L [] A) →
    (∀ L pre x A, J L pre A → (pre ++ [x]) <+: xs → YieldAt Fence.wide (n - 1) P l #[.int .i64 x] A fun e A' => e = .returned (.bool true) ∧ J L (pre ++ [x]) A' ∧ Keeps3 n₀ b1 b2 L A A') →
    CallsIn Fence.wide n P gf (#[.func (.yield l) #[] #[]] ++ lb) W fun e W' => (∃ v, e = .returned v) ∧ ((∃ L, J L xs W') ∨ (xs = [] ∧ Below W.heap.size W W'))
/-- How a round's body is left: it goes on. -/
def onPost (n₀ b1 b2 L : Nat) (I : Nat → List Int → World → Prop) (xs : List Int) (W : World) : Exit → Act → World → Prop
  | .normal, _, W' => KeepsOthers W W' ∧ Keeps3 n₀ b1 b2 L W W' ∧ I L xs W'
  | _, _, _ => False
set_option maxHeartbeats 1000000 in
theorem wp_range_cells {P : Program} {n : Nat} {g : Operand} {ps : Array Tmp} {assign body : Code} {Q : Exit → Act → World → Prop} {a : Act} {w : World} {gf : Nat} {lb : Array Value}
    (hg : a.eval g = .func (.func gf) #[] lb) (eg : ∀ args w, (callFunc gf args).run P w = .ok (.enter gf args) w) (hps : ps.size = 1)
    {n₀ b1 b2 : Nat} {xs : List Int} (h1 : b1 < w.heap.size) (h2 : b2 < w.heap.size) (hn : n₀ ≤ w.heap.size)
    (hseq : SeqCells (n - 1) P gf lb n₀ b1 b2 xs w)
    (I : Nat → List Int → World → Prop)
    (hIb : ∀ L pre A B, I L pre A → Below A.heap.size A B → I L pre B)
    (hIs : ∀ L pre A i v, I L pre A → I L pre (A.setCell ⟨L, i, none⟩ v))
    (hIp : ∀ L pre A l o o', I L pre A → w.heap.size ≤ l → A.heap[l]? = some o → o.isCells = false → I L pre (A.putObj l o'))
    (h0 : ∀ A L, Below w.heap.size w A → w.heap.size ≤ L → L < A.heap.size → I L [] A)
    (a₁ : Int → Act)
    (hassign : ∀ (l : Nat) (x : Int) (W : World) (K : Act → World → Prop), K (a₁ x) W →
      assign.wpIn (Fence.wide.inRound l) (n - 1 - 1) P (Exit.then K (fun _ _ _ => False)) { tmps := (ps.zip #[.int .i64 x]).foldl (fun t (p, v) => t.setIfInBounds p v) a.tmps, defers := [] } W)
    (hbody : ∀ (l L : Nat) (pre : List Int) (x : Int) (W : World), I L pre W → (pre ++ [x]) <+: xs → w.heap.size ≤ L → L < W.heap.size → w.heap.size ≤ W.heap.size → body.wpIn (Fence.wide.inRound l) (n - 1 - 1) P (onPost n₀ b1 b2 L I (pre ++ [x]) W) (a₁ x) W)
    (hdone : ∀ (D : Nat) (W : World), w.heap.size ≤ D → ((∃ L, I L xs W) ∨ (xs = [] ∧ Below w.heap.size w W)) → W.heap[D]? = some (.deferred (some [])) → Q .normal { a with defers := { target := .collected D, args := #[] } :: a.defers } W) :
    (Code.rangeFunc g ps assign body).wpIn Fence.wide n P Q a w := by
  refine wpIn_rangeFunc ?_
  intro fn hfn
  rw [show Fence.wide.round = none from rfl]
  obtain ⟨rec, hrec⟩ : ∃ rec : LoopState → Option Code → Loop, rec = fun st pe => { state := st, pending := pe, fn, tmps := a.tmps, params := ps, assign, body, defers := w.heap.size } := ⟨_, rfl⟩
  obtain ⟨W1, hW1⟩ : ∃ W1, (w.alloc (.deferred (some []))).alloc (.loop (rec .ready none)) = W1 := ⟨_, rfl⟩
  have hL1 : W1.heap[w.heap.size + 1]? = some (.loop (rec .ready none)) := by
    rw [← hW1]; have := World.alloc_heap_new (w.alloc (.deferred (some []))) (.loop (rec .ready none)); rwa [World.size_alloc] at this
  have hK1 : W1.heap[w.heap.size]? = some (.deferred (some [])) := by
    rw [← hW1]; exact (Below.heap_alloc _ _ _ (by simp)).trans (World.alloc_heap_new w _)
  have hs1 : W1.heap.size = w.heap.size + 2 := by rw [← hW1]; simp
  have hb1 : Below w.heap.size w W1 := by
    rw [← hW1]; exact ((Below.refl _ w).alloc (Nat.le_refl _) _).alloc (by simp) _
  refine ⟨w.heap.size + 1, [{ target := .collected w.heap.size, args := #[] }], W1, { target := .fn (.func gf) lb, args := #[.func (.yield (w.heap.size + 1)) #[] #[]] }, W1, gf,
    #[.func (.yield (w.heap.size + 1)) #[] #[]] ++ lb, W1, ?_, ?_, ?_, ?_, ?_, ?_⟩
  · rw [← hW1, hrec]; exact run_enterLoop_outer _ _ _ _ _
  · simp only [resolve, hg]
    simp [go_sem]
  · intro f' hf'; trivial
  · simp [invoke, go_sem, eg]
  · intro h; simp [Fence.wide] at h
  · refine (hseq (w.heap.size + 1)
      (fun L pre W => I L pre W ∧ W.heap[w.heap.size + 1]? = some (.loop (rec .ready none)) ∧ W.heap[w.heap.size]? = some (.deferred (some [])) ∧ w.heap.size + 2 ≤ L ∧ L < W.heap.size)
      W1 hb1 ?_ ?_ ?_ ?_).mono ?_
    · rintro L pre A B ⟨hi, hl, hk, hL, hLA⟩ hB
      exact ⟨hIb L pre A B hi hB, (hB.block _ (Array.getElem?_eq_some_iff.1 hl).1).trans hl, (hB.block _ (Array.getElem?_eq_some_iff.1 hk).1).trans hk, hL, Nat.lt_of_lt_of_le hLA hB.size⟩
    · rintro L pre A i v ⟨hi, hl, hk, hL, hLA⟩
      exact ⟨hIs L pre A i v hi, (Below.heap_setCell _ _ _ _ (by show _ ≠ L; omega)).trans hl, (Below.heap_setCell _ _ _ _ (by show _ ≠ L; omega)).trans hk, hL, by simpa [World.setCell] using hLA⟩
    · intro A L hA hL hLA
      refine ⟨h0 A L (hb1.trans (hA.mono (by omega))) (by omega) hLA, (hA.block _ (by omega)).trans hL1, (hA.block _ (by omega)).trans hK1, by omega, hLA⟩
    · -- one round
      rintro L pre x W ⟨hi, hl, hk, hL, hLW⟩ hpx
      have hlt : w.heap.size + 1 < W.heap.size := (Array.getElem?_eq_some_iff.1 hl).1
      have hy := run_yield (P := P) (args := #[.int .i64 x]) hl (by rw [hrec]; simp [hps])
      rw [hrec] at hy
      refine ⟨fn, _, assign, body, hy, roundIn_of_wpIn trivial (hassign _ x W _ ⟨_, run_beginRound hl (by rw [hrec]), ?_⟩)⟩
      have hl2 : (W.putObj (w.heap.size + 1) (.loop { rec .ready none with state := .busy })).heap[w.heap.size + 1]? = some (.loop { rec .ready none with state := .busy }) := World.putObj_heap_same hlt
      have hk2 : (W.putObj (w.heap.size + 1) (.loop { rec .ready none with state := .busy })).heap[w.heap.size]? = some (.deferred (some [])) := (World.putObj_heap_other (by omega)).trans hk
      have hw2 : Keeps3 n₀ b1 b2 L W (W.putObj (w.heap.size + 1) (.loop { rec .ready none with state := .busy })) := Keeps3.put _ hlt (by omega) (by omega) (by omega) (by omega)
      refine wpIn_mono (hbody _ L pre x _ (hIp L pre W _ _ _ hi (by omega) hl rfl) hpx (by omega) (by simpa using hLW) (by simp; omega)) ?_
      rintro e a3 W3 hp
      cases e with
      | normal =>
        obtain ⟨hk3, hkp3, hi3⟩ := hp
        have hl3 := hk3.same _ _ hl2 rfl
        have hd3 := hk3.same _ _ hk2 rfl
        have hr := run_endRound (P := P) none hl3
        have hs3 : w.heap.size + 1 < W3.heap.size := (Array.getElem?_eq_some_iff.1 hl3).1
        have hsz := hk3.size
        rw [World.putObj_size] at hsz
        refine ⟨_, _, hr, rfl, ⟨hIp _ _ _ _ _ _ hi3 (by omega) hl3 rfl, ?_, (World.putObj_heap_other (by omega)).trans hd3, hL, by simp; omega⟩, (hw2.trans hkp3).trans (Keeps3.put _ hs3 (by omega) (by omega) (by omega) (by omega))⟩
        rw [World.putObj_heap_same hs3, hrec]
        rfl
      | ret => exact hp.elim
      | exit id => exact hp.elim
      | goto t => exact hp.elim
      | panic ch => exact hp.elim
      | outgrown => exact hp.elim
    · rintro e W2 ⟨⟨v, rfl⟩, (⟨L, hi, hl, hk, hL, hLW⟩ | ⟨hx, hB⟩)⟩
      · exact ⟨none, _, by have := run_endLoop (P := P) hl (by rw [hrec]; simp); rw [hrec] at this; exact this, hdone _ _ (Nat.le_refl _) (.inl ⟨L, hIp _ _ _ _ _ _ hi (by omega) hl rfl⟩) ((World.putObj_heap_other (by omega)).trans hk)⟩
      · have hl := (hB.block _ (by omega)).trans hL1
        have hk := (hB.block _ (by omega)).trans hK1
        have hs2 : w.heap.size + 1 < W2.heap.size := (Array.getElem?_eq_some_iff.1 hl).1
        exact ⟨none, _, by have := run_endLoop (P := P) hl (by rw [hrec]; simp); rw [hrec] at this; exact this, hdone _ _ (Nat.le_refl _) (.inr ⟨hx, (hb1.trans (hB.mono (by omega))).trans ((Below.refl _ W2).grown (grownBy_putObj' W2 _ _) (by omega) (fun k e => by cases e; omega))⟩) ((World.putObj_heap_other (by omega)).trans hk)⟩
end Go.Proofs.Ytoiedadfpbbdgaa
/- The iterator of look's below: what it promises the loop that ranges over it. -/
namespace Go.Proofs.Ytoiedadfpbbdgaa
open Go Go.RowKit Go.Shelf
attribute [local go_sem] Oper.semAt_some
/-- What of each node is known to lie below when the first i have been asked. -/
def liesL (ns : List Nd) (top i : Nat) : List Value := (List.range ns.length).map fun j => .bool (decide (j < i) && Lk.und ns top j)
theorem liesL_len (ns : List Nd) (top i : Nat) : (liesL ns top i).length = ns.length := by simp [liesL]
theorem liesL_at (ns : List Nd) (top i j : Nat) (hj : j < ns.length) : (liesL ns top i)[j]? = some (.bool (decide (j < i) && Lk.und ns top j)) := by
  simp [liesL, hj]
theorem liesL_set (ns : List Nd) (top i : Nat) (hi : i < ns.length) : (liesL ns top i).set i (.bool (Lk.und ns top i)) = liesL ns top (i + 1) := by
  apply List.ext_getElem?
  intro j
  by_cases hj : j < ns.length
  · rw [liesL_at ns top (i + 1) j hj]
    by_cases e : j = i
    · subst e
      rw [List.getElem?_set_self (by rw [liesL_len]; exact hj)]
      simp
    · rw [List.getElem?_set_ne (fun h => e h.symm), liesL_at ns top i j hj]
      have : decide (j < i) = decide (j < i + 1) := by
        rw [decide_eq_decide]; omega
      rw [this]
  · rw [List.getElem?_eq_none (by rw [List.length_set, liesL_len]; omega), List.getElem?_eq_none (by rw [liesL_len]; omega)]
theorem liesL_start (ns : List Nd) (top : Nat) : liesL ns top top = List.replicate ns.length (.bool false) := by
  unfold liesL
  apply List.ext_getElem?
  intro j
  by_cases hj : j < ns.length
  · simp [hj]
    intro h
    rw [Lk.und_low (by omega)]
    simp
    omega
  · simp [hj]
theorem infoBool14 : (Try.prog.info? 4).map (fun i => (i.zero, i.size, i.bytes)) = some (some (.bool false), 1, 1) := by kernel_rfl
theorem wpListIn_make_full14 {F : Fence} {n : Nat} {P : Program} (w : World) {ops : Array Oper} {rest : List Oper} {o : Oper} {a : Act} {Q : Exit → Act → World → Prop}
    (hg : o.guard = none) (l c : Operand) (t : TypeId) (hop : o.op = Op.makeSlice t l c)
    (base : Nat) (e : TypeId) (i : TypeInfo) (z : Value) (size : Nat) (h1 : P.underlying t = some (.slice e)) (h2 : P.info? e = some i) (h3 : i.zero = some z) (h4 : i.size = size)
    (m : Nat) (hl : a.eval l = .int .i64 (m : Int)) (hc : a.eval c = .int .i64 (m : Int)) (b2 : i.bytes * m ≤ 281474976710656) (b3 : m ≤ maxLen) (b4 : base ≤ w.heap.size)
    (hK : ∀ w', w'.ownsRow base e size (.slice (some ⟨w.heap.size, 0, none⟩) m m) m (madeCells z.cells (m * size)).toList → w.grownBy w' none → wpListIn F n P ops Q rest (a.put o.dst (.slice (some ⟨w.heap.size, 0, none⟩) m m)) w') :
    wpListIn F n P ops Q (o :: rest) a w := by
  refine wpListIn_plain hg fun K hK' => ?_
  obtain ⟨w', hrun, r1, r2⟩ := run_make_full (P := P) w base t e i z size h1 h2 h3 h4 .i64 .i64 m b2 b3 b4
  unfold Oper.wpIn
  refine ⟨?_, ?_⟩
  · simp [Oper.about, hop]
  · rw [Oper.semAt_plain F _ _ (by rw [hop]; intro c hc'; cases hc')]
    simp [execOp, hop, hl, hc, hrun, Result.andThen]
    exact hK' _ _ (hK w' r1 r2)
theorem cell_set_other {W : World} {g i b j : Nat} {u : Value} (hb : b ≠ g) : (W.setCell ⟨g, i, none⟩ u).cell? ⟨b, j, none⟩ = W.cell? ⟨b, j, none⟩ :=
  World.cell?_of_block (w := W) (Below.heap_setCell W ⟨g, i, none⟩ u b hb)
theorem row_block {A B : World} {base : Nat} {e : TypeId} {g n : Nat} {xs : List Value} (h : A.ownsRow base e 1 (.slice (some ⟨g, 0, none⟩) n n) n xs) (hb : B.heap[g]? = A.heap[g]?) : B.ownsRow base e 1 (.slice (some ⟨g, 0, none⟩) n n) n xs := by
  obtain ⟨h1, h2⟩ := h
  refine ⟨h1, ?_⟩
  rcases h2 with h2 | ⟨g', cap, cur, hv, hg, hh, r⟩
  · exact .inl h2
  · cases hv
    exact .inr ⟨g, n, cur, rfl, hg, hb.trans hh, r⟩
set_option maxHeartbeats 8000000 in
set_option maxRecDepth 100000 in
theorem below1_seq (ns : List Nd) (a : Option Addr) (c : Nat) (at_ : Int) (b1 b2 n : Nat) (h1n : 1 ≤ n) (wN w0 : World) (hv : ReadsN wN (.slice a ns.length c) ns) (hf : Fair14 ns) (h0 : Below wN.heap.size wN w0)
    (hd : w0.heap[b1]? = some (.cells #[.slice a ns.length c] 24 (0, 0))) (ha : w0.heap[b2]? = some (.cells #[.int .i64 at_] 3 (0, 0))) :
    SeqCells n Try.prog 61 #[.pointer (some ⟨b1, 0, none⟩), .pointer (some ⟨b2, 0, none⟩)] wN.heap.size b1 b2 (if Lk.placeB ns at_ = true then Lk.belowL ns at_.toNat else []) w0 := by
  obtain ⟨xs, hx⟩ : ∃ xs, (if Lk.placeB ns at_ = true then Lk.belowL ns at_.toNat else []) = xs := ⟨_, rfl⟩
  rw [hx]
  intro l J W hW hJb hJs hJ0 hY
  have hl1 := (Array.getElem?_eq_some_iff.1 hd).1
  have hl2 := (Array.getElem?_eq_some_iff.1 ha).1
  have c1 : W.cell? ⟨b1, 0, none⟩ = some (.slice a ns.length c) := doc_cell ((hW.block _ hl1).trans hd)
  have c2 : W.cell? ⟨b2, 0, none⟩ = some (.int .i64 at_) := Lib.cell_of_heap ((hW.block _ hl2).trans ha) 0
  have HVW := hideT (hv.below (h0.trans (hW.mono h0.size)))
  have HI := hideT (isPlace_any ns _ at_ W HVW.out hf)
  have hlW1 : b1 < W.heap.size := Nat.lt_of_lt_of_le hl1 hW.size
  have hlW2 : b2 < W.heap.size := Nat.lt_of_lt_of_le hl2 hW.size
  have HB1 := hideT ((hW.block _ hl1).trans hd)
  have HB2 := hideT ((hW.block _ hl2).trans ha)
  have HNW := hideT (h0.trans (hW.mono h0.size))
  cases hp : Lk.placeB ns at_
  · rw [hp] at HI
    have hx0 : xs = [] := by rw [← hx, hp]; rfl
    subst hx0
    clear hY hJ0 hJs hJb hp hd ha hv hf h0 hW hl1 hl2
    refine callsIn_of_wp Try.func61 rfl trivial ?_ rfl
    simp only [Try.ntmps61, List.size_toArray, List.length_cons, List.length_nil, Nat.reduceAdd, Nat.reduceSub, Array.replicate_succ, Array.replicate_zero, List.push_toArray, List.append_toArray, List.nil_append, List.cons_append]
    gi_wp2_with (refine ⟨trivial, ?_⟩; gi_at_call 33; refine (callsIn_wide.2 HI.out).mono ?_; rintro e w1 ⟨rfl, b1⟩; have HQ := hideT b1; clear b1)
    refine bodyPost_ret (results_none rfl _ _ _) rfl ?_
    refine ⟨⟨_, rfl⟩, .inr ?_⟩
    exact ⟨trivial, HQ.out⟩
  · obtain ⟨top, rfl, htop, hm⟩ := Lk.place_yes hp
    have hn4 := hf.few hm
    obtain ⟨i0, hi, hz0, hz1, hz2⟩ := info_parts infoBool14
    obtain ⟨g, o, rfl, hcc, hgl, hall⟩ := HVW.out.spot (by omega)
    have HUp := hideT (fun i (hi : i < ns.length) (h0 : i ≠ 0) => Tre.may_up hm hi h0)
    have HUnd := hideT (fun i (hi : i < ns.length) (h0 : top < i) => Lk.und_up (top := top) hm hi h0)
    have HVN := hideT hv
    have hxs : xs = Lk.belowL ns top := by rw [← hx, if_pos hp, Int.toNat_natCast]
    subst hxs
    clear hx
    have HJb := hideT hJb
    have HJs := hideT hJs
    have HJ0 := hideT hJ0
    have HY := hideT hY
    rw [hp] at HI
    clear hY hJ0 hJs hJb hp hd ha hv hf h0 hW hl1 hl2 hm hall
    refine callsIn_of_wp Try.func61 rfl trivial ?_ rfl
    simp only [Try.ntmps61, List.size_toArray, List.length_cons, List.length_nil, Nat.reduceAdd, Nat.reduceSub, Array.replicate_succ, Array.replicate_zero, List.push_toArray, List.append_toArray, List.nil_append, List.cons_append]
    gi_wp2_with (first
      | (refine ⟨trivial, ?_⟩; gi_at_call 33; refine (callsIn_wide.2 HI.out).mono ?_; rintro e w1 ⟨rfl, h1⟩; have HQ := hideT h1; have d1 := (h1.cell (p := ⟨b1, 0, none⟩) hlW1).trans c1; have d2 := (h1.cell (p := ⟨b2, 0, none⟩) hlW2).trans c2; clear h1 c1 c2)
      | (gi_at_make; refine wpListIn_make_full14 _ rfl _ _ 84 rfl 0 4 i0 (.bool false) 1 Try.underlying84 hi hz0 hz1 ns.length rfl rfl (by rw [hz2]; omega) (by unfold maxLen; omega) (Nat.zero_le _) ?_; intro w2 hown2 hgrow2; have hB12 : Below w1.heap.size w1 w2 := (Below.refl _ _).grown hgrow2 (Nat.le_refl _) (by simp); have e1 := (hB12.cell (p := ⟨b1, 0, none⟩) (Nat.lt_of_lt_of_le hlW1 HQ.out.size)).trans d1; have e2 := (hB12.cell (p := ⟨b2, 0, none⟩) (Nat.lt_of_lt_of_le hlW2 HQ.out.size)).trans d2; have hO2 : w2.ownsRow 0 4 1 (.slice (some ⟨w1.heap.size, 0, none⟩) ns.length ns.length) ns.length (liesL ns top top) := (by rw [liesL_start]; have h := hown2; rw [show (Value.bool false).cells = #[.bool false] from rfl, toList_madeCells_one, Nat.mul_one] at h; exact h); have cm := (World.ownsRow.cellAt (w := w2) hO2 top (by omega)).trans (liesL_at ns top top top htop); have fm := World.ownsRow.frozenAt (w := w2) hO2 top; have hlb : w1.heap.size < w2.heap.size := cell_lt cm; have f1 := (cell_set_other (i := top) (u := .bool true) (show b1 ≠ w1.heap.size from (by have := HQ.out.size; omega))).trans e1; have f2 := (cell_set_other (i := top) (u := .bool true) (show b2 ≠ w1.heap.size from (by have := HQ.out.size; omega))).trans e2; have HO2 := hideT hO2; have HB12 := hideT hB12; have HG2 := hideT hgrow2; clear hO2 hB12 hgrow2 hown2 d1 d2))
    have HO3 : Hid ((w2.setCell ⟨w1.heap.size, top, none⟩ (.bool true)).ownsRow 0 4 1 (.slice (some ⟨w1.heap.size, 0, none⟩) ns.length ns.length) ns.length (liesL ns top (top + 1))) := by
      have h := (World.ownsRow.stored (w := w2) HO2.out top (.bool true)).1
      have h2 := liesL_set ns top top htop
      rw [Lk.und_self] at h2
      rw [h2] at h
      exact h
    have HJ3 : Hid (J w1.heap.size [] (w2.setCell ⟨w1.heap.size, top, none⟩ (.bool true))) := HJs.out _ _ _ _ _ (HJ0.out w2 w1.heap.size (HQ.out.trans (HB12.out.mono HQ.out.size)) HQ.out.size hlb)
    have HK3 : Hid (Keeps3 wN.heap.size b1 b2 b1 W (w2.setCell ⟨w1.heap.size, top, none⟩ (.bool true))) := by
      have hb := (HQ.out.trans (HB12.out.mono HQ.out.size)).setCell (p := ⟨w1.heap.size, top, none⟩) HQ.out.size (.bool true)
      exact Keeps3.of hb HNW.out.size hlW1 hlW2 hlW1
    have hlb3 : w1.heap.size < (w2.setCell ⟨w1.heap.size, top, none⟩ (.bool true)).heap.size := by simpa [World.setCell] using hlb
    have hLW : W.heap.size ≤ w1.heap.size := HQ.out.size
    generalize (w2.setCell ⟨w1.heap.size, top, none⟩ (.bool true)) = W3 at *
    generalize w1.heap.size = L at *
    clear HO2 HB12 HG2 HQ cm fm hlb e1 e2
    gi_loopw [5] (fun i wr => ∃ k : Nat, i = .int .i64 (k : Int) ∧ top + 1 ≤ k ∧ k ≤ ns.length ∧ Hid (wr.ownsRow 0 4 1 (.slice (some ⟨L, 0, none⟩) ns.length ns.length) ns.length (liesL ns top k)) ∧ Hid (J L (Lk.belowTo ns top k) wr) ∧ Hid (Keeps3 wN.heap.size b1 b2 b1 W wr)) (fun i _ => ns.length - (intOf i).toNat)
    case atStart => exact ⟨top + 1, by go_num, Nat.le_refl _, htop, HO3, by rw [Lk.belowTo_none ns top (top + 1) (Nat.le_refl _)]; exact HJ3, HK3⟩
    case round =>
      obtain ⟨k, rfl, hk1, hk2, HO, HJ, HK⟩ := hrel
      rename World => X
      have x1 : X.cell? ⟨b1, 0, none⟩ = some (.slice (some ⟨g, o, none⟩) ns.length c) := doc_cell (HK.out.one.trans HB1.out)
      have x2 : X.cell? ⟨b2, 0, none⟩ = some (.int .i64 (top : Int)) := Lib.cell_of_heap (HK.out.two.trans HB2.out) 0
      by_cases hlt : k < ns.length
      · obtain ⟨hu0, hu1⟩ := HUp.out k hlt (by omega)
        have HRX := hideT (HVN.out.below (HNW.out.trans HK.out.bel))
        obtain ⟨aa, ac, ka, kc, hr⟩ := (by
          obtain ⟨b', o', aa, ac, ka, kc, e, _, hr⟩ := HRX.out.at hlt
          cases e
          exact ⟨aa, ac, ka, kc, hr⟩ : ∃ aa ac ka kc, NdR X g (o + k * 6) (Tre.ndAt ns k) aa ac ka kc)
        obtain ⟨u, hu⟩ : ∃ u : Nat, (Tre.ndAt ns k).up = (u : Int) := ⟨(Tre.ndAt ns k).up.toNat, by omega⟩
        have hul : u < ns.length := by omega
        have c4 := hr.c4
        have c0 := hr.c0
        rw [hu] at c4
        have HUk := hideT (HUnd.out k hlt (by omega))
        rw [hu, Int.toNat_natCast] at HUk
        have cm := (World.ownsRow.cellAt (w := X) HO.out u (by omega)).trans (liesL_at ns top k u hul)
        rw [decide_eq_true (by omega : u < k), Bool.true_and, ← HUk.out] at cm
        have ck := (World.ownsRow.cellAt (w := X) HO.out k (by omega)).trans (liesL_at ns top k k hlt)
        have fm := World.ownsRow.frozenAt (w := X) HO.out k
        have HS := hideT (fun B (e : Lk.und ns top k = B) => (show (X.setCell ⟨L, k, none⟩ (.bool B)).ownsRow 0 4 1 (.slice (some ⟨L, 0, none⟩) ns.length ns.length) ns.length (liesL ns top (k + 1)) from by
          have h := (World.ownsRow.stored (w := X) HO.out k (.bool B)).1
          rw [← e, liesL_set ns top k hlt] at h
          rw [← e]
          exact h))
        have hn1 : b1 ≠ L := by omega
        have hn2 : b2 ≠ L := by omega
        have hng : g ≠ L := by omega
        have hnw : wN.heap.size ≤ L := Nat.le_trans HNW.out.size hLW
        have HJ4 := hideT (fun B => HJs.out L _ X k (.bool B) HJ.out)
        have HK4 := hideT (fun B => (show Keeps3 wN.heap.size b1 b2 b1 W (X.setCell ⟨L, k, none⟩ (.bool B)) from
          ⟨HK.out.bel.setCell (p := ⟨L, k, none⟩) hnw _, (Below.heap_setCell X ⟨L, k, none⟩ (.bool B) b1 hn1).trans HK.out.one, (Below.heap_setCell X ⟨L, k, none⟩ (.bool B) b2 hn2).trans HK.out.two, (Below.heap_setCell X ⟨L, k, none⟩ (.bool B) b1 hn1).trans HK.out.row⟩))
        have y1 := fun B => (cell_set_other (i := k) (j := 0) (u := .bool B) hn1).trans x1
        have y0 := fun B => (cell_set_other (i := k) (j := o + k * 6) (u := .bool B) hng).trans c0
        have yk := fun B => World.cell?_setCell_same' X ⟨L, k, none⟩ (.bool B) (by rw [ck]; rfl)
        have HRow := hideT (fun B (A : World) (h : Keeps3 wN.heap.size b1 b2 L (X.setCell ⟨L, k, none⟩ (.bool B)) A) (e : Lk.und ns top k = B) => row_block (HS.out B e) h.row)
        have HKA := hideT (fun B (A : World) (h : Keeps3 wN.heap.size b1 b2 L (X.setCell ⟨L, k, none⟩ (.bool B)) A) => (show Keeps3 wN.heap.size b1 b2 b1 W A from ⟨(HK4.out B).bel.trans h.bel, h.one.trans (HK4.out B).one, h.two.trans (HK4.out B).two, h.one.trans (HK4.out B).row⟩))
        have HK1 : Hid (k + 1 ≤ ns.length) := hlt
        clear hu hu0 hu1 HRX hr HO HK HJ
        cases hB : Lk.und ns top k
        · have HN := hideT (Lk.belowTo_no (top := top) (k := k) (.inr hB))
          have HOB := hideT (HS.out _ hB)
          rw [hB] at cm
          have z1 := y1 false
          have z0 := y0 false
          have zk := yk false
          clear y1 y0 yk hB
          gi_wp2
          refine ⟨fun _ h => (by cases h), ?_⟩
          gi_wp2
          go_roundw
          case rel => exact ⟨k + 1, by go_num, by omega, HK1.out, HOB, by rw [HN.out]; exact HJ4.out false, HK4.out false⟩
          case measure => have := HK1.out; simp [intOf]; omega
        · have HOB := hideT (HS.out _ hB)
          rw [hB] at cm
          have z1 := y1 true
          have z0 := y0 true
          have zk := yk true
          by_cases hkd : (Tre.ndAt ns k).kind = 2
          · have HN := hideT (Lk.belowTo_yes (top := top) (k := k) (by omega) hkd hB)
            rw [hkd] at z0
            have hpre : Lk.belowTo ns top k ++ [(k : Int)] <+: Lk.belowL ns top := by
              rw [← HN.out]
              exact Lk.belowTo_pre ns top ns.length (k + 1) HK1.out
            obtain ⟨fn, tmps, assign, body, hy, hR⟩ := HY.out L _ (k : Int) _ (HJ4.out true) hpre
            have HB := hideT hB
            clear y1 y0 yk hB hkd hpre
            gi_wp2
            refine hR.mono ?_
            rintro e W5 ⟨rfl, hJ5, hk5⟩
            have HJ5 := hideT hJ5
            have HO5 := hideT (HRow.out true W5 hk5 HB.out)
            have HK5 := hideT (HKA.out true W5 hk5)
            clear hJ5 hk5 z1 z0 zk cm ck fm hR hy c4 c0 x1 x2
            gi_wp2
            go_roundw
            case rel => exact ⟨k + 1, by go_num, by omega, HK1.out, HO5, by rw [HN.out]; exact HJ5.out, HK5⟩
            case measure => have := HK1.out; simp [intOf]; omega
          · have HN := hideT (Lk.belowTo_no (top := top) (k := k) (.inl hkd))
            have q2 : ((Tre.ndAt ns k).kind == (2 : Int)) = false := beq_eq_false_iff_ne.2 hkd
            clear y1 y0 yk hB hkd
            generalize (Tre.ndAt ns k).kind = kd at *
            gi_wp2
            refine ⟨fun _ h => (by cases h), ?_⟩
            gi_wp2
            go_roundw
            case rel => exact ⟨k + 1, by go_num, by omega, HK1.out, HOB, by rw [HN.out]; exact HJ4.out true, HK4.out true⟩
            case measure => have := HK1.out; simp [intOf]; omega
      · have hke : k = ns.length := by omega
        subst hke
        gi_wp2
        go_end0
        exact ⟨⟨_, rfl⟩, .inl ⟨L, HJ.out⟩⟩
end Go.Proofs.Ytoiedadfpbbdgaa
/- The contracts of look's below and Below. -/
namespace Go.Proofs.Ytoiedadfpbbdgaa
open Go Go.RowKit Go.Shelf
attribute [local go_sem] Oper.semAt_some
theorem wpListIn_append_I {F : Fence} {n : Nat} {w : World} {ops : Array Oper} {rest : List Oper} {o : Oper} {a : Act} {Q : Exit → Act → World → Prop} (hgd : o.guard = none) (s x : Operand)
    (hop : o.op = .call { callee := .builtin .append, args := #[s, x], argTypes := #[39, 39] }) (B : Nat) (v : Value) (ks : List Int) (hs : a.eval s = v) (hown : OwnsI w B v ks) (g c : Nat) (hx : a.eval x = .slice (some ⟨g, 0, none⟩) 1 c) (y : Int) (hg : w.cell? ⟨g, 0, none⟩ = some (.int .i64 y)) (hlen : ks.length ≤ 10000000) (hB : B ≤ w.heap.size)
    (h : ∀ v' w', OwnsI w' B v' (ks ++ [y]) → w.grownBy w' v.ownBlock → (v'.ownBlock = v.ownBlock ∨ v'.ownBlock = some w.heap.size) → wpListIn F n Try.prog ops Q rest (a.put o.dst v') w') : wpListIn F n Try.prog ops Q (o :: rest) a w := by
  refine wpListIn_plain hgd fun K hK' => ?_
  obtain ⟨v', w', hrun, h2, h3, h4⟩ := run_append_I w o.type B v ks hown ⟨g, 0, none⟩ c y hg rfl hlen hB
  unfold Oper.wpIn
  refine ⟨?_, ?_⟩
  · simp [Oper.about, hop, resolve, Target.leads, Sem.run_pure]
  · rw [Oper.semAt_plain F _ _ (by rw [hop]; intro c hc'; cases hc')]
    simp [execOp, hop, resolve, invoke, builtin, hs, hx, hrun, Result.andThen]
    exact hK' _ _ (h v' w' h2 h3 h4)
theorem alloc4 (w : World) (o0 o1 o2 o3 : Obj) : ((((w.alloc o0).alloc o1).alloc o2).alloc o3).heap[w.heap.size]? = some o0 ∧ ((((w.alloc o0).alloc o1).alloc o2).alloc o3).heap[w.heap.size + 1]? = some o1 ∧ ((((w.alloc o0).alloc o1).alloc o2).alloc o3).heap[w.heap.size + 2]? = some o2 ∧ ((((w.alloc o0).alloc o1).alloc o2).alloc o3).heap[w.heap.size + 3]? = some o3 := by
  have n0 := World.alloc_heap_new w o0
  have n1 := World.alloc_heap_new (w.alloc o0) o1
  have n2 := World.alloc_heap_new ((w.alloc o0).alloc o1) o2
  have n3 := World.alloc_heap_new (((w.alloc o0).alloc o1).alloc o2) o3
  rw [World.size_alloc] at n1
  rw [World.size_alloc, World.size_alloc] at n2
  rw [World.size_alloc, World.size_alloc, World.size_alloc] at n3
  refine ⟨?_, ?_, ?_, n3⟩
  · rw [Below.heap_alloc _ _ _ (by simp only [World.size_alloc]; omega), Below.heap_alloc _ _ _ (by simp only [World.size_alloc]; omega), Below.heap_alloc _ _ _ (by simp only [World.size_alloc]; omega)]
    exact n0
  · rw [Below.heap_alloc _ _ _ (by simp only [World.size_alloc]; omega), Below.heap_alloc _ _ _ (by simp only [World.size_alloc]; omega)]
    exact n1
  · rw [Below.heap_alloc _ _ _ (by simp only [World.size_alloc]; omega)]
    exact n2
theorem appended_block {W w1 : World} {tmp : Obj} {v v' : Value} {B k : Nat} (hgrow : (W.alloc tmp).grownBy w1 v.ownBlock) (hk : k < W.heap.size) (hkB : k ≠ B) (hkv : v.ownBlock ≠ some k) : (w1.setCell ⟨B, 0, none⟩ v').heap[k]? = W.heap[k]? := by
  rw [Below.heap_setCell w1 ⟨B, 0, none⟩ v' k hkB, hgrow.block k (by simp; omega) (fun e => hkv e.symm), Below.heap_alloc _ _ _ hk]
/-- What the caller's own cells hold between two rounds: the places that have come. -/
def CollI (w : World) (dv : Value) (f : List Int → List Int) (L : Nat) (pre : List Int) (W : World) : Prop :=
  (∃ v, Boxed W (w.heap.size + 1) 39 v ∧ OwnsI W (w.heap.size + 4) v (f pre) ∧ v.ownBlock ≠ some L) ∧ w.heap.size + 4 ≤ L ∧ L < W.heap.size ∧ Below w.heap.size w W ∧ W.heap[w.heap.size]? = some (.cells #[dv] 24 (0, 0))
theorem CollI.below {w A B : World} {dv : Value} {L : Nat} {f : List Int → List Int} {pre : List Int} (h : CollI w dv f L pre A) (hb : Below A.heap.size A B) : CollI w dv f L pre B := by
  obtain ⟨⟨v, h1, h2, h3⟩, h4, h6, h7, h8⟩ := h
  exact ⟨⟨v, (hb.block _ h1.lt).trans h1, ownsRow_below h2 hb, h3⟩, h4, Nat.lt_of_lt_of_le h6 hb.size, h7.trans (hb.mono h7.size), (hb.block _ (Array.getElem?_eq_some_iff.1 h8).1).trans h8⟩
theorem CollI.set {w A : World} {dv : Value} {L i : Nat} {u : Value} {f : List Int → List Int} {pre : List Int} (h : CollI w dv f L pre A) : CollI w dv f L pre (A.setCell ⟨L, i, none⟩ u) := by
  obtain ⟨⟨v, h1, h2, h3⟩, h4, h6, h7, h8⟩ := h
  refine ⟨⟨v, (Below.heap_setCell A ⟨L, i, none⟩ u _ (by show _ ≠ L; omega)).trans h1, row_keepK h2 (fun k hk _ => Below.heap_setCell A ⟨L, i, none⟩ u k (fun e => h3 (by rw [hk]; exact congrArg some e))), h3⟩, h4, by simpa [World.setCell] using h6, h7.setCell (p := ⟨L, i, none⟩) (by show _ ≤ L; omega) _, (Below.heap_setCell A ⟨L, i, none⟩ u _ (by show _ ≠ L; omega)).trans h8⟩
theorem CollI.put {w A : World} {dv : Value} {L l : Nat} {o o' : Obj} {f : List Int → List Int} {pre : List Int} (h : CollI w dv f L pre A) (hl : w.heap.size ≤ l) (ho : A.heap[l]? = some o) (hc : o.isCells = false) : CollI w dv f L pre (A.putObj l o') := by
  obtain ⟨⟨v, h1, h2, h3⟩, h4, h6, h7, h8⟩ := h
  have ne : ∀ {k : Nat} {cs : Array Value} {t : TypeId}, A.heap[k]? = some (.cells cs t (0, 0)) → k ≠ l := fun hk e => by
    subst e
    rw [hk] at ho
    cases ho
    cases hc
  refine ⟨⟨v, (World.putObj_heap_other (ne h1)).trans h1, row_keepK h2 (fun k hk _ => World.putObj_heap_other ?_), h3⟩, h4, by simpa using h6, h7.grown (grownBy_putObj' A l o') h7.size (fun k e => by cases e; exact hl), (World.putObj_heap_other (ne h8)).trans h8⟩
  rcases h2.2 with ⟨rfl, _⟩ | ⟨g, cap, cur, rfl, _, hg, _⟩
  · cases hk
  · have : g = k := by simpa [Value.ownBlock] using hk
    subst this
    exact ne hg
/-- A place more is put to them. -/
theorem CollI.more {w W w1 : World} {dv v v' : Value} {L : Nat} {f : List Int → List Int} {pre : List Int} {x : Int} {tmp : Obj} (h1 : Boxed W (w.heap.size + 1) 39 v) (h2 : OwnsI W (w.heap.size + 4) v (f pre)) (h3 : v.ownBlock ≠ some L) (h4 : w.heap.size + 4 ≤ L) (h6 : L < W.heap.size) (h7 : Below w.heap.size w W) (h8 : W.heap[w.heap.size]? = some (.cells #[dv] 24 (0, 0)))
    (ho : OwnsI w1 (w.heap.size + 4) v' (f pre ++ [x])) (hg : (W.alloc tmp).grownBy w1 v.ownBlock) (ha : v'.ownBlock = v.ownBlock ∨ v'.ownBlock = some (W.alloc tmp).heap.size) (hs : w.heap.size + 4 ≤ W.heap.size) (hf : f (pre ++ [x]) = f pre ++ [x]) :
    KeepsOthers W (w1.setCell ⟨w.heap.size + 1, 0, none⟩ v') ∧ Keeps3 w.heap.size (w.heap.size + 2) (w.heap.size + 3) L W (w1.setCell ⟨w.heap.size + 1, 0, none⟩ v') ∧ CollI w dv f L (pre ++ [x]) (w1.setCell ⟨w.heap.size + 1, 0, none⟩ v') := by
  have hlow : ∀ k, v.ownBlock = some k → w.heap.size + 4 ≤ k := fun k hk => (World.ownsRow.lt h2 k hk).1
  have hlt : ∀ k, v.ownBlock = some k → k < W.heap.size := fun k hk => (World.ownsRow.lt h2 k hk).2
  have hb1 : Below w.heap.size W (w1.setCell ⟨w.heap.size + 1, 0, none⟩ v') := by
    refine (((Below.refl w.heap.size W).alloc (by omega) tmp).grown hg (by simp; omega) (fun k hk => by have := hlow k hk; omega)).setCell (p := ⟨w.heap.size + 1, 0, none⟩) (by show _ ≤ w.heap.size + 1; omega) _
  have hne : ∀ k, k < w.heap.size + 4 → v.ownBlock ≠ some k := fun k hk e => by have := hlow k e; omega
  have hbx : w1.heap[w.heap.size + 1]? = some (.cells #[v] 39 (0, 0)) := by
    rw [hg.block _ (by simp; omega) (fun e => hne _ (by omega) e.symm), Below.heap_alloc _ _ _ (by omega)]
    exact h1
  have hw1 : W.heap.size ≤ w1.heap.size := by have := hg.size; simp at this; omega
  refine ⟨?_, ⟨hb1, appended_block hg (by omega) (by omega) (hne _ (by omega)), appended_block hg (by omega) (by omega) (hne _ (by omega)), appended_block hg h6 (by omega) h3⟩, ⟨v', Boxed.set v' hbx, ?_, ?_⟩, h4, by simp [World.setCell]; omega, h7.trans hb1, (appended_block hg (by omega) (by omega) (hne _ (by omega))).trans h8⟩
  · refine ((KeepsOthers.alloc W tmp).trans (KeepsOthers.of_grownBy hg fun j o ej hj => ?_)).trans (KeepsOthers.setCell _ _ _)
    rcases h2.2 with ⟨rfl, _⟩ | ⟨g, cap, cur, rfl, _, hgb, _⟩
    · simp [Value.ownBlock] at ej
    · obtain rfl : g = j := by simpa [Value.ownBlock] using ej
      rw [Below.heap_alloc _ _ _ (hlt _ ej), hgb] at hj
      cases hj
      rfl
  · rw [hf]
    refine row_keepK ho (fun k hk _ => Below.heap_setCell w1 ⟨w.heap.size + 1, 0, none⟩ v' k ?_)
    have := (World.ownsRow.lt ho k hk).1
    show k ≠ w.heap.size + 1
    omega
  · rcases ha with e | e
    · rw [e]; exact h3
    · rw [e]
      intro h
      have h := Option.some.inj h
      simp at h
      omega
set_option maxHeartbeats 1000000 in
set_option maxRecDepth 100000 in
theorem below14_any (a : Option Addr) (n c : Nat) (at_ : Int) (w : World) :
    Calls Try.prog 43 #[.agg #[.slice a n c], .int .i64 at_] w fun e w' => e = .returned (.func (.func 61) #[] #[.pointer (some ⟨w.heap.size, 0, none⟩), .pointer (some ⟨w.heap.size + 1, 0, none⟩)]) ∧ w' = (w.alloc (.cells #[.slice a n c] 24)).alloc (.cells #[.int .i64 at_] 3) := by
  have hmf : ∀ (fn : Fn) (first cap : Array Value) (w : World), (Instr.makeFunc fn first cap).run Try.prog w = .ok (.func fn first cap) w := fun _ _ _ _ => rfl
  go_enter Try.func43, Try.ntmps43
  go_wp2
  go_ret
  exact ⟨rfl, rfl⟩
def belowR14 (ns : List Nd) (at_ : Int) : List Int := if Lk.placeB ns at_ = true then Lk.belowL ns at_.toNat else []
set_option maxHeartbeats 8000000 in
set_option maxRecDepth 100000 in
theorem Below14_any (ns : List Nd) (v : Value) (at_ : Int) (w : World) (hv : ReadsN w v ns) (hf : Fair14 ns) :
    Calls Try.prog 20 #[.agg #[v], .int .i64 at_] w fun e w' => ∃ x, e = .returned x ∧ OwnsI w' w.heap.size x (belowR14 ns at_) ∧ Below w.heap.size w w' := by
  obtain ⟨a, c, rfl⟩ := hv.form
  obtain ⟨xs, hxs⟩ : ∃ xs, belowR14 ns at_ = xs := ⟨_, rfl⟩
  rw [hxs]
  refine (callsIn_wide (n := 6)).1 ?_
  refine callsIn_of_wp_marks Try.func20 rfl trivial ?_ rfl
  simp only [Try.ntmps20, List.size_toArray, List.length_cons, List.length_nil, Nat.reduceAdd, Nat.reduceSub, Array.replicate_succ, Array.replicate_zero, List.push_toArray, List.append_toArray, List.nil_append, List.cons_append]
  gi_wp2_with (refine ⟨trivial, ?_⟩; gi_at_call 43; refine (callsIn_wide.2 (below14_any _ _ _ _ _)).mono ?_; rintro e w' ⟨rfl, rfl⟩)
  have hsz : ((((w.alloc (.cells #[.slice a ns.length c] 24)).alloc (.cells #[.slice none 0 0] 39)).alloc (.cells #[.slice a ns.length c] 24)).alloc (.cells #[.int .i64 at_] 3)).heap.size = w.heap.size + 4 := by simp
  have hB0 : Below w.heap.size w ((((w.alloc (.cells #[.slice a ns.length c] 24)).alloc (.cells #[.slice none 0 0] 39)).alloc (.cells #[.slice a ns.length c] 24)).alloc (.cells #[.int .i64 at_] 3)) := (((((Below.refl _ w).alloc (Nat.le_refl _) _).alloc (by simp) _).alloc (by simp; omega) _).alloc (by simp; omega) _)
  obtain ⟨hd0, hd1, hd2, hd3⟩ := alloc4 w (.cells #[.slice a ns.length c] 24) (.cells #[.slice none 0 0] 39) (.cells #[.slice a ns.length c] 24) (.cells #[.int .i64 at_] 3)
  have hseq := below1_seq ns a c at_ (w.heap.size + 2) (w.heap.size + 3) 5 (by omega) w _ hv hf hB0 hd2 hd3
  have hxl : (belowR14 ns at_).length ≤ 1000 := by
    unfold belowR14
    split
    · rename_i h
      obtain ⟨i, rfl, hi, hm⟩ := Lk.place_yes h
      have := Lk.belowTo_len ns i ns.length
      have := hf.few hm
      rw [Int.toNat_natCast]
      unfold Lk.belowL
      omega
    · exact Nat.zero_le _
  have hXS : (if Lk.placeB ns at_ = true then Lk.belowL ns at_.toNat else []) = belowR14 ns at_ := rfl
  rw [hXS, hxs] at hseq
  rw [hxs] at hxl
  clear hXS
  rw [show w.heap.size + 1 + 1 = w.heap.size + 2 from rfl, show w.heap.size + 2 + 1 = w.heap.size + 3 from rfl]
  generalize ((((w.alloc (.cells #[.slice a ns.length c] 24)).alloc (.cells #[.slice none 0 0] 39)).alloc (.cells #[.slice a ns.length c] 24)).alloc (.cells #[.int .i64 at_] 3)) = W0 at *
  clear hxs
  refine wp_range_cells (gf := 61) (lb := #[.pointer (some ⟨w.heap.size + 2, 0, none⟩), .pointer (some ⟨w.heap.size + 3, 0, none⟩)]) rfl (enters_of Try.func61 (by kernel_rfl) rfl) rfl (n₀ := w.heap.size) (b1 := w.heap.size + 2) (b2 := w.heap.size + 3) (xs := xs) (by omega) (by omega) (by omega) hseq
    (CollI w (.slice a ns.length c) (fun l => l)) (fun L pre A B h hb => h.below hb) (fun L pre A i v h => h.set) (fun L pre A l o o' h hl ho hc => h.put (by omega) ho hc)
    (fun A L hA hL hLA => ⟨⟨.slice none 0 0, (hA.block _ (by omega)).trans hd1, World.ownsRow_nil _ _ _ _, by simp [Value.ownBlock]⟩, by omega, hLA, hB0.trans (hA.mono (by omega)), (hA.block _ (by omega)).trans hd0⟩)
    (fun x => { tmps := #[.agg #[.slice a ns.length c], .int .i64 at_, .pointer (some ⟨w.heap.size, 0, none⟩), undef, .slice none 0 0, .pointer (some ⟨w.heap.size + 1, 0, none⟩), .int .i64 x, .agg #[.slice a ns.length c], .int .i64 at_, .func (.func 61) #[] #[.pointer (some ⟨w.heap.size + 2, 0, none⟩), .pointer (some ⟨w.heap.size + 3, 0, none⟩)], .int .i64 x, undef, undef, undef, undef, undef], defers := [] }) ?assign ?body ?done
  case assign =>
    intro l x W K hK
    gi_wp2
    exact hK
  case body =>
    rintro l L pre x W ⟨⟨v, h1, h2, h3⟩, h4, h6, h7, h8⟩ hpre hL hLW hsW
    have hc := h1.cell
    have hpl : pre.length ≤ 1000 := by
      have := hpre.length_le
      rw [List.length_append] at this
      omega
    have H1 := hideT h1
    have H2 := hideT h2
    have H8 := hideT h8
    clear h1 h2 h8 hseq hd0 hd1 hd2 hd3 hv
    gi_wp2_with (gi_at_builtin; refine wpListIn_append_I rfl _ _ rfl (w.heap.size + 4) v pre rfl (ownsRow_below H2.out ((Below.refl _ W).alloc (Nat.le_refl _) _)) W.heap.size 1 rfl x (Lib.cell_of_heap (heap_new W _) 0) (by omega) (by simp; omega) ?_; intro v' w1 hO' hgrow hat; have HM := hideT (CollI.more (f := fun l => l) H1.out H2.out h3 h4 h6 h7 H8.out hO' hgrow hat (by omega) rfl); have hbx : Boxed w1 (w.heap.size + 1) 39 v := (hgrow.block _ (by simp; have := H1.out.lt; omega) (fun e => by have := (World.ownsRow.lt H2.out _ e.symm).1; omega)).trans ((Below.heap_alloc _ _ _ H1.out.lt).trans H1.out); have hc1 := hbx.cell; have hf1 := hbx.frozen; obtain ⟨xa, xc, e7⟩ := (OwnsI.reads hO').form; rw [List.length_append, List.length_singleton] at e7; subst e7; clear hO' hgrow hat hbx)
    exact HM.out
  case done =>
    rintro D W hD hor hK
    obtain ⟨v, h1, h2, h7⟩ : ∃ v, Boxed W (w.heap.size + 1) 39 v ∧ OwnsI W (w.heap.size + 4) v xs ∧ Below w.heap.size w W := by
      rcases hor with ⟨L, ⟨v, h1, h2, _⟩, _, _, h7, _⟩ | ⟨rfl, hb⟩
      · exact ⟨v, h1, h2, h7⟩
      · exact ⟨_, (hb.block _ (by omega)).trans hd1, World.ownsRow_nil _ _ _ _, hB0.trans (hb.mono (by omega))⟩
    have hc := h1.cell
    have H2 := hideT h2
    clear h1 h2 hor hseq hd0 hd1 hd2 hd3 hv
    gi_wp2
    refine ⟨by simp, .inl ⟨_, _, rfl, run_takeDeferred hK, ?_⟩⟩
    exact ⟨_, results_tmp rfl _ _ _, v, rfl, row_mono (B := w.heap.size) (C := w.heap.size + 4) (ownsRow_putObj H2.out _ hK rfl) (by omega), h7.trans (belowK_b (w := w) (Nat.le_refl _) W D _ _ (by omega) hK rfl rfl)⟩
end Go.Proofs.Ytoiedadfpbbdgaa
