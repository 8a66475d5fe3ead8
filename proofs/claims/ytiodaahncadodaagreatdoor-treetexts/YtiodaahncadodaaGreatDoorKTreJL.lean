/- Texts laid as one. -/
import Derived.Test.YtiodaahncadodaaGreatDoorKTreGI
import Derived.Maps.Own
import Derived.Maps.OwnOps
import Derived.Maps.OwnSet
import Derived.Deep.RegionWith
import Derived.Deep.RegionLaw
/- A builder of trees in memory. -/
set_option linter.unusedVariables false
set_option linter.unusedSimpArgs false
namespace Go.Proofs.YtiodaahncadodaaGreatDoor
open Go.RowKit Go.Maps Go.WideMaps
/-! ### territories -/
structure OwnT (T : Nat → Prop) (w w' : World) : Prop where
  os : w'.os = w.os
  tape : w'.tape = w.tape
  output : w'.output = w.output
  size : w.heap.size ≤ w'.heap.size
  block : ∀ k, k < w.heap.size → ¬ T k → w'.heap[k]? = w.heap[k]?
theorem OwnT.refl (T : Nat → Prop) (w : World) : OwnT T w w := ⟨rfl, rfl, rfl, Nat.le_refl _, fun _ _ _ => rfl⟩
theorem OwnT.of {T : Nat → Prop} {w w' : World} (h : Below w.heap.size w w') : OwnT T w w' := ⟨h.os, h.tape, h.output, h.size, fun k hk _ => h.block k hk⟩
def MoreT (T : Nat → Prop) (w w' : World) : Nat → Prop := fun k => T k ∨ (w.heap.size ≤ k ∧ k < w'.heap.size)
theorem OwnT.trans {T T' : Nat → Prop} {a b c : World} (h : OwnT T a b) (h2 : OwnT T' b c) (hT : ∀ k, T' k → T k ∨ a.heap.size ≤ k) : OwnT T a c :=
  ⟨h2.os.trans h.os, h2.tape.trans h.tape, h2.output.trans h.output, Nat.le_trans h.size h2.size, fun k hk hn => (h2.block k (Nat.lt_of_lt_of_le hk h.size) (fun ht => (hT k ht).elim hn (fun hx => by omega))).trans (h.block k hk hn)⟩
theorem OwnT.grown {T : Nat → Prop} {w w' : World} {r : Option Nat} (h : w.grownBy w' r) (hr : ∀ k, r = some k → T k) : OwnT T w w' := ⟨h.os, h.tape, h.output, h.size, fun k hk hn => h.block k hk (fun e => hn (hr k e.symm))⟩
theorem OwnT.setCell {T : Nat → Prop} (w : World) (p : Addr) (v : Value) (h : T p.block) : OwnT T w (w.setCell p v) :=
  ⟨rfl, rfl, rfl, by simp [World.setCell], fun k _ hn => Below.heap_setCell _ _ _ _ (fun e => hn (by rw [e]; exact h))⟩
theorem setCell_size13 (w : World) (a : Addr) (v : Value) : (w.setCell a v).heap.size = w.heap.size := by simp [World.setCell]
/-! ### rows of nodes -/
/-- A node, its attributes' slice, its kids' slice. -/
abbrev PN := Nd × Value × Value
def nCells (ps : List PN) : List Value := ps.flatMap fun p => [.int .i64 p.1.kind, .string (str p.1.name), p.2.1, .string (str p.1.text), .int .i64 p.1.up, p.2.2]
theorem nCells_snoc (ps : List PN) (p : PN) : nCells (ps ++ [p]) = nCells ps ++ [.int .i64 p.1.kind, .string (str p.1.name), p.2.1, .string (str p.1.text), .int .i64 p.1.up, p.2.2] := by simp [nCells]
theorem nCells_cons (p : PN) (ps : List PN) : nCells (p :: ps) = .int .i64 p.1.kind :: .string (str p.1.name) :: p.2.1 :: .string (str p.1.text) :: .int .i64 p.1.up :: p.2.2 :: nCells ps := rfl
theorem nCells_at : ∀ (ps : List PN) (j : Nat) (p : PN), ps[j]? = some p → ∀ i v, [.int .i64 p.1.kind, .string (str p.1.name), p.2.1, .string (str p.1.text), .int .i64 p.1.up, p.2.2][i]? = some v → (nCells ps)[j * 6 + i]? = some v
  | [], j, p, h => by simp at h
  | q :: ps, 0, p, h => fun i v hv => by
    simp at h
    subst h
    rw [nCells_cons, Nat.zero_mul, Nat.zero_add]
    rcases i with _ | _ | _ | _ | _ | _ | i
    · exact hv
    · exact hv
    · exact hv
    · exact hv
    · exact hv
    · exact hv
    · simp at hv
  | q :: ps, j + 1, p, h => fun i v hv => by
    have := nCells_at ps j p (by simpa using h) i v hv
    rw [nCells_cons, show (j + 1) * 6 + i = j * 6 + i + 1 + 1 + 1 + 1 + 1 + 1 from by omega]
    simpa using this
theorem nCells_set : ∀ (ps : List PN) (j : Nat) (p q : PN) (i : Nat) (v : Value), ps[j]? = some p → i < 6 → [.int .i64 q.1.kind, .string (str q.1.name), q.2.1, .string (str q.1.text), .int .i64 q.1.up, q.2.2] = [.int .i64 p.1.kind, .string (str p.1.name), p.2.1, .string (str p.1.text), .int .i64 p.1.up, p.2.2].set i v → (nCells ps).set (j * 6 + i) v = nCells (ps.set j q)
  | [], j, p, q, i, v, h, hi, e => by simp at h
  | x :: ps, 0, p, q, i, v, h, hi, e => by
    simp at h
    subst h
    rw [List.set_cons_zero, nCells_cons, nCells_cons, Nat.zero_mul, Nat.zero_add]
    rcases i with _ | _ | _ | _ | _ | _ | i
    · simp at e ⊢
      simp [e]
    · simp at e ⊢
      simp [e]
    · simp at e ⊢
      simp [e]
    · simp at e ⊢
      simp [e]
    · simp at e ⊢
      simp [e]
    · simp at e ⊢
      simp [e]
    · omega
  | x :: ps, j + 1, p, q, i, v, h, hi, e => by
    have := nCells_set ps j p q i v (by simpa using h) hi e
    rw [List.set_cons_succ, nCells_cons, nCells_cons, show (j + 1) * 6 + i = j * 6 + i + 1 + 1 + 1 + 1 + 1 + 1 from by omega, List.set_cons_succ, List.set_cons_succ, List.set_cons_succ, List.set_cons_succ, List.set_cons_succ, List.set_cons_succ, this]
/-! ### slices that lie apart -/
def ApartL (L : List Value) : Prop := ∀ (a b : Nat) u v, L[a]? = some u → L[b]? = some v → a ≠ b → ApK u v
theorem ApartL.set {L : List Value} (h : ApartL L) (n : Nat) (hlow : ∀ v ∈ L, ∀ k, v.ownBlock = some k → k < n) {a : Nat} {v v' : Value} (ha : L[a]? = some v) (hv : v'.ownBlock = v.ownBlock ∨ v'.ownBlock = some n) : ApartL (L.set a v') := by
  have hal : a < L.length := (List.getElem?_eq_some_iff.1 ha).1
  have hap : ∀ b x, L[b]? = some x → b ≠ a → ApK x v' := fun b x hb hne k e1 e2 => by
    rcases hv with e | e
    · exact h b a x v hb ha hne k e1 (by rw [← e]; exact e2)
    · rw [e] at e2
      cases e2
      have := hlow x (List.mem_of_getElem? hb) _ e1
      omega
  intro x y u z hx hy hne
  rw [List.getElem?_set] at hx hy
  by_cases e : a = x
  · subst e
    rw [if_pos rfl, if_pos hal] at hx
    rw [if_neg hne] at hy
    cases hx
    exact fun k e1 e2 => hap y z hy (fun e => hne e.symm) k e2 e1
  · rw [if_neg e] at hx
    by_cases e2 : a = y
    · subst e2
      rw [if_pos rfl, if_pos hal] at hy
      cases hy
      exact hap x u hx (fun e3 => e e3.symm)
    · rw [if_neg e2] at hy
      exact h x y u z hx hy hne
theorem ApartL.push {L : List Value} (h : ApartL L) {v : Value} (hv : ∀ x ∈ L, ApK x v) : ApartL (L ++ [v]) := by
  intro a b u z ha hb hne
  by_cases h1 : a < L.length
  · rw [List.getElem?_append_left h1] at ha
    by_cases h2 : b < L.length
    · rw [List.getElem?_append_left h2] at hb
      exact h a b u z ha hb hne
    · have hb2 : b = L.length := by
        have := (List.getElem?_eq_some_iff.1 hb).1
        simp at this
        omega
      subst hb2
      simp at hb
      subst hb
      exact hv u (List.mem_of_getElem? ha)
  · have ha2 : a = L.length := by
      have := (List.getElem?_eq_some_iff.1 ha).1
      simp at this
      omega
    subst ha2
    simp at ha
    subst ha
    by_cases h2 : b < L.length
    · rw [List.getElem?_append_left h2] at hb
      exact fun k e1 e2 => hv z (List.mem_of_getElem? hb) k e2 e1
    · have := (List.getElem?_eq_some_iff.1 hb).1
      simp at this
      omega
def pslots (ps : List PN) : List Value := ps.flatMap fun p => [p.2.1, p.2.2]
theorem pslots_cons (p : PN) (ps : List PN) : pslots (p :: ps) = p.2.1 :: p.2.2 :: pslots ps := rfl
theorem pslots_snoc (ps : List PN) (p : PN) : pslots (ps ++ [p]) = pslots ps ++ [p.2.1] ++ [p.2.2] := by simp [pslots]
theorem pslots_at : ∀ (ps : List PN) (j : Nat) (p : PN), ps[j]? = some p → (pslots ps)[j * 2]? = some p.2.1 ∧ (pslots ps)[j * 2 + 1]? = some p.2.2
  | [], j, p, h => by simp at h
  | q :: ps, 0, p, h => by
    simp at h
    subst h
    exact ⟨rfl, rfl⟩
  | q :: ps, j + 1, p, h => by
    have := pslots_at ps j p (by simpa using h)
    rw [pslots_cons, show (j + 1) * 2 = j * 2 + 1 + 1 from by omega]
    simpa using this
theorem pslots_set : ∀ (ps : List PN) (j : Nat) (p : PN) (n : Nd) (a k : Value), ps[j]? = some p → pslots (ps.set j (n, a, k)) = ((pslots ps).set (j * 2) a).set (j * 2 + 1) k
  | [], j, p, n, a, k, h => by simp at h
  | q :: ps, 0, p, n, a, k, h => rfl
  | q :: ps, j + 1, p, n, a, k, h => by
    have := pslots_set ps j p n a k (by simpa using h)
    rw [List.set_cons_succ, pslots_cons, pslots_cons, this, show (j + 1) * 2 = j * 2 + 1 + 1 from by omega]
    simp
theorem set_same {α : Type} (l : List α) (i : Nat) (x : α) (h : l[i]? = some x) : l.set i x = l := by
  apply List.ext_getElem?
  intro j
  rw [List.getElem?_set]
  by_cases e : i = j
  · subst e
    rw [if_pos rfl, if_pos (List.getElem?_eq_some_iff.1 h).1, h]
  · rw [if_neg e]
theorem pslots_kids {ps : List PN} {j : Nat} {p : PN} (n : Nd) (k : Value) (h : ps[j]? = some p) : pslots (ps.set j (n, p.2.1, k)) = (pslots ps).set (j * 2 + 1) k := by
  rw [pslots_set ps j p n p.2.1 k h, set_same _ _ _ (pslots_at ps j p h).1]
theorem pslots_ats {ps : List PN} {j : Nat} {p : PN} (n : Nd) (a : Value) (h : ps[j]? = some p) : pslots (ps.set j (n, a, p.2.2)) = (pslots ps).set (j * 2) a := by
  rw [pslots_set ps j p n a p.2.2 h, set_same]
  rw [List.getElem?_set, if_neg (by omega)]
  exact (pslots_at ps j p h).2
theorem pslots_mem {ps : List PN} {p : PN} (h : p ∈ ps) : p.2.1 ∈ pslots ps ∧ p.2.2 ∈ pslots ps := by
  unfold pslots
  rw [List.mem_flatMap, List.mem_flatMap]
  exact ⟨⟨p, h, by simp⟩, ⟨p, h, by simp⟩⟩
/-! ### the map of the first html and body -/
def FAt (w : World) (mg c : Nat) (F : List UInt8 → Option Nat) : Prop :=
  ∃ n D, n ≤ c ∧ w.ownsMap Tryz.prog 9 (plainElem (H := Unit) Tryz.prog 3) mg n D ∧ ∀ t : List UInt8, Maps.has D (.string t) = (F t).isSome ∧ ∀ i, F t = some i → D.atKey (.string t) (.lit (.int .i64 0)) = .lit (.int .i64 (i : Int))
theorem FAt.keep {w w' : World} {mg c : Nat} {F : List UInt8 → Option Nat} (h : FAt w mg c F) (hb : w'.heap[mg]? = w.heap[mg]?) : FAt w' mg c F := by
  obtain ⟨n, D, hn, ⟨es, clock, h1, h2⟩, h3⟩ := h
  exact ⟨n, D, hn, ⟨es, clock, hb.trans h1, h2⟩, h3⟩
theorem FAt.lt {w : World} {mg c : Nat} {F : List UInt8 → Option Nat} (h : FAt w mg c F) : mg < w.heap.size := by
  obtain ⟨n, D, hn, ⟨es, clock, h1, h2⟩, h3⟩ := h
  exact (Array.getElem?_eq_some_iff.1 h1).1
theorem FAt.more {w : World} {mg c d : Nat} {F : List UInt8 → Option Nat} (h : FAt w mg c F) (hc : c ≤ d) : FAt w mg d F := by
  obtain ⟨n, D, hn, h2⟩ := h
  exact ⟨n, D, Nat.le_trans hn hc, h2⟩
theorem FAt.made (w : World) : FAt (w.alloc (.map #[] 0)) w.heap.size 0 (fun _ => none) :=
  ⟨0, .map [], Nat.le_refl _, World.ownsMap_made _ _ _ _, fun t => ⟨rfl, fun i h => by cases h⟩⟩
/-- How many of html and body have been met. -/
def cntF (F : List UInt8 → Option Nat) : Nat := (if (F Tre.html).isSome then 1 else 0) + (if (F Tre.body).isSome then 1 else 0)
/-! ### the builder -/
abbrev slotsB (nv ov : Value) (ps : List PN) : List Value := nv :: ov :: pslots ps
structure BAt (w : World) (T : Nat → Prop) (bb mg : Nat) (nv ov : Value) (ps : List PN) (op : List Nat) (F : List UInt8 → Option Nat) : Prop where
  blk : w.heap[bb]? = some (.cells #[nv, ov, .map (some mg)] 54 (0, 0))
  row : w.ownsRow 0 43 6 nv ps.length (nCells ps)
  opn : OwnsI w 0 ov (op.map fun x : Nat => (x : Int))
  mp : FAt w mg (cntF F) F
  ats : ∀ (i : Nat) p, ps[i]? = some p → OwnsA w 0 p.2.1 p.1.attrs
  kds : ∀ (i : Nat) p, ps[i]? = some p → OwnsI w 0 p.2.2 p.1.kids
  apart : ApartL (slotsB nv ov ps)
  off : ∀ v ∈ slotsB nv ov ps, ∀ k, v.ownBlock = some k → T k ∧ k ≠ bb ∧ k ≠ mg
  tb : T bb
  tm : T mg
  bm : bb ≠ mg
  low : ∀ k, T k → k < w.heap.size
section
variable {w w' : World} {T : Nat → Prop} {bb mg : Nat} {nv ov : Value} {ps : List PN} {op : List Nat} {F : List UInt8 → Option Nat}
theorem BAt.slot_low (h : BAt w T bb mg nv ov ps op F) : ∀ v ∈ slotsB nv ov ps, ∀ k, v.ownBlock = some k → k < w.heap.size := fun v hv k hk => h.low k (h.off v hv k hk).1
theorem BAt.keep (h : BAt w T bb mg nv ov ps op F) (hs : w.heap.size ≤ w'.heap.size) (hk : ∀ k, k < w.heap.size → T k → w'.heap[k]? = w.heap[k]?) : BAt w' T bb mg nv ov ps op F := by
  have hb : ∀ v ∈ slotsB nv ov ps, ∀ k, v.ownBlock = some k → k < w.heap.size → w'.heap[k]? = w.heap[k]? := fun v hv k e hl => hk k hl (h.off v hv k e).1
  exact ⟨(hk bb (h.low _ h.tb) h.tb).trans h.blk, row_keepK h.row (hb nv (by simp)), row_keepK h.opn (hb ov (by simp)), h.mp.keep (hk mg (h.low _ h.tm) h.tm),
    fun i p hp => row_keepK (h.ats i p hp) (hb _ (by simp [(pslots_mem (List.mem_of_getElem? hp)).1])), fun i p hp => row_keepK (h.kds i p hp) (hb _ (by simp [(pslots_mem (List.mem_of_getElem? hp)).2])),
    h.apart, h.off, h.tb, h.tm, h.bm, fun k hT => Nat.lt_of_lt_of_le (h.low k hT) hs⟩
theorem BAt.below (h : BAt w T bb mg nv ov ps op F) (hb : Below w.heap.size w w') : BAt w' T bb mg nv ov ps op F := h.keep hb.size (fun k hk _ => hb.block k hk)
/-- A greater territory. -/
theorem BAt.wide {T' : Nat → Prop} (h : BAt w T bb mg nv ov ps op F) (hT : ∀ k, T k → T' k) (hl : ∀ k, T' k → k < w.heap.size) : BAt w T' bb mg nv ov ps op F :=
  ⟨h.blk, h.row, h.opn, h.mp, h.ats, h.kds, h.apart, fun v hv k e => ⟨hT k (h.off v hv k e).1, (h.off v hv k e).2⟩, hT _ h.tb, hT _ h.tm, h.bm, hl⟩
theorem BAt.nform (h : BAt w T bb mg nv ov ps op F) (hp : 1 ≤ ps.length) : ∃ g c, nv = .slice (some ⟨g, 0, none⟩) ps.length c ∧ ps.length ≤ c := by
  rcases h.row.2 with ⟨rfl, hz⟩ | ⟨g, cap, cur, rfl, _, _, hc, _⟩
  · omega
  · exact ⟨g, cap, rfl, hc⟩
theorem BAt.cell {g m c : Nat} (h : BAt w T bb mg (.slice (some ⟨g, 0, none⟩) m c) ov ps op F) {j : Nat} {p : PN} (hp : ps[j]? = some p) {i : Nat} {v : Value} (hv : [.int .i64 p.1.kind, .string (str p.1.name), p.2.1, .string (str p.1.text), .int .i64 p.1.up, p.2.2][i]? = some v) : w.cell? ⟨g, j * 6 + i, none⟩ = some v ∧ w.frozen? ⟨g, j * 6 + i, none⟩ = false := by
  have hjl : j < ps.length := (List.getElem?_eq_some_iff.1 hp).1
  have hi : i < 6 := by
    have := (List.getElem?_eq_some_iff.1 hv).1
    simpa using this
  have hm : m = ps.length := by
    rcases h.row.2 with ⟨hs, hz⟩ | ⟨g2, cap, cur, hs, _⟩
    · simp at hs
    · simp only [Value.slice.injEq] at hs
      exact hs.2.1
  have hr : w.ownsRow 0 43 6 (.slice (some ⟨g, 0, none⟩) ps.length c) ps.length (nCells ps) := by have := h.row; rw [hm] at this; exact this
  have e := World.ownsRow.cellAt (w := w) (base := 0) (e := 43) (size := 6) (g := g) (cap := c) (n := ps.length) (xs := nCells ps) hr (j * 6 + i) (by omega)
  exact ⟨e.trans (nCells_at ps j p hp i v hv), World.ownsRow.frozenAt (w := w) hr (j * 6 + i)⟩
end
end Go.Proofs.YtiodaahncadodaaGreatDoor
/- What a builder's steps leave of it. -/
namespace Go.Proofs.YtiodaahncadodaaGreatDoor
open Go.RowKit Go.Maps Go.WideMaps
section
variable {w w1 : World} {T : Nat → Prop} {bb mg g m c : Nat} {nv ov : Value} {ps : List PN} {op : List Nat} {F : List UInt8 → Option Nat}
theorem BAt.turned (h : BAt w T bb mg nv ov ps op F) {a : Nat} {v : Value} (ha : (slotsB nv ov ps)[a]? = some v) (hg : w.grownBy w1 v.ownBlock) (b : Nat) (x : Value) (hb : (slotsB nv ov ps)[b]? = some x) (hne : b ≠ a) : ∀ k, x.ownBlock = some k → k < w.heap.size → w1.heap[k]? = w.heap[k]? :=
  fun k e hl => hg.block k hl (fun e2 => h.apart b a x v hb ha hne k e e2.symm)
theorem BAt.kept_bb (h : BAt w T bb mg nv ov ps op F) {v : Value} (ha : v ∈ slotsB nv ov ps) (hg : w.grownBy w1 v.ownBlock) : w1.heap[bb]? = w.heap[bb]? ∧ w1.heap[mg]? = w.heap[mg]? :=
  ⟨hg.block bb (h.low _ h.tb) (fun e => (h.off v ha bb e.symm).2.1 rfl), hg.block mg (h.low _ h.tm) (fun e => (h.off v ha mg e.symm).2.2 rfl)⟩
theorem slot_ats (nv ov : Value) {ps : List PN} {j : Nat} {p : PN} (h : ps[j]? = some p) : (slotsB nv ov ps)[j * 2 + 2]? = some p.2.1 := by
  have := (pslots_at ps j p h).1
  simpa using this
theorem slot_kids (nv ov : Value) {ps : List PN} {j : Nat} {p : PN} (h : ps[j]? = some p) : (slotsB nv ov ps)[j * 2 + 1 + 2]? = some p.2.2 := by
  have := (pslots_at ps j p h).2
  simpa using this
theorem BAt.size (h : BAt w T bb mg (.slice (some ⟨g, 0, none⟩) m c) ov ps op F) : m = ps.length := by
  rcases h.row.2 with ⟨hs, hz⟩ | ⟨g2, cap, cur, hs, _⟩
  · simp at hs
  · simp only [Value.slice.injEq] at hs
    exact hs.2.1
theorem set_off {L : List Value} {Q : Value → Prop} (h : ∀ v ∈ L, Q v) (a : Nat) (v : Value) (hv : Q v) : ∀ x ∈ L.set a v, Q x := fun x hx => by
  rcases List.mem_or_eq_of_mem_set hx with h1 | rfl
  · exact h x h1
  · exact hv
theorem hset13 (w : World) (g i : Nat) (v : Value) {k : Nat} (hk : k ≠ g) : (w.setCell ⟨g, i, none⟩ v).heap[k]? = w.heap[k]? := Below.heap_setCell _ _ _ _ hk
theorem gB (h : BAt w T bb mg (.slice (some ⟨g, 0, none⟩) m c) ov ps op F) : T g ∧ g ≠ bb ∧ g ≠ mg := h.off _ (List.mem_cons_self ..) g rfl
/-- The slots of a node have turned. -/
theorem slots_kids (nv ov : Value) {ps : List PN} {j : Nat} {p : PN} (n : Nd) (k : Value) (h : ps[j]? = some p) : slotsB nv ov (ps.set j (n, p.2.1, k)) = (slotsB nv ov ps).set (j * 2 + 1 + 2) k := by
  unfold slotsB
  rw [pslots_kids n k h]
  rfl
theorem slots_ats (nv ov : Value) {ps : List PN} {j : Nat} {p : PN} (n : Nd) (a : Value) (h : ps[j]? = some p) : slotsB nv ov (ps.set j (n, a, p.2.2)) = (slotsB nv ov ps).set (j * 2 + 2) a := by
  unfold slotsB
  rw [pslots_ats n a h]
  rfl
theorem get_set13 {ps : List PN} {j i : Nat} {p q : PN} (h : (ps.set j q)[i]? = some p) : (i = j ∧ p = q) ∨ (i ≠ j ∧ ps[i]? = some p) := by
  rw [List.getElem?_set] at h
  by_cases e : j = i
  · subst e
    rw [if_pos rfl] at h
    split at h
    · cases h
      exact .inl ⟨rfl, rfl⟩
    · cases h
  · rw [if_neg e] at h
    exact .inr ⟨fun e2 => e e2.symm, h⟩
/-- A node's kids have grown. -/
theorem BAt.kids (h : BAt w T bb mg (.slice (some ⟨g, 0, none⟩) m c) ov ps op F) {i : Nat} {n : Nd} {va vk vk' : Value} {x : Int} (hp : ps[i]? = some (n, va, vk)) (hk : OwnsI w1 0 vk' (n.kids ++ [x])) (hg : w.grownBy w1 vk.ownBlock) (hat : vk'.ownBlock = vk.ownBlock ∨ vk'.ownBlock = some w.heap.size) :
    BAt (w1.setCell ⟨g, i * 6 + 5, none⟩ vk') (MoreT T w w1) bb mg (.slice (some ⟨g, 0, none⟩) m c) ov (ps.set i ({ n with kids := n.kids ++ [x] }, va, vk')) op F ∧ OwnT T w (w1.setCell ⟨g, i * 6 + 5, none⟩ vk') := by
  have hm := h.size
  subst hm
  have hil : i < ps.length := (List.getElem?_eq_some_iff.1 hp).1
  have hs := slot_kids (.slice (some ⟨g, 0, none⟩) ps.length c) ov hp
  have hmem := List.mem_of_getElem? hs
  have hT := h.turned hs hg
  have hbb := h.kept_bb hmem hg
  obtain ⟨gT, gb, gm⟩ := gB h
  have hrow1 : w1.ownsRow 0 43 6 (.slice (some ⟨g, 0, none⟩) ps.length c) ps.length (nCells ps) := row_keepK h.row (hT 0 _ rfl (by omega))
  have hst := (World.ownsRow.stored (w := w1) hrow1 (i * 6 + 5) vk').1
  rw [nCells_set ps i (n, va, vk) ({ n with kids := n.kids ++ [x] }, va, vk') 5 vk' hp (by omega) rfl] at hst
  have hnew : ∀ k, vk'.ownBlock = some k → MoreT T w w1 k ∧ k ≠ bb ∧ k ≠ mg := fun k e => by
    rcases hat with h1 | h1
    · rw [h1] at e
      have := h.off _ hmem k e
      exact ⟨.inl this.1, this.2⟩
    · rw [h1] at e
      cases e
      have h1b := h.low _ h.tb
      have h1m := h.low _ h.tm
      have := (World.ownsRow.lt hk _ h1).2
      exact ⟨.inr ⟨Nat.le_refl _, this⟩, by omega, by omega⟩
  have hgk : vk'.ownBlock ≠ some g := fun e => by
    rcases hat with h1 | h1
    · exact h.apart 0 _ _ _ rfl hs (by omega) g rfl (by rw [← h1]; exact e)
    · rw [h1] at e
      cases e
      have := h.low _ gT
      omega
  have hsz : (w1.setCell ⟨g, i * 6 + 5, none⟩ vk').heap.size = w1.heap.size := setCell_size13 _ _ _
  refine ⟨⟨(hset13 w1 g _ vk' (fun e => gb e.symm)).trans (hbb.1.trans h.blk), by rw [List.length_set]; exact hst, ?_, ?_, ?_, ?_, ?_, ?_, .inl h.tb, .inl h.tm, h.bm, ?_⟩, ?_⟩
  · exact row_keepK (row_keepK h.opn (hT 1 _ rfl (by omega))) (fun k e _ => hset13 w1 g _ vk' (fun e2 => h.apart 0 1 _ _ rfl rfl (by omega) g rfl (by rw [← e2]; exact e)))
  · exact (h.mp.keep hbb.2).keep (hset13 w1 g _ vk' (fun e => gm e.symm))
  · intro j p hj
    rcases get_set13 hj with ⟨rfl, rfl⟩ | ⟨hne, hj⟩
    · exact row_keepK (row_keepK (h.ats j (n, va, vk) hp) (hT _ _ (slot_ats (p := (n, va, vk)) _ _ hp) (by omega))) (fun k e _ => hset13 w1 g _ vk' (fun e2 => h.apart 0 _ _ _ rfl (slot_ats (p := (n, va, vk)) _ _ hp) (by omega) g rfl (by rw [← e2]; exact e)))
    · exact row_keepK (row_keepK (h.ats j p hj) (hT _ _ (slot_ats _ _ hj) (by omega))) (fun k e _ => hset13 w1 g _ vk' (fun e2 => h.apart 0 _ _ _ rfl (slot_ats _ _ hj) (by omega) g rfl (by rw [← e2]; exact e)))
  · intro j p hj
    rcases get_set13 hj with ⟨rfl, rfl⟩ | ⟨hne, hj⟩
    · exact row_keepK hk (fun k e _ => hset13 w1 g _ vk' (fun e2 => hgk (by rw [← e2]; exact e)))
    · exact row_keepK (row_keepK (h.kds j p hj) (hT _ _ (slot_kids _ _ hj) (by omega))) (fun k e _ => hset13 w1 g _ vk' (fun e2 => h.apart 0 _ _ _ rfl (slot_kids _ _ hj) (by omega) g rfl (by rw [← e2]; exact e)))
  · rw [slots_kids _ _ _ _ hp]
    exact h.apart.set w.heap.size h.slot_low hs hat
  · rw [slots_kids _ _ _ _ hp]
    exact set_off (fun v hv k e => ⟨.inl (h.off v hv k e).1, (h.off v hv k e).2⟩) _ _ hnew
  · intro k hk
    rw [hsz]
    rcases hk with h1 | h1
    · exact Nat.lt_of_lt_of_le (h.low k h1) hg.size
    · exact h1.2
  · exact (OwnT.grown hg (fun k e => (h.off _ hmem k e).1)).trans (OwnT.setCell w1 _ vk' (T := T) gT) (fun k hk => .inl hk)
/-- A node's attributes have grown. -/
theorem BAt.attrs (h : BAt w T bb mg (.slice (some ⟨g, 0, none⟩) m c) ov ps op F) {i : Nat} {n : Nd} {va vk va' : Value} {x : Pr} (hp : ps[i]? = some (n, va, vk)) (hk : OwnsA w1 0 va' (n.attrs ++ [x])) (hg : w.grownBy w1 va.ownBlock) (hat : va'.ownBlock = va.ownBlock ∨ va'.ownBlock = some w.heap.size) :
    BAt (w1.setCell ⟨g, i * 6 + 2, none⟩ va') (MoreT T w w1) bb mg (.slice (some ⟨g, 0, none⟩) m c) ov (ps.set i ({ n with attrs := n.attrs ++ [x] }, va', vk)) op F ∧ OwnT T w (w1.setCell ⟨g, i * 6 + 2, none⟩ va') := by
  have hm := h.size
  subst hm
  have hil : i < ps.length := (List.getElem?_eq_some_iff.1 hp).1
  have hs := slot_ats (.slice (some ⟨g, 0, none⟩) ps.length c) ov hp
  have hmem := List.mem_of_getElem? hs
  have hT := h.turned hs hg
  have hbb := h.kept_bb hmem hg
  obtain ⟨gT, gb, gm⟩ := gB h
  have hrow1 : w1.ownsRow 0 43 6 (.slice (some ⟨g, 0, none⟩) ps.length c) ps.length (nCells ps) := row_keepK h.row (hT 0 _ rfl (by omega))
  have hst := (World.ownsRow.stored (w := w1) hrow1 (i * 6 + 2) va').1
  rw [nCells_set ps i (n, va, vk) ({ n with attrs := n.attrs ++ [x] }, va', vk) 2 va' hp (by omega) rfl] at hst
  have hnew : ∀ k, va'.ownBlock = some k → MoreT T w w1 k ∧ k ≠ bb ∧ k ≠ mg := fun k e => by
    rcases hat with h1 | h1
    · rw [h1] at e
      have := h.off _ hmem k e
      exact ⟨.inl this.1, this.2⟩
    · rw [h1] at e
      cases e
      have h1b := h.low _ h.tb
      have h1m := h.low _ h.tm
      have := (World.ownsRow.lt hk _ h1).2
      exact ⟨.inr ⟨Nat.le_refl _, this⟩, by omega, by omega⟩
  have hgk : va'.ownBlock ≠ some g := fun e => by
    rcases hat with h1 | h1
    · exact h.apart 0 _ _ _ rfl hs (by omega) g rfl (by rw [← h1]; exact e)
    · rw [h1] at e
      cases e
      have := h.low _ gT
      omega
  have hsz : (w1.setCell ⟨g, i * 6 + 2, none⟩ va').heap.size = w1.heap.size := setCell_size13 _ _ _
  refine ⟨⟨(hset13 w1 g _ va' (fun e => gb e.symm)).trans (hbb.1.trans h.blk), by rw [List.length_set]; exact hst, ?_, ?_, ?_, ?_, ?_, ?_, .inl h.tb, .inl h.tm, h.bm, ?_⟩, ?_⟩
  · exact row_keepK (row_keepK h.opn (hT 1 _ rfl (by omega))) (fun k e _ => hset13 w1 g _ va' (fun e2 => h.apart 0 1 _ _ rfl rfl (by omega) g rfl (by rw [← e2]; exact e)))
  · exact (h.mp.keep hbb.2).keep (hset13 w1 g _ va' (fun e => gm e.symm))
  · intro j p hj
    rcases get_set13 hj with ⟨rfl, rfl⟩ | ⟨hne, hj⟩
    · exact row_keepK hk (fun k e _ => hset13 w1 g _ va' (fun e2 => hgk (by rw [← e2]; exact e)))
    · exact row_keepK (row_keepK (h.ats j p hj) (hT _ _ (slot_ats _ _ hj) (by omega))) (fun k e _ => hset13 w1 g _ va' (fun e2 => h.apart 0 _ _ _ rfl (slot_ats _ _ hj) (by omega) g rfl (by rw [← e2]; exact e)))
  · intro j p hj
    rcases get_set13 hj with ⟨rfl, rfl⟩ | ⟨hne, hj⟩
    · exact row_keepK (row_keepK (h.kds j (n, va, vk) hp) (hT _ _ (slot_kids (p := (n, va, vk)) _ _ hp) (by omega))) (fun k e _ => hset13 w1 g _ va' (fun e2 => h.apart 0 _ _ _ rfl (slot_kids (p := (n, va, vk)) _ _ hp) (by omega) g rfl (by rw [← e2]; exact e)))
    · exact row_keepK (row_keepK (h.kds j p hj) (hT _ _ (slot_kids _ _ hj) (by omega))) (fun k e _ => hset13 w1 g _ va' (fun e2 => h.apart 0 _ _ _ rfl (slot_kids _ _ hj) (by omega) g rfl (by rw [← e2]; exact e)))
  · rw [slots_ats _ _ _ _ hp]
    exact h.apart.set w.heap.size h.slot_low hs hat
  · rw [slots_ats _ _ _ _ hp]
    exact set_off (fun v hv k e => ⟨.inl (h.off v hv k e).1, (h.off v hv k e).2⟩) _ _ hnew
  · intro k hk
    rw [hsz]
    rcases hk with h1 | h1
    · exact Nat.lt_of_lt_of_le (h.low k h1) hg.size
    · exact h1.2
  · exact (OwnT.grown hg (fun k e => (h.off _ hmem k e).1)).trans (OwnT.setCell w1 _ va' (T := T) gT) (fun k hk => .inl hk)
/-- A node's text is another one. -/
theorem BAt.text (h : BAt w T bb mg (.slice (some ⟨g, 0, none⟩) m c) ov ps op F) {i : Nat} {n : Nd} {va vk : Value} (x : List UInt8) (hp : ps[i]? = some (n, va, vk)) :
    BAt (w.setCell ⟨g, i * 6 + 3, none⟩ (.string (str x))) T bb mg (.slice (some ⟨g, 0, none⟩) m c) ov (ps.set i ({ n with text := x }, va, vk)) op F ∧ OwnT T w (w.setCell ⟨g, i * 6 + 3, none⟩ (.string (str x))) := by
  have hm := h.size
  subst hm
  obtain ⟨gT, gb, gm⟩ := gB h
  have hst := (World.ownsRow.stored (w := w) h.row (i * 6 + 3) (.string (str x))).1
  rw [nCells_set ps i (n, va, vk) ({ n with text := x }, va, vk) 3 (.string (str x)) hp (by omega) rfl] at hst
  have hsl : slotsB (.slice (some ⟨g, 0, none⟩) ps.length c) ov (ps.set i ({ n with text := x }, va, vk)) = slotsB (.slice (some ⟨g, 0, none⟩) ps.length c) ov ps := by
    rw [slots_kids _ _ ({ n with text := x }) vk hp, set_same _ _ _ (slot_kids (p := (n, va, vk)) _ _ hp)]
  have hother : ∀ (a : Nat) v, (slotsB (.slice (some ⟨g, 0, none⟩) ps.length c) ov ps)[a]? = some v → a ≠ 0 → ∀ k, v.ownBlock = some k → k < w.heap.size → (w.setCell ⟨g, i * 6 + 3, none⟩ (.string (str x))).heap[k]? = w.heap[k]? := fun a v hv hne k e _ => hset13 w g _ _ (fun e2 => h.apart 0 a _ v rfl hv (fun e => hne e.symm) g rfl (by rw [← e2]; exact e))
  refine ⟨⟨(hset13 w g _ _ (fun e => gb e.symm)).trans h.blk, by rw [List.length_set]; exact hst, row_keepK h.opn (hother 1 _ rfl (by omega)), h.mp.keep (hset13 w g _ _ (fun e => gm e.symm)), ?_, ?_, by rw [hsl]; exact h.apart, by rw [hsl]; exact h.off, h.tb, h.tm, h.bm, fun k hk => by rw [setCell_size13]; exact h.low k hk⟩, OwnT.setCell w _ _ gT⟩
  · intro j p hj
    rcases get_set13 hj with ⟨rfl, rfl⟩ | ⟨hne, hj⟩
    · exact row_keepK (h.ats j (n, va, vk) hp) (hother _ _ (slot_ats (p := (n, va, vk)) _ _ hp) (by omega))
    · exact row_keepK (h.ats j p hj) (hother _ _ (slot_ats _ _ hj) (by omega))
  · intro j p hj
    rcases get_set13 hj with ⟨rfl, rfl⟩ | ⟨hne, hj⟩
    · exact row_keepK (h.kds j (n, va, vk) hp) (hother _ _ (slot_kids (p := (n, va, vk)) _ _ hp) (by omega))
    · exact row_keepK (h.kds j p hj) (hother _ _ (slot_kids _ _ hj) (by omega))
/-- The builder's own block at 0 or 1 is written. -/
theorem heap_set13 {w : World} {b i : Nat} {X : Array Value} {t : TypeId} (h : w.heap[b]? = some (.cells X t (0, 0))) (v : Value) : (w.setCell ⟨b, i, none⟩ v).heap[b]? = some (.cells (X.setIfInBounds i v) t (0, 0)) := heap_setCell_same w b i X t v h
/-- A further node. -/
theorem BAt.node (h : BAt w T bb mg nv ov ps op F) {n : Nd} {va nv' : Value} (hrow : w1.ownsRow 0 43 6 nv' (ps.length + 1) (nCells ps ++ [.int .i64 n.kind, .string (str n.name), va, .string (str n.text), .int .i64 n.up, .slice none 0 0])) (hn : n.kids = []) (hg : w.grownBy w1 nv.ownBlock) (hat : nv'.ownBlock = nv.ownBlock ∨ nv'.ownBlock = some w.heap.size)
    (hva : OwnsA w 0 va n.attrs) (hvo : ∀ k, va.ownBlock = some k → T k ∧ k ≠ bb ∧ k ≠ mg) (hvap : ∀ x ∈ slotsB nv ov ps, ApK x va) :
    BAt (w1.setCell ⟨bb, 0, none⟩ nv') (MoreT T w w1) bb mg nv' ov (ps ++ [(n, va, .slice none 0 0)]) op F ∧ OwnT T w (w1.setCell ⟨bb, 0, none⟩ nv') := by
  have hmem : nv ∈ slotsB nv ov ps := List.mem_cons_self ..
  have hT := h.turned (a := 0) rfl hg
  have hbb := h.kept_bb hmem hg
  have hnew : ∀ k, nv'.ownBlock = some k → MoreT T w w1 k ∧ k ≠ bb ∧ k ≠ mg := fun k e => by
    rcases hat with h1 | h1
    · rw [h1] at e
      have := h.off _ hmem k e
      exact ⟨.inl this.1, this.2⟩
    · rw [h1] at e
      cases e
      have h1b := h.low _ h.tb
      have h1m := h.low _ h.tm
      have := (World.ownsRow.lt hrow _ h1).2
      exact ⟨.inr ⟨Nat.le_refl _, this⟩, by omega, by omega⟩
  have hsz : (w1.setCell ⟨bb, 0, none⟩ nv').heap.size = w1.heap.size := setCell_size13 _ _ _
  have hva1 : OwnsA w1 0 va n.attrs := row_keepK hva (fun k e hl => hg.block k hl (fun e2 => hvap nv hmem k e2.symm e))
  have hapn : ∀ x, x ∈ slotsB nv' ov ps → ApK x va := fun x hx k e1 e2 => by
    rcases List.mem_cons.1 hx with rfl | hx
    · rcases hat with e | e
      · exact hvap nv hmem k (by rw [← e]; exact e1) e2
      · rw [e] at e1
        cases e1
        have := h.low _ (hvo _ e2).1
        omega
    · exact hvap x (List.mem_cons_of_mem _ hx) k e1 e2
  have hap0 : ApartL (slotsB nv' ov ps) := by
    have := h.apart.set w.heap.size h.slot_low (a := 0) rfl hat
    exact this
  have hoff0 : ∀ x ∈ slotsB nv' ov ps, ∀ k, x.ownBlock = some k → MoreT T w w1 k ∧ k ≠ bb ∧ k ≠ mg := fun x hx k e => by
    rcases List.mem_cons.1 hx with rfl | hx
    · exact hnew k e
    · exact ⟨.inl (h.off x (List.mem_cons_of_mem _ hx) k e).1, (h.off x (List.mem_cons_of_mem _ hx) k e).2⟩
  have hsl : slotsB nv' ov (ps ++ [(n, va, .slice none 0 0)]) = slotsB nv' ov ps ++ [va] ++ [.slice none 0 0] := by
    unfold slotsB
    rw [pslots_snoc]
    rfl
  have hother : ∀ (v : Value), (∀ k, v.ownBlock = some k → k ≠ bb) → ∀ k, v.ownBlock = some k → k < w1.heap.size → (w1.setCell ⟨bb, 0, none⟩ nv').heap[k]? = w1.heap[k]? := fun v hv k e _ => hset13 w1 bb _ _ (hv k e)
  refine ⟨⟨heap_set13 (hbb.1.trans h.blk) nv', ?_, ?_, ?_, ?_, ?_, ?_, ?_, .inl h.tb, .inl h.tm, h.bm, ?_⟩, ?_⟩
  · rw [List.length_append, nCells_snoc]
    exact row_keepK hrow (hother nv' (fun k e => (hnew k e).2.1))
  · exact row_keepK (row_keepK h.opn (hT 1 _ rfl (by omega))) (hother ov (fun k e => (h.off ov (by simp) k e).2.1))
  · exact (h.mp.keep hbb.2).keep (hset13 w1 bb _ nv' (fun e => h.bm e.symm))
  · intro j p hj
    by_cases hjl : j < ps.length
    · rw [List.getElem?_append_left hjl] at hj
      exact row_keepK (row_keepK (h.ats j p hj) (hT _ _ (slot_ats _ _ hj) (by omega))) (hother _ (fun k e => (h.off _ (List.mem_of_getElem? (slot_ats nv ov hj)) k e).2.1))
    · have hje : j = ps.length := by
        have := (List.getElem?_eq_some_iff.1 hj).1
        simp at this
        omega
      subst hje
      simp at hj
      subst hj
      exact row_keepK hva1 (hother va (fun k e => (hvo k e).2.1))
  · intro j p hj
    by_cases hjl : j < ps.length
    · rw [List.getElem?_append_left hjl] at hj
      exact row_keepK (row_keepK (h.kds j p hj) (hT _ _ (slot_kids _ _ hj) (by omega))) (hother _ (fun k e => (h.off _ (List.mem_of_getElem? (slot_kids nv ov hj)) k e).2.1))
    · have hje : j = ps.length := by
        have := (List.getElem?_eq_some_iff.1 hj).1
        simp at this
        omega
      subst hje
      simp at hj
      subst hj
      show OwnsI _ 0 (.slice none 0 0) n.kids
      rw [hn]
      exact OwnsI.nil _ _
  · rw [hsl]
    refine (hap0.push hapn).push ?_
    intro x hx k e1 e2
    cases e2
  · rw [hsl]
    intro x hx k e
    rcases List.mem_append.1 hx with hx | hx
    · rcases List.mem_append.1 hx with hx | hx
      · exact hoff0 x hx k e
      · rw [List.mem_singleton] at hx
        subst hx
        exact ⟨.inl (hvo k e).1, (hvo k e).2⟩
    · rw [List.mem_singleton] at hx
      subst hx
      cases e
  · intro k hk
    rw [hsz]
    rcases hk with h1 | h1
    · exact Nat.lt_of_lt_of_le (h.low k h1) hg.size
    · exact h1.2
  · exact (OwnT.grown hg (fun k e => (h.off _ hmem k e).1)).trans (OwnT.setCell w1 _ nv' (T := T) h.tb) (fun k hk => .inl hk)
/-- The open ones have turned. -/
theorem BAt.open' (h : BAt w T bb mg nv ov ps op F) {ov' : Value} {op' : List Nat} (hrow : OwnsI w1 0 ov' (op'.map fun x : Nat => (x : Int))) (hg : w.grownBy w1 ov.ownBlock) (hat : ov'.ownBlock = ov.ownBlock ∨ ov'.ownBlock = some w.heap.size) :
    BAt (w1.setCell ⟨bb, 1, none⟩ ov') (MoreT T w w1) bb mg nv ov' ps op' F ∧ OwnT T w (w1.setCell ⟨bb, 1, none⟩ ov') := by
  have hmem : ov ∈ slotsB nv ov ps := by simp
  have hT := h.turned (a := 1) rfl hg
  have hbb := h.kept_bb hmem hg
  have hnew : ∀ k, ov'.ownBlock = some k → MoreT T w w1 k ∧ k ≠ bb ∧ k ≠ mg := fun k e => by
    rcases hat with h1 | h1
    · rw [h1] at e
      have := h.off _ hmem k e
      exact ⟨.inl this.1, this.2⟩
    · rw [h1] at e
      cases e
      have h1b := h.low _ h.tb
      have h1m := h.low _ h.tm
      have := (World.ownsRow.lt hrow _ h1).2
      exact ⟨.inr ⟨Nat.le_refl _, this⟩, by omega, by omega⟩
  have hsz : (w1.setCell ⟨bb, 1, none⟩ ov').heap.size = w1.heap.size := setCell_size13 _ _ _
  have hsl : slotsB nv ov' ps = (slotsB nv ov ps).set 1 ov' := rfl
  have hother : ∀ (v : Value), (∀ k, v.ownBlock = some k → k ≠ bb) → ∀ k, v.ownBlock = some k → k < w1.heap.size → (w1.setCell ⟨bb, 1, none⟩ ov').heap[k]? = w1.heap[k]? := fun v hv k e _ => hset13 w1 bb _ _ (hv k e)
  refine ⟨⟨heap_set13 (hbb.1.trans h.blk) ov', row_keepK (row_keepK h.row (hT 0 _ rfl (by omega))) (hother nv (fun k e => (h.off nv (by simp) k e).2.1)), row_keepK hrow (hother ov' (fun k e => (hnew k e).2.1)), (h.mp.keep hbb.2).keep (hset13 w1 bb _ ov' (fun e => h.bm e.symm)), ?_, ?_, ?_, ?_, .inl h.tb, .inl h.tm, h.bm, ?_⟩, ?_⟩
  · intro j p hj
    exact row_keepK (row_keepK (h.ats j p hj) (hT _ _ (slot_ats _ _ hj) (by omega))) (hother _ (fun k e => (h.off _ (List.mem_of_getElem? (slot_ats nv ov hj)) k e).2.1))
  · intro j p hj
    exact row_keepK (row_keepK (h.kds j p hj) (hT _ _ (slot_kids _ _ hj) (by omega))) (hother _ (fun k e => (h.off _ (List.mem_of_getElem? (slot_kids nv ov hj)) k e).2.1))
  · rw [hsl]
    exact h.apart.set w.heap.size h.slot_low rfl hat
  · rw [hsl]
    exact set_off (fun v hv k e => ⟨.inl (h.off v hv k e).1, (h.off v hv k e).2⟩) _ _ hnew
  · intro k hk
    rw [hsz]
    rcases hk with h1 | h1
    · exact Nat.lt_of_lt_of_le (h.low k h1) hg.size
    · exact h1.2
  · exact (OwnT.grown hg (fun k e => (h.off _ hmem k e).1)).trans (OwnT.setCell w1 _ ov' (T := T) h.tb) (fun k hk => .inl hk)
/-- The map has turned. -/
theorem BAt.map' (h : BAt w T bb mg nv ov ps op F) {F' : List UInt8 → Option Nat} (hm : FAt w1 mg (cntF F') F') (hg : w.grownBy w1 (some mg)) : BAt w1 T bb mg nv ov ps op F' ∧ OwnT T w w1 := by
  have hk : ∀ v ∈ slotsB nv ov ps, ∀ k, v.ownBlock = some k → k < w.heap.size → w1.heap[k]? = w.heap[k]? := fun v hv k e hl => hg.block k hl (fun e2 => (h.off v hv k e).2.2 (Option.some.inj e2))
  exact ⟨⟨(hg.block bb (h.low _ h.tb) (fun e => h.bm (Option.some.inj e))).trans h.blk, row_keepK h.row (hk nv (by simp)), row_keepK h.opn (hk ov (by simp)), hm,
    fun j p hj => row_keepK (h.ats j p hj) (hk _ (List.mem_of_getElem? (slot_ats nv ov hj))), fun j p hj => row_keepK (h.kds j p hj) (hk _ (List.mem_of_getElem? (slot_kids nv ov hj))), h.apart, h.off, h.tb, h.tm, h.bm, fun k hT => Nat.lt_of_lt_of_le (h.low k hT) hg.size⟩,
    OwnT.grown hg (fun k e => by cases e; exact h.tm)⟩
end
end Go.Proofs.YtiodaahncadodaaGreatDoor
/- The contracts of a builder's last and lay. -/
namespace Go.Proofs.YtiodaahncadodaaGreatDoor
open Go.RowKit Go.Maps Go.WideMaps
theorem step_append_I {w : World} {ops : Array Oper} {o : Oper} {a : Act} {K : Act → World → Prop} {Q : Exit → Act → World → Prop} {E : Prop} (hgd : o.guard = none) (s x : Operand)
    (ho : o.op = .call { callee := .builtin .append, args := #[s, x], argTypes := #[41, 41] }) (B : Nat) (v : Value) (ks : List Int) (hs : a.eval s = v) (hown : OwnsI w B v ks) (g c : Nat) (hx : a.eval x = .slice (some ⟨g, 0, none⟩) 1 c) (y : Int) (hg : w.cell? ⟨g, 0, none⟩ = some (.int .i64 y)) (hlen : ks.length ≤ 10000000) (hB : B ≤ w.heap.size)
    (h : ∀ v' w', OwnsI w' B v' (ks ++ [y]) → w.grownBy w' v.ownBlock → (v'.ownBlock = v.ownBlock ∨ v'.ownBlock = some w.heap.size) → K (a.put o.dst v') w') : if Region.wanted o (yielded ops a.tmps) = true then Oper.wp Tryz.prog o a w K Q else E := by
  have hw : Region.wanted o (yielded ops a.tmps) = true := by simp [Region.wanted, hgd]
  rw [if_pos hw]
  obtain ⟨v', w', hr, h2, h3, h4⟩ := run_append_I w o.type B v ks hown ⟨g, 0, none⟩ c y hg rfl hlen hB
  unfold Oper.wp execOp
  simp only [ho, resolve, invoke, builtin, Sem.run_bind, Sem.run_pure, Result.andThen_ok, List.map_toArray, List.map_cons, List.map_nil, hs, hx, hr]
  exact h v' w' h2 h3 h4
theorem infoNode13 : (Tryz.prog.info? 43).map (fun i => (i.zero, i.size, i.bytes)) = some (some (.agg #[.int .i64 0, .string ByteArray.empty, .slice none 0 0, .string ByteArray.empty, .int .i64 0, .slice none 0 0]), 6, 96) := by kernel_rfl
/-- One further node. -/
theorem run_append_Nd (w : World) (ty : TypeId) (v : Value) (ps : List PN) (h : w.ownsRow 0 43 6 v ps.length (nCells ps)) (g c : Nat) (x0 x1 x2 x3 x4 x5 : Value) (hx : w.rangeAt g 0 [x0, x1, x2, x3, x4, x5]) (h1 : ∀ u ∈ [x0, x1, x2, x3, x4, x5], u.oneCell' = true) (hlen : ps.length ≤ 1000000) :
    ∃ v' w', (Builtin.append_ #[24, 24] ty #[v, .slice (some ⟨g, 0, none⟩) 1 c]).run Tryz.prog w = .ok v' w' ∧ w'.ownsRow 0 43 6 v' (ps.length + 1) (nCells ps ++ [x0, x1, x2, x3, x4, x5]) ∧ w.grownBy w' v.ownBlock ∧ (v'.ownBlock = v.ownBlock ∨ v'.ownBlock = some w.heap.size) := by
  obtain ⟨i0, hi, hz0, hz1, hz2⟩ := info_parts infoNode13
  obtain ⟨v', w', r1, r2, r3, _, r5⟩ := run_append_own_at (P := Tryz.prog) w 0 24 ty 43 i0 (.agg #[.int .i64 0, .string ByteArray.empty, .slice none 0 0, .string ByteArray.empty, .int .i64 0, .slice none 0 0]) 6 96 Tryz.underlying24 hi hz0 hz1 hz2 rfl (by decide) v _ _ h ⟨g, 0, none⟩ 1 c [x0, x1, x2, x3, x4, x5] rfl (fun j u hj => by
    rw [add_addr]
    exact hx j u hj) h1 (by unfold maxLen; omega) (by omega) (Nat.zero_le _)
  exact ⟨v', w', r1, r2, r3, r5⟩
theorem step_append_Nd {w : World} {ops : Array Oper} {o : Oper} {a : Act} {K : Act → World → Prop} {Q : Exit → Act → World → Prop} {E : Prop} (hgd : o.guard = none) (s x : Operand)
    (ho : o.op = .call { callee := .builtin .append, args := #[s, x], argTypes := #[24, 24] }) (v : Value) (ps : List PN) (hs : a.eval s = v) (hown : w.ownsRow 0 43 6 v ps.length (nCells ps)) (g c : Nat) (hx : a.eval x = .slice (some ⟨g, 0, none⟩) 1 c) (x0 x1 x2 x3 x4 x5 : Value) (hg : w.rangeAt g 0 [x0, x1, x2, x3, x4, x5]) (h1 : ∀ u ∈ [x0, x1, x2, x3, x4, x5], u.oneCell' = true) (hlen : ps.length ≤ 1000000)
    (h : ∀ v' w', w'.ownsRow 0 43 6 v' (ps.length + 1) (nCells ps ++ [x0, x1, x2, x3, x4, x5]) → w.grownBy w' v.ownBlock → (v'.ownBlock = v.ownBlock ∨ v'.ownBlock = some w.heap.size) → K (a.put o.dst v') w') : if Region.wanted o (yielded ops a.tmps) = true then Oper.wp Tryz.prog o a w K Q else E := by
  have hw : Region.wanted o (yielded ops a.tmps) = true := by simp [Region.wanted, hgd]
  rw [if_pos hw]
  obtain ⟨v', w', hr, h2, h3, h4⟩ := run_append_Nd w o.type v ps hown g c x0 x1 x2 x3 x4 x5 hg h1 hlen
  unfold Oper.wp execOp
  simp only [ho, resolve, invoke, builtin, Sem.run_bind, Sem.run_pure, Result.andThen_ok, List.map_toArray, List.map_cons, List.map_nil, hs, hx, hr]
  exact h v' w' h2 h3 h4
section
variable {w : World} {T : Nat → Prop} {bb mg : Nat} {nv ov : Value} {ps : List PN} {op : List Nat} {F : List UInt8 → Option Nat}
theorem top_get {op : List Nat} (h : 1 ≤ op.length) : op[op.length - 1]? = some (op.getLastD 0) := by
  rw [List.getLastD_eq_getLast?, List.getLast?_eq_getElem?, List.getElem?_eq_getElem (by omega)]
  rfl
theorem BAt.oform (h : BAt w T bb mg nv ov ps op F) (hp : 1 ≤ op.length) : ∃ g c, ov = .slice (some ⟨g, 0, none⟩) op.length c ∧ op.length ≤ c ∧ ∀ (j x : Nat), op[j]? = some x → w.cell? ⟨g, j, none⟩ = some (.int .i64 (x : Int)) := by
  rcases h.opn.2 with ⟨rfl, hz⟩ | ⟨g, cap, cur, rfl, _, _, hc, _⟩
  · rw [List.length_map] at hz
    omega
  · have h9 : w.ownsRow 0 3 1 (.slice (some ⟨g, 0, none⟩) op.length cap) op.length (isL (op.map fun x : Nat => (x : Int))) := by
      have := h.opn
      simp only [OwnsI, List.length_map] at this
      exact this
    rw [List.length_map] at hc ⊢
    refine ⟨g, cap, rfl, hc, fun j x hj => ?_⟩
    have hjl := (List.getElem?_eq_some_iff.1 hj).1
    have := World.ownsRow.cellAt (w := w) (base := 0) (e := 3) (size := 1) (g := g) (cap := cap) (n := op.length) (xs := isL (op.map fun x : Nat => (x : Int))) h9 j (by omega)
    rw [this]
    unfold isL
    rw [List.getElem?_map, List.getElem?_map, hj]
    rfl
set_option maxHeartbeats 1000000 in
set_option maxRecDepth 100000 in
theorem last_any (h : BAt w T bb mg nv ov ps op F) (hp : 1 ≤ op.length) (hp2 : op.length ≤ 1000) :
    Calls Tryz.prog 97 #[.pointer (some ⟨bb, 0, none⟩)] w fun e w' => e = .returned (.int .i64 ((op.getLastD 0 : Nat) : Int)) ∧ ∃ n, w' = w.drewN n := by
  obtain ⟨g, c, rfl, hc, hcell⟩ := h.oform hp
  have c1 : w.cell? ⟨bb, 1, none⟩ = some (.slice (some ⟨g, 0, none⟩) op.length c) := Lib.cell_of_heap h.blk 1
  have ct := hcell _ _ (top_get hp)
  obtain ⟨m, hm⟩ : ∃ m, op.length = m + 1 := ⟨op.length - 1, by omega⟩
  rw [hm] at ct c1 hc
  rw [Nat.add_sub_cancel] at ct
  have hm2 : m ≤ 1000 := by omega
  clear hcell h hm hp hp2
  generalize op.getLastD 0 = t at *
  go_enter Tryz.func97, Tryz.ntmps97
  go_wp2
  go_quiet (fail)
  go_wp2
  go_ret
  exact ⟨rfl, nq, rfl⟩
end
end Go.Proofs.YtiodaahncadodaaGreatDoor
