/- Texts laid as one. -/
import Derived.Test.YtoiedadfpbbdgaaKTreGI
import Derived.Maps.Own
import Derived.Maps.OwnOps
import Derived.Maps.OwnSet
import Derived.Deep.RegionWith
import Derived.Deep.RegionLaw
/- A builder of trees in memory. -/
set_option linter.unusedVariables false
set_option linter.unusedSimpArgs false
namespace Go.Proofs.Ytoiedadfpbbdgaa
open Go.RowKit Go.Maps Go.WideMaps
/-! ### territories -/
structure OwnT (T : Nat → Prop) (w w' : World) : Prop where
  os : w'.os = w.os
  tape : w'.tape = w.tape
  output : w'.output = w.output
  size : w.heap.size ≤ w'.heap.size
  block : ∀ k, k < w.heap.size → ¬ T k → w'.heap[k]? = w.heap[k]?
theorem OwnT.refl (T : Nat → Prop) (w : World) : OwnT T w w := ⟨rfl, rfl, rfl, Nat.le_refl _, fun _ _ _ => rfl⟩
theorem OwnT.of {T : Nat → Prop} {w w' : World} (h : Below w.heap.size w w') : OwnT T w w' := ⟨h.os, h.tape, h.output, h.size, fun k hk _ => h.block k hk⟩
theorem OwnT.trans {T T' : Nat → Prop} {a b c : World} (h : OwnT T a b) (h2 : OwnT T' b c) (hT : ∀ k, T' k → T k ∨ a.heap.size ≤ k) : OwnT T a c :=
  ⟨h2.os.trans h.os, h2.tape.trans h.tape, h2.output.trans h.output, Nat.le_trans h.size h2.size, fun k hk hn => (h2.block k (Nat.lt_of_lt_of_le hk h.size) (fun ht => (hT k ht).elim hn (fun hx => by omega))).trans (h.block k hk hn)⟩
theorem OwnT.grown {T : Nat → Prop} {w w' : World} {r : Option Nat} (h : w.grownBy w' r) (hr : ∀ k, r = some k → T k) : OwnT T w w' := ⟨h.os, h.tape, h.output, h.size, fun k hk hn => h.block k hk (fun e => hn (hr k e.symm))⟩
theorem OwnT.setCell {T : Nat → Prop} (w : World) (p : Addr) (v : Value) (h : T p.block) : OwnT T w (w.setCell p v) :=
  ⟨rfl, rfl, rfl, by simp [World.setCell], fun k _ hn => Below.heap_setCell _ _ _ _ (fun e => hn (by rw [e]; exact h))⟩
theorem setCell_size13 (w : World) (a : Addr) (v : Value) : (w.setCell a v).heap.size = w.heap.size := by simp [World.setCell]
/-! ### rows of nodes -/
/-- A node, its attributes' slice, its kids' slice. -/
abbrev PN := Nd × Value × Value
def nCells (ps : List PN) : List Value := ps.flatMap fun p => [.int .i64 p.1.kind, .string (str p.1.name), p.2.1, .string (str p.1.text), .int .i64 p.1.up, p.2.2]
theorem nCells_snoc (ps : List PN) (p : PN) : nCells (ps ++ [p]) = nCells ps ++ [.int .i64 p.1.kind, .string (str p.1.name), p.2.1, .string (str p.1.text), .int .i64 p.1.up, p.2.2] := by simp [nCells]
theorem nCells_cons (p : PN) (ps : List PN) : nCells (p :: ps) = .int .i64 p.1.kind :: .string (str p.1.name) :: p.2.1 :: .string (str p.1.text) :: .int .i64 p.1.up :: p.2.2 :: nCells ps := rfl
theorem nCells_at : ∀ (ps : List PN) (j : Nat) (p : PN), ps[j]? = some p → ∀ i v, [.int .i64 p.1.kind, .string (str p.1.name), p.2.1, .string (str p.1.text), .int .i64 p.1.up, p.2.2][i]? = some v → (nCells ps)[j * 6 + i]? = some v
  | [], j, p, h => by simp at h
  | q :: ps, 0, p, h => fun i v hv => by
    simp at h
    subst h
    rw [nCells_cons, Nat.zero_mul, Nat.zero_add]
    rcases i with _ | _ | _ | _ | _ | _ | i
    · exact hv
    · exact hv
    · exact hv
    · exact hv
    · exact hv
    · exact hv
    · simp at hv
  | q :: ps, j + 1, p, h => fun i v hv => by
    have := nCells_at ps j p (by simpa using h) i v hv
    rw [nCells_cons, show (j + 1) * 6 + i = j * 6 + i + 1 + 1 + 1 + 1 + 1 + 1 from by omega]
    simpa using this
theorem nCells_set : ∀ (ps : List PN) (j : Nat) (p q : PN) (i : Nat) (v : Value), ps[j]? = some p → i < 6 → [.int .i64 q.1.kind, .string (str q.1.name), q.2.1, .string (str q.1.text), .int .i64 q.1.up, q.2.2] = [.int .i64 p.1.kind, .string (str p.1.name), p.2.1, .string (str p.1.text), .int .i64 p.1.up, p.2.2].set i v → (nCells ps).set (j * 6 + i) v = nCells (ps.set j q)
  | [], j, p, q, i, v, h, hi, e => by simp at h
  | x :: ps, 0, p, q, i, v, h, hi, e => by
    simp at h
    subst h
    rw [List.set_cons_zero, nCells_cons, nCells_cons, Nat.zero_mul, Nat.zero_add]
    rcases i with _ | _ | _ | _ | _ | _ | i
    · simp at e ⊢
      simp [e]
    · simp at e ⊢
      simp [e]
    · simp at e ⊢
      simp [e]
    · simp at e ⊢
      simp [e]
    · simp at e ⊢
      simp [e]
    · simp at e ⊢
      simp [e]
    · omega
  | x :: ps, j + 1, p, q, i, v, h, hi, e => by
    have := nCells_set ps j p q i v (by simpa using h) hi e
    rw [List.set_cons_succ, nCells_cons, nCells_cons, show (j + 1) * 6 + i = j * 6 + i + 1 + 1 + 1 + 1 + 1 + 1 from by omega, List.set_cons_succ, List.set_cons_succ, List.set_cons_succ, List.set_cons_succ, List.set_cons_succ, List.set_cons_succ, this]
/-! ### slices that lie apart -/
def ApartL (L : List Value) : Prop := ∀ (a b : Nat) u v, L[a]? = some u → L[b]? = some v → a ≠ b → ApK u v
theorem ApartL.set {L : List Value} (h : ApartL L) (n : Nat) (hlow : ∀ v ∈ L, ∀ k, v.ownBlock = some k → k < n) {a : Nat} {v v' : Value} (ha : L[a]? = some v) (hv : v'.ownBlock = v.ownBlock ∨ v'.ownBlock = some n) : ApartL (L.set a v') := by
  have hal : a < L.length := (List.getElem?_eq_some_iff.1 ha).1
  have hap : ∀ b x, L[b]? = some x → b ≠ a → ApK x v' := fun b x hb hne k e1 e2 => by
    rcases hv with e | e
    · exact h b a x v hb ha hne k e1 (by rw [← e]; exact e2)
    · rw [e] at e2
      cases e2
      have := hlow x (List.mem_of_getElem? hb) _ e1
      omega
  intro x y u z hx hy hne
  rw [List.getElem?_set] at hx hy
  by_cases e : a = x
  · subst e
    rw [if_pos rfl, if_pos hal] at hx
    rw [if_neg hne] at hy
    cases hx
    exact fun k e1 e2 => hap y z hy (fun e => hne e.symm) k e2 e1
  · rw [if_neg e] at hx
    by_cases e2 : a = y
    · subst e2
      rw [if_pos rfl, if_pos hal] at hy
      cases hy
      exact hap x u hx (fun e3 => e e3.symm)
    · rw [if_neg e2] at hy
      exact h x y u z hx hy hne
theorem ApartL.push {L : List Value} (h : ApartL L) {v : Value} (hv : ∀ x ∈ L, ApK x v) : ApartL (L ++ [v]) := by
  intro a b u z ha hb hne
  by_cases h1 : a < L.length
  · rw [List.getElem?_append_left h1] at ha
    by_cases h2 : b < L.length
    · rw [List.getElem?_append_left h2] at hb
      exact h a b u z ha hb hne
    · have hb2 : b = L.length := by
        have := (List.getElem?_eq_some_iff.1 hb).1
        simp at this
        omega
      subst hb2
      simp at hb
      subst hb
      exact hv u (List.mem_of_getElem? ha)
  · have ha2 : a = L.length := by
      have := (List.getElem?_eq_some_iff.1 ha).1
      simp at this
      omega
    subst ha2
    simp at ha
    subst ha
    by_cases h2 : b < L.length
    · rw [List.getElem?_append_left h2] at hb
      exact fun k e1 e2 => hv z (List.mem_of_getElem? hb) k e2 e1
    · have := (List.getElem?_eq_some_iff.1 hb).1
      simp at this
      omega
def pslots (ps : List PN) : List Value := ps.flatMap fun p => [p.2.1, p.2.2]
theorem pslots_snoc (ps : List PN) (p : PN) : pslots (ps ++ [p]) = pslots ps ++ [p.2.1] ++ [p.2.2] := by simp [pslots]
theorem set_same {α : Type} (l : List α) (i : Nat) (x : α) (h : l[i]? = some x) : l.set i x = l := by
  apply List.ext_getElem?
  intro j
  rw [List.getElem?_set]
  by_cases e : i = j
  · subst e
    rw [if_pos rfl, if_pos (List.getElem?_eq_some_iff.1 h).1, h]
  · rw [if_neg e]
theorem pslots_mem {ps : List PN} {p : PN} (h : p ∈ ps) : p.2.1 ∈ pslots ps ∧ p.2.2 ∈ pslots ps := by
  unfold pslots
  rw [List.mem_flatMap, List.mem_flatMap]
  exact ⟨⟨p, h, by simp⟩, ⟨p, h, by simp⟩⟩
/-! ### the map of the first html and body -/
def FAt (w : World) (mg c : Nat) (F : List UInt8 → Option Nat) : Prop :=
  ∃ n D, n ≤ c ∧ w.ownsMap Try.prog 9 (plainElem (H := Unit) Try.prog 3) mg n D ∧ ∀ t : List UInt8, Maps.has D (.string t) = (F t).isSome ∧ ∀ i, F t = some i → D.atKey (.string t) (.lit (.int .i64 0)) = .lit (.int .i64 (i : Int))
theorem FAt.keep {w w' : World} {mg c : Nat} {F : List UInt8 → Option Nat} (h : FAt w mg c F) (hb : w'.heap[mg]? = w.heap[mg]?) : FAt w' mg c F := by
  obtain ⟨n, D, hn, ⟨es, clock, h1, h2⟩, h3⟩ := h
  exact ⟨n, D, hn, ⟨es, clock, hb.trans h1, h2⟩, h3⟩
theorem FAt.lt {w : World} {mg c : Nat} {F : List UInt8 → Option Nat} (h : FAt w mg c F) : mg < w.heap.size := by
  obtain ⟨n, D, hn, ⟨es, clock, h1, h2⟩, h3⟩ := h
  exact (Array.getElem?_eq_some_iff.1 h1).1
theorem FAt.more {w : World} {mg c d : Nat} {F : List UInt8 → Option Nat} (h : FAt w mg c F) (hc : c ≤ d) : FAt w mg d F := by
  obtain ⟨n, D, hn, h2⟩ := h
  exact ⟨n, D, Nat.le_trans hn hc, h2⟩
theorem FAt.made (w : World) : FAt (w.alloc (.map #[] 0)) w.heap.size 0 (fun _ => none) :=
  ⟨0, .map [], Nat.le_refl _, World.ownsMap_made _ _ _ _, fun t => ⟨rfl, fun i h => by cases h⟩⟩
section
variable {w w' : World} {T : Nat → Prop} {bb mg : Nat} {nv ov : Value} {ps : List PN} {op : List Nat} {F : List UInt8 → Option Nat}
end
end Go.Proofs.Ytoiedadfpbbdgaa
/- What a builder's steps leave of it. -/
namespace Go.Proofs.Ytoiedadfpbbdgaa
open Go.RowKit Go.Maps Go.WideMaps
section
variable {w w1 : World} {T : Nat → Prop} {bb mg g m c : Nat} {nv ov : Value} {ps : List PN} {op : List Nat} {F : List UInt8 → Option Nat}
theorem hset13 (w : World) (g i : Nat) (v : Value) {k : Nat} (hk : k ≠ g) : (w.setCell ⟨g, i, none⟩ v).heap[k]? = w.heap[k]? := Below.heap_setCell _ _ _ _ hk
theorem get_set13 {ps : List PN} {j i : Nat} {p q : PN} (h : (ps.set j q)[i]? = some p) : (i = j ∧ p = q) ∨ (i ≠ j ∧ ps[i]? = some p) := by
  rw [List.getElem?_set] at h
  by_cases e : j = i
  · subst e
    rw [if_pos rfl] at h
    split at h
    · cases h
      exact .inl ⟨rfl, rfl⟩
    · cases h
  · rw [if_neg e] at h
    exact .inr ⟨fun e2 => e e2.symm, h⟩
/-- The builder's own block at 0 or 1 is written. -/
theorem heap_set13 {w : World} {b i : Nat} {X : Array Value} {t : TypeId} (h : w.heap[b]? = some (.cells X t (0, 0))) (v : Value) : (w.setCell ⟨b, i, none⟩ v).heap[b]? = some (.cells (X.setIfInBounds i v) t (0, 0)) := heap_setCell_same w b i X t v h
end
end Go.Proofs.Ytoiedadfpbbdgaa
/- The contracts of a builder's last and lay. -/
namespace Go.Proofs.Ytoiedadfpbbdgaa
open Go.RowKit Go.Maps Go.WideMaps
theorem step_append_I {w : World} {ops : Array Oper} {o : Oper} {a : Act} {K : Act → World → Prop} {Q : Exit → Act → World → Prop} {E : Prop} (hgd : o.guard = none) (s x : Operand)
    (ho : o.op = .call { callee := .builtin .append, args := #[s, x], argTypes := #[39, 39] }) (B : Nat) (v : Value) (ks : List Int) (hs : a.eval s = v) (hown : OwnsI w B v ks) (g c : Nat) (hx : a.eval x = .slice (some ⟨g, 0, none⟩) 1 c) (y : Int) (hg : w.cell? ⟨g, 0, none⟩ = some (.int .i64 y)) (hlen : ks.length ≤ 10000000) (hB : B ≤ w.heap.size)
    (h : ∀ v' w', OwnsI w' B v' (ks ++ [y]) → w.grownBy w' v.ownBlock → (v'.ownBlock = v.ownBlock ∨ v'.ownBlock = some w.heap.size) → K (a.put o.dst v') w') : if Region.wanted o (yielded ops a.tmps) = true then Oper.wp Try.prog o a w K Q else E := by
  have hw : Region.wanted o (yielded ops a.tmps) = true := by simp [Region.wanted, hgd]
  rw [if_pos hw]
  obtain ⟨v', w', hr, h2, h3, h4⟩ := run_append_I w o.type B v ks hown ⟨g, 0, none⟩ c y hg rfl hlen hB
  unfold Oper.wp execOp
  simp only [ho, resolve, invoke, builtin, Sem.run_bind, Sem.run_pure, Result.andThen_ok, List.map_toArray, List.map_cons, List.map_nil, hs, hx, hr]
  exact h v' w' h2 h3 h4
theorem infoNode13 : (Try.prog.info? 50).map (fun i => (i.zero, i.size, i.bytes)) = some (some (.agg #[.int .i64 0, .string ByteArray.empty, .slice none 0 0, .string ByteArray.empty, .int .i64 0, .slice none 0 0]), 6, 96) := by kernel_rfl
section
variable {w : World} {T : Nat → Prop} {bb mg : Nat} {nv ov : Value} {ps : List PN} {op : List Nat} {F : List UInt8 → Option Nat}
theorem top_get {op : List Nat} (h : 1 ≤ op.length) : op[op.length - 1]? = some (op.getLastD 0) := by
  rw [List.getLastD_eq_getLast?, List.getLast?_eq_getElem?, List.getElem?_eq_getElem (by omega)]
  rfl
end
end Go.Proofs.Ytoiedadfpbbdgaa
