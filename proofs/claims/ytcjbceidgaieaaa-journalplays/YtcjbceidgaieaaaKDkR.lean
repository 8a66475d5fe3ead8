/- Slices of bytes that are read. -/
import Derived.Test.YtcjbceidgaieaaaKBase
import Derived.Laws.Cover3
import Derived.Lib.Builder
import Derived.Deep.AppendLies
import Derived.Laws.AppendOwnNone
import Derived.Laws.OwnMore
set_option linter.unusedVariables false
namespace Go.Proofs.Ytcjbceidgaieaaa
open Go.RowKit
theorem cell_lt {w : World} {a : Addr} {v : Value} (h : w.cell? a = some v) : a.block < w.heap.size := by
  by_cases hs : a.block < w.heap.size
  · exact hs
  · unfold World.cell? at h
    rw [Array.getElem?_eq_none (by omega)] at h
    simp at h
theorem cellsB_length (l : List UInt8) : (cellsB l).length = l.length := by simp [cellsB]
theorem cellsB_app (l m : List UInt8) : cellsB (l ++ m) = cellsB l ++ cellsB m := by unfold cellsB; rw [List.map_append]
theorem cellsB_at (l : List UInt8) (j : Nat) (h : j < l.length) : (cellsB l)[j]? = some (.int .u8 (l[j].toNat : Int)) := by
  unfold cellsB
  rw [List.getElem?_map, List.getElem?_eq_getElem h]
  rfl
theorem one_cell (l : List UInt8) : ∀ u ∈ cellsB l, u.oneCell' = true := by
  intro u hu
  obtain ⟨c, _, rfl⟩ := List.mem_map.1 hu
  rfl
theorem add_addr (b o j : Nat) : (⟨b, o, none⟩ : Addr).add j = ⟨b, o + j, none⟩ := by
  unfold Addr.add
  simp
theorem heap_new (w : World) (o : Obj) : (w.alloc o).heap[w.heap.size]? = some o := by
  show (w.heap.push o)[w.heap.size]? = _
  simp
theorem size_alloc (w : World) (o : Obj) : (w.alloc o).heap.size = w.heap.size + 1 := by simp
/-- The slice reads as these bytes; its block satisfies Q. -/
def RB (w : World) (v : Value) (l : List UInt8) : Prop :=
  (∃ a c, v = .slice a 0 c ∧ l = [] ∧ (a = none → c = 0)) ∨ ∃ b o c, v = .slice (some ⟨b, o, none⟩) l.length c ∧ l.length ≤ c ∧ ∀ (j : Nat) x, (cellsB l)[j]? = some x → w.cell? ⟨b, o + j, none⟩ = some x
theorem RB.keep {w w' : World} {v : Value} {l : List UInt8} (h : RB w v l) (hk : ∀ k, v.ownBlock = some k → k < w.heap.size → w'.heap[k]? = w.heap[k]?) : RB w' v l := by
  rcases h with h | ⟨b, o, c, rfl, hc, hr⟩
  · exact .inl h
  · refine .inr ⟨b, o, c, rfl, hc, fun j t hj => ?_⟩
    have h1 := hr j t hj
    rw [World.cell?_of_block (w := w) (hk b rfl (cell_lt h1))]
    exact h1
theorem RB.below {w w' : World} {v : Value} {l : List UInt8} (h : RB w v l) (hb : Below w.heap.size w w') : RB w' v l := h.keep (fun k _ hk => hb.block k hk)
theorem RB.nil (w : World) : RB w (.slice none 0 0) [] := .inl ⟨_, _, rfl, rfl, fun _ => rfl⟩
theorem RB.form {w : World} {v : Value} {l : List UInt8} (h : RB w v l) : ∃ a c, v = .slice a l.length c := by
  rcases h with ⟨a, c, rfl, rfl, _⟩ | ⟨b, o, c, rfl, _, _⟩
  · exact ⟨a, c, rfl⟩
  · exact ⟨_, c, rfl⟩
theorem RB.at {w : World} {a : Option Addr} {n c : Nat} {l : List UInt8} (h : RB w (.slice a n c) l) {j : Nat} (hj : j < l.length) : n = l.length ∧ n ≤ c ∧ ∃ b o, a = some ⟨b, o, none⟩ ∧ w.cell? ⟨b, o + j, none⟩ = some (.int .u8 (l[j].toNat : Int)) := by
  rcases h with ⟨a', c', he, rfl, _⟩ | ⟨b, o, c', he, hc, hr⟩
  · simp at hj
  · cases he
    exact ⟨rfl, hc, b, o, rfl, hr j _ (cellsB_at l j hj)⟩
theorem OwnsBytes.reads {w : World} {B : Nat} {v : Value} {l : List UInt8} (h : OwnsBytes w B v l) : RB w v l := by
  have h0 := h
  rcases h.2 with ⟨rfl, hz⟩ | ⟨g, cap, cur, rfl, _, hg, hc, _, hcs, ht⟩
  · exact .inl ⟨_, _, rfl, List.eq_nil_of_length_eq_zero hz, fun _ => rfl⟩
  · refine .inr ⟨g, 0, cap, rfl, hc, fun j x hj => ?_⟩
    have hlt : j < (cellsB l).length := (List.getElem?_eq_some_iff.1 hj).1
    rw [cellsB_length] at hlt
    have := World.ownsRow.cellAt (w := w) (base := B) (e := 5) (size := 1) (g := g) (cap := cap) (n := l.length) (xs := cellsB l) h0 j (by omega)
    rw [Nat.zero_add, this, hj]
theorem OwnsBytes.form {w : World} {B : Nat} {v : Value} {l : List UInt8} (h : OwnsBytes w B v l) : ∃ a c, v = .slice a l.length c := h.reads.form
theorem OwnsBytes.keep {w w' : World} {B : Nat} {v : Value} {l : List UInt8} (h : OwnsBytes w B v l) (hk : ∀ k, v.ownBlock = some k → k < w.heap.size → w'.heap[k]? = w.heap[k]?) : OwnsBytes w' B v l := by
  refine ⟨h.1, ?_⟩
  rcases h.2 with hn | ⟨g, cap, cur, rfl, hb, hgg, rest⟩
  · exact .inl hn
  · exact .inr ⟨g, cap, cur, rfl, hb, by rw [hk g rfl (Array.getElem?_eq_some_iff.1 hgg).1]; exact hgg, rest⟩
theorem OwnsBytes.lt {w : World} {B : Nat} {v : Value} {l : List UInt8} (h : OwnsBytes w B v l) {k : Nat} (hk : v.ownBlock = some k) : B ≤ k ∧ k < w.heap.size := World.ownsRow.lt h k hk
theorem OwnsBytes.base {w : World} {B B' : Nat} {v : Value} {l : List UInt8} (h : OwnsBytes w B v l) (hB : ∀ k, v.ownBlock = some k → B' ≤ k) : OwnsBytes w B' v l := by
  refine ⟨h.1, ?_⟩
  rcases h.2 with hn | ⟨g, cap, cur, rfl, hb, rest⟩
  · exact .inl hn
  · exact .inr ⟨g, cap, cur, rfl, hB g rfl, rest⟩
/-- The first bytes of what is owned. -/
theorem OwnsBytes.take {w : World} {B : Nat} {a : Option Addr} {n c : Nat} {l : List UInt8} (h : OwnsBytes w B (.slice a n c) l) (k : Nat) (hk : k ≤ l.length) : OwnsBytes w B (.slice a k c) (l.take k) := by
  have hlk : (l.take k).length = k := by simp; omega
  unfold OwnsBytes
  rw [hlk]
  rcases h.2 with ⟨hn, h0⟩ | ⟨g, cap, cur, hv, hb, hg, hc, hm, hcs, ht⟩
  · cases hn
    have : k = 0 := by omega
    subst this
    exact ⟨by simp [cellsB], .inl ⟨rfl, rfl⟩⟩
  · cases hv
    refine ⟨by rw [cellsB_length, hlk, Nat.mul_one], .inr ⟨g, c, cur, rfl, hb, hg, by omega, hm, hcs, ?_⟩⟩
    have e : cellsB (l.take k) = (cellsB l).take k := by unfold cellsB; rw [List.map_take]
    rw [e, ← ht, Nat.mul_one, Nat.mul_one, List.take_take, Nat.min_eq_left hk]
theorem infoB : ∃ i0, Try.prog.info? 5 = some i0 ∧ i0.zero = some (.int .u8 0) ∧ i0.size = 1 ∧ i0.bytes = 1 := info_parts infoByte
/-- Bytes that are read, appended to bytes of one's own: where they lie then. -/
theorem run_append_RB (w : World) (ty : TypeId) (v : Value) (l : List UInt8) (hown : OwnsBytes w 0 v l) (y : Value) (m : List UInt8) (hy : RB w y m) (hlen : l.length + m.length ≤ 1000000000) :
    ∃ v' w', (Builtin.append_ #[27, 27] ty #[v, y]).run Try.prog w = .ok v' w' ∧ OwnsBytes w' 0 v' (l ++ m) ∧ w.grownBy w' v.ownBlock ∧ (v'.ownBlock = v.ownBlock ∨ v'.ownBlock = some w.heap.size) := by
  obtain ⟨i0, hi, hz0, hz1, hz2⟩ := infoB
  have hfin : ∀ v' w', w'.ownsRow 0 5 1 v' (l.length + m.length) (cellsB l ++ cellsB m) → OwnsBytes w' 0 v' (l ++ m) := by
    intro v' w' h
    unfold OwnsBytes
    rw [List.length_append, cellsB_app]
    exact h
  rcases hy with ⟨ad, c, rfl, he, h0⟩ | ⟨b, f, c, rfl, hc, hr⟩
  · subst he
    cases ad with
    | none =>
      obtain rfl := h0 rfl
      refine ⟨v, w, run_append_owned_none (P := Try.prog) (w := w) 0 27 ty 5 i0 1 Try.underlying27 hi v _ _ hown, by rw [List.append_nil]; exact hown, World.grownBy.refl _ _, .inl rfl⟩
    | some ad =>
      obtain ⟨v', w', h1, h2, h3, _, h5⟩ := run_append_own_at (P := Try.prog) w 0 27 ty 5 i0 (.int .u8 0) 1 1 Try.underlying27 hi hz0 hz1 hz2 rfl (by decide) v _ _ hown ad 0 c [] rfl (fun j u hj => by simp at hj) (fun x hx => by simp at hx) (by simp at hlen; unfold maxLen; omega) (by simp at hlen; omega) (Nat.zero_le _)
      exact ⟨v', w', h1, hfin v' w' h2, h3, h5⟩
  · obtain ⟨v', w', h1, h2, h3, _, h5⟩ := run_append_own_at (P := Try.prog) w 0 27 ty 5 i0 (.int .u8 0) 1 1 Try.underlying27 hi hz0 hz1 hz2 rfl (by decide) v _ _ hown ⟨b, f, none⟩ m.length c (cellsB m) (by rw [cellsB_length, Nat.mul_one]) (fun j u hj => by rw [add_addr]; exact hr j u hj) (one_cell m) (by unfold maxLen; omega) (by omega) (Nat.zero_le _)
    exact ⟨v', w', h1, hfin v' w' h2, h3, h5⟩
theorem wp_append_RB {w : World} {o : Oper} {a : Act} {K : Act → World → Prop} {Q : Exit → Act → World → Prop} (s x : Operand)
    (ho : o.op = .call { callee := .builtin .append, args := #[s, x], argTypes := #[27, 27] }) (v : Value) (l : List UInt8) (hs : a.eval s = v) (hown : OwnsBytes w 0 v l) (y : Value) (m : List UInt8) (hx : a.eval x = y) (hy : RB w y m) (hlen : l.length + m.length ≤ 1000000000)
    (h : ∀ v' w', OwnsBytes w' 0 v' (l ++ m) → w.grownBy w' v.ownBlock → (v'.ownBlock = v.ownBlock ∨ v'.ownBlock = some w.heap.size) → K (a.put o.dst v') w') : o.wp Try.prog a w K Q := by
  obtain ⟨v', w', hr, h2, h3, h4⟩ := run_append_RB w o.type v l hown y m hy hlen
  unfold Oper.wp execOp
  simp only [ho, resolve, invoke, builtin, Sem.run_bind, Sem.run_pure, Result.andThen_ok, List.map_toArray, List.map_cons, List.map_nil, hs, hx, hr]
  exact h v' w' h2 h3 h4
theorem wpList_append_RB {w : World} {ops : Array Oper} {rest : List Oper} {o : Oper} {a : Act} {Q : Exit → Act → World → Prop} (hgd : o.guard = none) (s x : Operand)
    (ho : o.op = .call { callee := .builtin .append, args := #[s, x], argTypes := #[27, 27] }) (v : Value) (l : List UInt8) (hs : a.eval s = v) (hown : OwnsBytes w 0 v l) (y : Value) (m : List UInt8) (hx : a.eval x = y) (hy : RB w y m) (hlen : l.length + m.length ≤ 1000000000)
    (h : ∀ v' w', OwnsBytes w' 0 v' (l ++ m) → w.grownBy w' v.ownBlock → (v'.ownBlock = v.ownBlock ∨ v'.ownBlock = some w.heap.size) → wpList Try.prog ops Q rest (a.put o.dst v') w') : wpList Try.prog ops Q (o :: rest) a w :=
  wpList_plain hgd fun _ hK => wp_append_RB s x ho v l hs hown y m hx hy hlen fun v' w' h2 h3 h4 => hK _ _ (h v' w' h2 h3 h4)
theorem step_append_RB {w : World} {ops : Array Oper} {o : Oper} {a : Act} {K : Act → World → Prop} {Q : Exit → Act → World → Prop} {E : Prop} (hgd : o.guard = none) (s x : Operand)
    (ho : o.op = .call { callee := .builtin .append, args := #[s, x], argTypes := #[27, 27] }) (v : Value) (l : List UInt8) (hs : a.eval s = v) (hown : OwnsBytes w 0 v l) (y : Value) (m : List UInt8) (hx : a.eval x = y) (hy : RB w y m) (hlen : l.length + m.length ≤ 1000000000)
    (h : ∀ v' w', OwnsBytes w' 0 v' (l ++ m) → w.grownBy w' v.ownBlock → (v'.ownBlock = v.ownBlock ∨ v'.ownBlock = some w.heap.size) → K (a.put o.dst v') w') : if Region.wanted o (yielded ops a.tmps) = true then Oper.wp Try.prog o a w K Q else E := by
  rw [if_pos (by simp [Region.wanted, hgd])]
  exact wp_append_RB s x ho v l hs hown y m hx hy hlen h
/-- Bytes that are read, made a text. -/
theorem conv_RB {W : World} {v : Value} {l : List UInt8} (h : RB W v l) : (convert 27 9 v).run Try.prog W = .ok (.string (str l)) W := by
  rcases h with ⟨a, c, rfl, rfl, h0⟩ | ⟨b, o, c, rfl, hc, hr⟩
  · cases a with
    | none => exact run_convert_bytes_nil (P := Try.prog) W 27 5 Try.underlying27 Try.underlying5 0 c 9 Try.underlying9
    | some a => exact run_convert_bytes_back (P := Try.prog) W 27 9 5 a c [] Try.underlying27 Try.underlying5 Try.underlying9 (fun j hj => by simp at hj)
  · refine run_convert_bytes_back (P := Try.prog) W 27 9 5 ⟨b, o, none⟩ c l Try.underlying27 Try.underlying5 Try.underlying9 (fun j hj => ?_)
    rw [add_addr, hr j _ (cellsB_at l j hj)]
end Go.Proofs.Ytcjbceidgaieaaa
