/- Contracts of the writer's put, quote, comma. -/
import Derived.Test.YtmmpbjpeiclacaaGreatDoorKZC
set_option linter.unusedVariables false
set_option linter.unusedSimpArgs false
namespace Go.Proofs.YtmmpbjpeiclacaaGreatDoor
open Go.RowKit
/-- The writer at b has written out; whether it is long. -/
def WAt (b : Nat) (w : World) (out : List UInt8) (lg : Bool) : Prop := ∃ v, w.heap[b]? = some (.cells #[v, .bool lg] 81 (0, 0)) ∧ OwnsBytes w b v out ∧ v.ownBlock ≠ some b ∧ out.length ≤ 65536
/-- A writer that has a text, or is long. -/
inductive WS (b : Nat) (w : World) : Option (List UInt8) → Prop
  | has {out : List UInt8} : WAt b w out false → WS b w (some out)
  | long {out : List UInt8} : WAt b w out true → WS b w none
/-- What a writer has behind a text. -/
def putJ (x : Option (List UInt8)) (s : List UInt8) : Option (List UInt8) := x.bind fun o => if o.length + s.length ≤ 65536 then some (o ++ s) else none
theorem putJ_none (s : List UInt8) : putJ none s = none := rfl
theorem putJ_yes {o s : List UInt8} (h : o.length + s.length ≤ 65536) : putJ (some o) s = some (o ++ s) := if_pos h
theorem putJ_no {o s : List UInt8} (h : ¬ o.length + s.length ≤ 65536) : putJ (some o) s = none := if_neg h
theorem putJ_app (x : Option (List UInt8)) (a c : List UInt8) : putJ (putJ x a) c = putJ x (a ++ c) := by
  cases x with
  | none => rfl
  | some o =>
    by_cases h1 : o.length + a.length ≤ 65536
    · rw [putJ_yes h1]
      by_cases h2 : o.length + (a ++ c).length ≤ 65536
      · rw [putJ_yes h2, putJ_yes (by simp at h2 ⊢; omega), List.append_assoc]
      · rw [putJ_no h2, putJ_no (by simp at h2 ⊢; omega)]
    · rw [putJ_no h1, putJ_no (by simp; omega)]
      rfl
theorem WAt.lt {b : Nat} {w : World} {out : List UInt8} {lg : Bool} (h : WAt b w out lg) : b < w.heap.size := by
  obtain ⟨v, h1, _⟩ := h
  exact (Array.getElem?_eq_some_iff.1 h1).1
theorem WAt.keep {b : Nat} {w w' : World} {out : List UInt8} {lg : Bool} (h : WAt b w out lg) (hk : Below w.heap.size w w') : WAt b w' out lg := by
  obtain ⟨v, h1, h2, h3, h4⟩ := h
  have hx : ∀ {o : Nat} {x : _}, w.heap[o]? = some x → w'.heap[o]? = some x := fun {o x} hx => (hk.block o (Array.getElem?_eq_some_iff.1 hx).1).trans hx
  refine ⟨v, hx h1, ⟨h2.1, ?_⟩, h3, h4⟩
  rcases h2.2 with h | ⟨g, cap, cur, e1, e2, e3, e4⟩
  · exact .inl h
  · exact .inr ⟨g, cap, cur, e1, e2, hx e3, e4⟩
theorem WS.keep {b : Nat} {w w' : World} {x : Option (List UInt8)} (h : WS b w x) (hk : Below w.heap.size w w') : WS b w' x := by
  cases h with
  | has h => exact .has (h.keep hk)
  | long h => exact .long (h.keep hk)
theorem WS.lt {b : Nat} {w : World} {x : Option (List UInt8)} (h : WS b w x) : b < w.heap.size := by
  cases h with
  | has h => exact h.lt
  | long h => exact h.lt
theorem WAt.flag {b : Nat} {w : World} {out : List UInt8} {lg : Bool} (h : WAt b w out lg) (l2 : Bool) : WAt b (w.setCell ⟨b, 1, none⟩ (.bool l2)) out l2 := by
  obtain ⟨v, h1, h2, h3, h4⟩ := h
  refine ⟨v, Go.Joins.block_setCell h1 _, ?_, h3, h4⟩
  exact World.ownsRow.kept h2 (row := some b) ⟨rfl, rfl, rfl, by simp [World.setCell], fun k _ hk => Below.heap_setCell _ _ _ _ (fun e => hk (by simp [e]))⟩ (Or.inr h3)
/-- Nothing below b is turned, and nothing behind it but the writer's block and rows of bytes. -/
structure Wk (b : Nat) (w w' : World) : Prop where
  bel : Below b w w'
  others : Lib.OthersKept 5 (some b) w w'
theorem Wk.refl (b : Nat) (w : World) : Wk b w w := ⟨Below.refl _ _, Lib.OthersKept.refl _ _ _⟩
theorem Wk.trans {b : Nat} {a c d : World} (h : Wk b a c) (k : Wk b c d) : Wk b a d := ⟨h.bel.trans k.bel, h.others.trans k.others⟩
theorem Wk.of {b : Nat} {w w' : World} (h : Below w.heap.size w w') (hb : b ≤ w.heap.size) : Wk b w w' :=
  ⟨h.mono hb, fun k o hk _ _ => (h.block k (Array.getElem?_eq_some_iff.1 hk).1).trans hk⟩
theorem Wk.set (b o : Nat) (w : World) (v : Value) : Wk b w (w.setCell ⟨b, o, none⟩ v) :=
  ⟨(Below.refl b w).setCell (p := ⟨b, o, none⟩) (Nat.le_refl _) v, (Lib.OthersKept.refl _ _ _).setCell ⟨b, o, none⟩ rfl v⟩
def PutC (s : List UInt8) : Prop := ∀ (b : Nat) (w : World) (x : Option (List UInt8)), WS b w x → Calls Tryz.prog 66 #[.pointer (some ⟨b, 0, none⟩), .string (str s)] w fun e w' => e = .returned (.tuple #[]) ∧ Wk b w w' ∧ WS b w' (putJ x s)
set_option maxHeartbeats 4000000 in
set_option maxRecDepth 100000 in
theorem put_any (s : List UInt8) (hs : s.length ≤ 1000000000) : PutC s := by
  intro b w x hW
  have hb := hW.lt
  have hsz := str_size s
  have hBf : ∀ v, Wk b w (w.setCell ⟨b, 1, none⟩ v) := fun v => Wk.set b 1 w v
  cases hW with
  | long h =>
    have h2 := h.flag true
    obtain ⟨v, h1, _⟩ := h
    have c1 : w.cell? ⟨b, 1, none⟩ = some (.bool true) := by rw [Lib.cell_of_heap h1]; rfl
    have f1 : w.frozen? ⟨b, 1, none⟩ = false := Lib.frozen_of_heap h1 1
    rw [putJ_none]
    go_enter Tryz.func66, Tryz.ntmps66
    go_wp2
    go_end0
    exact ⟨rfl, hBf _, .long h2⟩
  | @has out h =>
    have hlo := h
    obtain ⟨v, h1, hown, hne, hlen⟩ := hlo
    obtain ⟨a, cp, hv⟩ : ∃ a cp, v = .slice a out.length cp := by
      rcases hown.2 with ⟨rfl, hz⟩ | ⟨g, cap, cur, rfl, _⟩
      · exact ⟨none, 0, by rw [hz]⟩
      · exact ⟨_, _, rfl⟩
    subst hv
    have c0 : w.cell? ⟨b, 0, none⟩ = some (.slice a out.length cp) := by rw [Lib.cell_of_heap h1]; rfl
    have c1 : w.cell? ⟨b, 1, none⟩ = some (.bool false) := by rw [Lib.cell_of_heap h1]; rfl
    have f1 : w.frozen? ⟨b, 1, none⟩ = false := Lib.frozen_of_heap h1 1
    by_cases hfit : out.length + s.length ≤ 65536
    · rw [putJ_yes hfit]
      have hi : ¬ ((65536 : Int) - out.length < s.length) := by omega
      obtain ⟨i0, hi0, hz0, hz1, hz2⟩ := info_parts infoByte
      have hb1 : (w.setCell ⟨b, 1, none⟩ (.bool false)).heap[b]? = some (.cells #[.slice a out.length cp, .bool false] 81 (0, 0)) := Go.Joins.block_setCell h1 _
      have hown1 : OwnsBytes (w.setCell ⟨b, 1, none⟩ (.bool false)) b (.slice a out.length cp) out := World.ownsRow.kept hown (row := some b) ⟨rfl, rfl, rfl, by simp [World.setCell], fun k _ hk => Below.heap_setCell _ _ _ _ (fun e => hk (by simp [e]))⟩ (Or.inr hne)
      go_enter Tryz.func66, Tryz.ntmps66
      go_wp2_with (at_builtin; refine Lib.wpList_append_own_string _ rfl _ _ 51 9 rfl b 5 i0 Tryz.underlying51 Tryz.underlying9 hi0 hz0 hz1 hz2 _ _ _ rfl hown1 (str s) rfl (by unfold maxLen; omega) (by omega) (by simp; omega) ?_)
      intro v' w2 hown2 hgrow _
      have hb2 : w2.heap[b]? = some (.cells #[.slice a out.length cp, .bool false] 81 (0, 0)) := by
        rw [hgrow.block b (by simp; omega) (fun e => hne e.symm)]
        exact hb1
      have d0 : w2.cell? ⟨b, 0, none⟩ = some (.slice a out.length cp) := by rw [Lib.cell_of_heap hb2]; rfl
      have f0 : w2.frozen? ⟨b, 0, none⟩ = false := Lib.frozen_of_heap hb2 0
      obtain ⟨ao, n', cap, rfl⟩ : ∃ ao n' cap, v' = .slice ao n' cap := by
        rcases hown2.2 with ⟨hv, _⟩ | ⟨g, cap, cur, hv, _⟩
        · exact ⟨_, _, _, hv⟩
        · exact ⟨_, _, _, hv⟩
      go_wp2
      go_end0
      have hn2 : (Value.slice ao n' cap).ownBlock ≠ some b := by
        rcases hown2.2 with ⟨hv, _⟩ | ⟨g, c2, cur, hv, _, hg, _⟩
        · rw [hv]; simp [Value.ownBlock]
        · rw [hv]
          intro h
          simp only [Value.ownBlock, Option.some.injEq] at h
          subst h
          rw [hg] at hb2
          simp only [Option.some.injEq, Obj.cells.injEq] at hb2
          exact absurd hb2.2.1 (by decide)
      refine ⟨rfl, ⟨((hBf _).bel.grown hgrow (by simp; omega) (fun k hk => (World.ownsRow.lt hown1 k hk).1)).setCell (p := ⟨b, 0, none⟩) (Nat.le_refl _) _, ((hBf _).others.grown hgrow (Lib.ownsRowF_kind (World.ownsRowF_of hown1))).setCell ⟨b, 0, none⟩ rfl _⟩, .has ⟨_, Go.Joins.block_setCell hb2 _, ?_, hn2, by simp; omega⟩⟩
      have hcells : cellsB (out ++ s) = cellsB out ++ Lib.strCells (str s) := by
        unfold cellsB Lib.strCells
        rw [List.map_append, str_data]
      unfold OwnsBytes
      rw [hcells, List.length_append, ← hsz]
      exact World.ownsRow.kept hown2 (row := some b) ⟨rfl, rfl, rfl, by simp [World.setCell], fun k _ hk => Below.heap_setCell _ _ _ _ (fun e => hk (by simp [e]))⟩ (Or.inr hn2)
    · rw [putJ_no hfit]
      have h2 := h.flag true
      have hi : ((65536 : Int) - out.length < s.length) := by omega
      go_enter Tryz.func66, Tryz.ntmps66
      go_wp2
      go_end0
      exact ⟨rfl, hBf _, .long h2⟩
set_option maxHeartbeats 2000000 in
theorem comma_any (b j : Nat) (w : World) (x : Option (List UInt8)) (hW : WS b w x) :
    Calls Tryz.prog 88 #[.pointer (some ⟨b, 0, none⟩), .int .i64 (j : Int)] w fun e w' => e = .returned (.tuple #[]) ∧ Wk b w w' ∧ WS b w' (putJ x (if j = 0 then [] else [44])) := by
  by_cases h0 : j = 0
  · subst h0
    have hx : putJ x [] = x := by
      cases hW with
      | long _ => rfl
      | has h =>
        obtain ⟨v, _, _, _, h4⟩ := h
        rw [putJ_yes (by simpa using h4), List.append_nil]
    rw [if_pos rfl, hx]
    go_enter Tryz.func88, Tryz.ntmps88
    go_wp2
    go_end0
    exact ⟨rfl, Wk.refl _ _, hW⟩
  · rw [if_neg h0]
    have hj : (0 : Int) < (j : Int) := by omega
    have hP := put_any [44] (by decide) b w x hW
    go_enter Tryz.func88, Tryz.ntmps88
    go_wp2_with (first
      | (go_at_call 66; refine hP.mono ?_; rintro e w1 ⟨rfl, hB1, hW1⟩))
    go_end0
    exact ⟨rfl, hB1, hW1⟩
theorem quote_len (s : List UInt8) : s.length + 2 ≤ (Jsn.quoteJ s).length := by
  have := Jsn.escLen_ge s
  unfold Jsn.escLen at this
  unfold Jsn.quoteJ
  simp only [List.length_cons, List.length_append, List.length_nil]
  omega
set_option maxHeartbeats 4000000 in
set_option maxRecDepth 100000 in
theorem quote_any (s : List UInt8) (hs : s.length ≤ 1000000000) (ht : Utf.isText s = true) (b : Nat) (w : World) (x : Option (List UInt8)) (hW : WS b w x) :
    Calls Tryz.prog 67 #[.pointer (some ⟨b, 0, none⟩), .string (str s)] w fun e w' => e = .returned (.tuple #[]) ∧ Wk b w w' ∧ WS b w' (putJ x (Jsn.quoteJ s)) := by
  have hb := hW.lt
  have hsz := str_size s
  have hql := quote_len s
  have hBf : ∀ v, Wk b w (w.setCell ⟨b, 1, none⟩ v) := fun v => Wk.set b 1 w v
  cases hW with
  | long h =>
    have h2 := h.flag true
    obtain ⟨v, h1, _⟩ := h
    have c1 : w.cell? ⟨b, 1, none⟩ = some (.bool true) := by rw [Lib.cell_of_heap h1]; rfl
    have f1 : w.frozen? ⟨b, 1, none⟩ = false := Lib.frozen_of_heap h1 1
    rw [putJ_none]
    go_enter Tryz.func67, Tryz.ntmps67
    go_wp2
    go_end0
    exact ⟨rfl, hBf _, .long h2⟩
  | @has out h =>
    have hlo := h
    obtain ⟨v, h1, hown, hne, hlen⟩ := hlo
    obtain ⟨a, cp, hv⟩ : ∃ a cp, v = .slice a out.length cp := by
      rcases hown.2 with ⟨rfl, hz⟩ | ⟨g, cap, cur, rfl, _⟩
      · exact ⟨none, 0, by rw [hz]⟩
      · exact ⟨_, _, rfl⟩
    subst hv
    have c0 : w.cell? ⟨b, 0, none⟩ = some (.slice a out.length cp) := by rw [Lib.cell_of_heap h1]; rfl
    have c1 : w.cell? ⟨b, 1, none⟩ = some (.bool false) := by rw [Lib.cell_of_heap h1]; rfl
    have f1 : w.frozen? ⟨b, 1, none⟩ = false := Lib.frozen_of_heap h1 1
    by_cases hfit : out.length + s.length ≤ 65536
    · have hi : ¬ ((65536 : Int) - out.length < s.length) := by omega
      have h2 : WS b (w.setCell ⟨b, 1, none⟩ (.bool false)) (some out) := .has (h.flag false)
      have hQ := fun w => Quote_any s w hs
      rw [Utf.rep_self s ht] at hQ
      have hql2 : (Jsn.quoteJ s).length ≤ 1000000000 := by
        have := Jsn.escLen_le s
        unfold Jsn.escLen at this
        unfold Jsn.quoteJ
        simp only [List.length_cons, List.length_append, List.length_nil]
        omega
      have hP := put_any (Jsn.quoteJ s) hql2 b
      generalize Jsn.quoteJ s = q at hQ hP hql ⊢
      clear hql2 hql h
      generalize hX : putJ (some out) q = X
      have HX := show Hid _ from hX
      clear hX
      go_enter Tryz.func67, Tryz.ntmps67
      go_wp2_with (first
        | (go_at_call 6; refine (hQ _).mono ?_; rintro e w1 ⟨rfl, hB1⟩; have hW1 := h2.keep hB1; clear hQ)
        | (go_at_call 66; refine (hP w1 _ hW1).mono ?_; rintro e w2 ⟨rfl, hB2, hW2⟩))
      go_end0
      exact ⟨rfl, ((hBf _).trans (Wk.of hB1 (by simp; omega))).trans hB2, by rw [← HX.out]; exact hW2⟩
    · rw [putJ_no (by omega)]
      have h2 := h.flag true
      have hi : ((65536 : Int) - out.length < s.length) := by omega
      go_enter Tryz.func67, Tryz.ntmps67
      go_wp2
      go_end0
      exact ⟨rfl, hBf _, .long h2⟩
end Go.Proofs.YtmmpbjpeiclacaaGreatDoor
