/- A map of places that were met, in memory. -/
import Derived.Test.YtoiedadfpbbdgaaKLkA
set_option linter.unusedVariables false
set_option linter.unusedSimpArgs false
namespace Go.Proofs.Ytoiedadfpbbdgaa
open Go.RowKit Go.Maps Go.WideMaps
theorem lawI14 : Keyed Try.prog 3 := int_keyed Try.underlying3
theorem zeroB14 (w : World) : (zeroValue 4).run Try.prog w = .ok (.bool false) w := by kernel_rfl
theorem plainElem_bool_inv14 {H : Type} {P : Program} {e : TypeId} (he : P.underlying e = some .bool) {v : Value} {z : DataW H × List MemPlace} (h : plainElem P e v = some z) : ∃ b, v = .bool b ∧ z = (.lit (.bool b), []) := by
  unfold plainElem at h
  rw [he] at h
  cases v <;> simp at h
  subst h
  exact ⟨_, rfl, rfl⟩
/-- The map at g tells of each number what f does; at most c were put into it. -/
def InAt (g c : Nat) (f : Int → Bool) (w : World) : Prop :=
  ∃ n D, n ≤ c ∧ w.ownsMap Try.prog 3 (plainElem (H := Unit) Try.prog 4) g n D ∧ ∀ k : Int, D.atKey (.int .i64 k) (.lit (.bool false)) = .lit (.bool (f k))
theorem InAt.keep {g c : Nat} {f : Int → Bool} {w w' : World} (h : InAt g c f w) (hb : w'.heap[g]? = w.heap[g]?) : InAt g c f w' := by
  obtain ⟨n, D, hn, ⟨es, clock, h1, h2⟩, h3⟩ := h
  exact ⟨n, D, hn, ⟨es, clock, hb.trans h1, h2⟩, h3⟩
theorem InAt.lt {g c : Nat} {f : Int → Bool} {w : World} (h : InAt g c f w) : g < w.heap.size := by
  obtain ⟨n, D, hn, ⟨es, clock, h1, h2⟩, h3⟩ := h
  exact (Array.getElem?_eq_some_iff.1 h1).1
theorem InAt.more {g c d : Nat} {f : Int → Bool} {w : World} (h : InAt g c f w) (hc : c ≤ d) : InAt g d f w := by
  obtain ⟨n, D, hn, h2⟩ := h
  exact ⟨n, D, Nat.le_trans hn hc, h2⟩
theorem InAt.as {g c : Nat} {f f' : Int → Bool} {w : World} (h : InAt g c f w) (he : ∀ k, f k = f' k) : InAt g c f' w := by
  obtain ⟨n, D, hn, h2, h3⟩ := h
  exact ⟨n, D, hn, h2, fun k => by rw [h3 k, he k]⟩
theorem InAt.made (w : World) : InAt w.heap.size 0 (fun _ => false) (w.alloc (.map #[] 0)) := ⟨0, .map [], Nat.le_refl _, World.ownsMap_made _ _ _ _, fun t => rfl⟩
theorem wf_i64 {k : Int} (h1 : -9223372036854775808 ≤ k) (h2 : k ≤ 9223372036854775807) : (Lit.int .i64 k).wf = true := by
  simp only [Lit.wf, Bool.and_eq_true, decide_eq_true_eq]
  exact ⟨by show (-9223372036854775808 : Int) ≤ _; omega, by show _ ≤ (9223372036854775807 : Int); omega⟩
theorem InAt.look {g c : Nat} {f : Int → Bool} {w : World} (h : InAt g c f w) (k : Int) (hk : (Lit.int .i64 k).wf = true) :
    (Instr.lookup 47 (.map (some g)) (.int .i64 k) false).run Try.prog w = .ok (.bool (f k)) w := by
  obtain ⟨n, D, hn, hown, hF⟩ := h
  obtain ⟨v, ps, hrun, hv⟩ := hown.lookup lawI14 Try.underlying47 (zeroB14 w) (plainElem_bool Try.underlying4 false) (keyOf_int_mk Try.underlying3 hk)
  obtain ⟨b, rfl, hb⟩ := plainElem_bool_inv14 Try.underlying4 hv
  have e := congrArg Prod.fst hb
  simp only at e
  rw [hF k] at e
  cases e
  exact hrun
theorem InAt.put {g c : Nat} {f : Int → Bool} {w : World} (h : InAt g c f w) (hc : c ≤ 1000000) (k : Int) (hk : (Lit.int .i64 k).wf = true) :
    ∃ w', (Instr.mapUpdate 47 (.map (some g)) (.int .i64 k) (.bool true)).run Try.prog w = .ok () w' ∧ InAt g (c + 1) (fun x => if x = k then true else f x) w' ∧ w.grownBy w' (some g) := by
  obtain ⟨n, D, hn, hown, hF⟩ := h
  obtain ⟨w', hr, h1, h2⟩ := hown.update lawI14 Try.underlying47 (by unfold maxLen; omega) (keyOf_int_mk Try.underlying3 hk) (plainElem_bool Try.underlying4 true)
  have htidy := hown.tidy lawI14
  refine ⟨w', hr, ⟨n + 1, _, by omega, h1, fun t => ?_⟩, h2⟩
  by_cases e : t = k
  · subst e
    show _ = DataW.lit (.bool (if t = t then true else f t))
    rw [if_pos rfl]
    exact atKey_put_same (k := .int .i64 t) htidy.isMap trivial _ _
  · show _ = DataW.lit (.bool (if t = k then true else f t))
    rw [if_neg e, atKey_put_other (fun e2 => e (by cases e2; rfl))]
    exact hF t
end Go.Proofs.Ytoiedadfpbbdgaa
