/- Texts laid as one. -/
import Derived.Test.YtoiedadfpbbdgaaKTkIJ
import Derived.Deep.RegionHeld3
import Derived.Test.YtoiedadfpbbdgaaKTreJL
import Derived.Test.YtoiedadfpbbdgaaKTreAE
import Derived.Deep.RegionLaw
/- Regions that draw their order, whose last operation is a store into what they read: what holds of the cells need not hold behind that. -/
set_option linter.unusedVariables false
namespace Go.Proofs.Ytoiedadfpbbdgaa
open Go Go.RowKit
section
variable {P : Program} {ops : Array Oper} {Q : Exit → Act → World → Prop} {md : Region.Mode} {S : World → Prop} {z : Nat}
/-- Whatever order is picked, S holds behind every operation but number z. -/
def wpAnyL (P : Program) (md : Region.Mode) (ops : Array Oper) (Q : Exit → Act → World → Prop) (S : World → Prop) (z : Nat) : Nat → Array Bool → Act → World → Prop
  | 0, listed, a, w => Region.ready md ops listed = [] ∧ Q .normal a w
  | fuel + 1, listed, a, w =>
    (Region.ready md ops listed = [] → Q .normal a w) ∧
    ∀ i ∈ Region.ready md ops listed, wpOp P ops Q i (fun a' w' => (i ≠ z → S w') ∧ wpAnyL P md ops Q S z fuel (listed.setIfInBounds i true) a' w') a w
theorem wpAny_of_L : ∀ (fuel : Nat) (listed : Array Bool) (a : Act) (w : World), wpAnyL P md ops Q S z fuel listed a w → wpAny P md ops Q fuel listed a w
  | 0, _, _, _, h => h
  | fuel + 1, _, _, _, h => ⟨h.1, fun i hi => wpOp_mono (fun a' w' h' => wpAny_of_L fuel _ a' w' h'.2) (h.2 i hi)⟩
theorem wpAnyL_first {i : Nat} {oi oz : Oper} {v : Value} (hi : ops[i]? = some oi) (hsel : ∀ (j : Nat) (o : Oper) cs b, ops[j]? = some o → o.op ≠ .select cs b)
    (hz : ops[z]? = some oz) (hzi : ∃ e ∈ oz.after, Region.binds md e = true ∧ e.on = i)
    (hQ : ∀ c a w, Q (.panic c) (a.put oi.dst v) w → Q (.panic c) a w) :
    ∀ (fuel : Nat) (listed : Array Bool) (a : Act) (w : World),
      (∀ j oj, ops[j]? = some oj → j ≠ i → listed.getD j true = false → (∀ e ∈ oj.after, Region.binds md e = true → e.on ≠ i) → oi.apart ops oj = true) →
      i ∈ Region.ready md ops listed → YieldsIf P ops S oi v a → S w →
      wpAnyL P md ops Q S z fuel (listed.setIfInBounds i true) (a.put oi.dst v) w → wpAnyL P md ops Q S z (fuel + 1) listed a w := by
  intro fuel
  induction fuel with
  | zero =>
    intro listed a w _ hr hy hS H
    refine ⟨fun h => (by rw [h] at hr; cases hr), fun j hj => ?_⟩
    by_cases hji : j = i
    · subst hji; exact hy.wpOp hi hS ⟨fun _ => hS, H⟩
    · have := ready_mono hj hji
      rw [H.1] at this
      cases this
  | succ fuel ih =>
    intro listed a w hfree hr hy hS H
    refine ⟨fun h => (by rw [h] at hr; cases hr), fun j hj => ?_⟩
    by_cases hji : j = i
    · subst hji; exact hy.wpOp hi hS ⟨fun _ => hS, H⟩
    · have h1 := H.2 j (ready_mono hj hji)
      obtain ⟨hjun, oj, hoj, hall⟩ := mem_ready.1 hj
      have hnot : ∀ e ∈ oj.after, Region.binds md e = true → e.on ≠ i := fun e he hb heq => by
        have h1 := hall e he hb
        have h0 := (mem_ready.1 hr).1
        rw [heq] at h1
        rcases Nat.lt_or_ge i listed.size with h' | h'
        · simp [h'] at h0 h1; rw [h0] at h1; cases h1
        · simp [Array.getElem?_eq_none h'] at h1
      have hjz : j ≠ z := fun e => by
        subst e
        rw [hz] at hoj
        cases hoj
        obtain ⟨x, hx, hb, he⟩ := hzi
        exact hnot x hx hb he
      have h2 := wpOp_putIf hoj (hfree j oj hoj hji hjun hnot) (fun cs b => hsel i oi cs b hi) (fun cs b => hsel j oj cs b hoj) hQ hy h1
      have hfree' : ∀ k ok, ops[k]? = some ok → k ≠ i → (listed.setIfInBounds j true).getD k true = false →
          (∀ e ∈ ok.after, Region.binds md e = true → e.on ≠ i) → oi.apart ops ok = true := fun k ok hk hki hun hno => by
        refine hfree k ok hk hki ?_ hno
        by_cases hjk : j = k
        · subst hjk; exact hjun
        · rw [getD_set_ne true hjk] at hun; exact hun
      refine wpOp_mono (fun a' w' h3 => ⟨h3.2.1, ih (listed.setIfInBounds j true) a' w' hfree' (ready_mono hr (Ne.symm hji)) h3.1 (h3.2.1 hjz) ?_⟩) h2
      rw [Array.setIfInBounds_comm _ _ hji]
      exact h3.2.2
theorem wpAnyL_take {i : Nat} {oi oz : Oper} {v : Value} {fuel : Nat} {listed : Array Bool} {a : Act} {w : World} (hi : ops[i]? = some oi) (hz : ops[z]? = some oz) (hzi : (oz.after.any fun e => Region.binds md e && e.on == i) = true)
    (hs : Region.noSelect ops = true) (hf : Region.free md ops listed i = true) (hr : (Region.ready md ops listed).contains i = true)
    (hQ : ∀ c a w, Q (.panic c) (a.put oi.dst v) w → Q (.panic c) a w) (hy : YieldsIf P ops S oi v a) (hS : S w)
    (h : wpAnyL P md ops Q S z fuel (listed.setIfInBounds i true) (a.put oi.dst v) w) : wpAnyL P md ops Q S z (fuel + 1) listed a w := by
  refine wpAnyL_first hi (Region.noSelect_spec hs) hz ?_ hQ fuel listed a w (Region.free_spec hi hf) (by simpa using hr) hy hS h
  rw [Array.any_eq_true] at hzi
  obtain ⟨k, hk, e⟩ := hzi
  rw [Bool.and_eq_true, beq_iff_eq] at e
  exact ⟨_, Array.getElem_mem hk, e.1, e.2⟩
theorem wpAnyL_done {listed : Array Bool} {a : Act} {w : World} (hr : Region.ready md ops listed = []) (h : Q .normal a w) :
    ∀ fuel, wpAnyL P md ops Q S z fuel listed a w
  | 0 => ⟨hr, h⟩
  | _ + 1 => ⟨fun _ => h, by rw [hr]; simp⟩
/-- The one that may come up. -/
theorem wpAnyL_one {i : Nat} {o : Oper} {fuel : Nat} {listed : Array Bool} {a : Act} {w : World} (hr : Region.ready md ops listed = [i]) (ho : ops[i]? = some o)
    (h : ∀ K' : Act → World → Prop, Shut (∀ a w, (i ≠ z → S w) → wpAnyL P md ops Q S z fuel (listed.setIfInBounds i true) a w → K' a w) → if Region.wanted o (yielded ops a.tmps) = true then Oper.wp P o a w K' Q else K' (a.put o.dst undef) w) : wpAnyL P md ops Q S z (fuel + 1) listed a w :=
  ⟨fun h0 => (by rw [hr] at h0; cases h0), fun j hj => by
    rw [hr, List.mem_singleton] at hj
    subst hj
    exact wpOp_step ho (fun K' hK => h K' (fun a w hS hW => hK a w ⟨hS, hW⟩))⟩
theorem wp_region_L {id : Nat} {a : Act} {w : World} (z : Nat) (hm : P.follows .mixedOrders = true) (hS : S w.drew)
    (h : S w.drew → wpAnyL P .any ops Q S z ops.size (Array.replicate ops.size false) a w.drew) : (Code.region id ops true).wp P Q a w :=
  wp_region_any hm (wpAny_of_L _ _ _ _ (h hS))
end
theorem takeL {md : Region.Mode} {ops : Array Oper} {Q : Exit → Act → World → Prop} {S : World → Prop} {z fuel : Nat} {listed : Array Bool} {a : Act} {w : World} (i d : Nat) (v : Value) {oi oz : Oper} (hi : ops[i]? = some oi) (hd : oi.dst = some d) (hz : ops[z]? = some oz) (hzi : (oz.after.any fun e => Region.binds md e && e.on == i) = true)
    (hs : Region.noSelect ops = true) (hf : Region.free md ops listed i = true) (hr : (Region.ready md ops listed).contains i = true)
    (hQ : ∀ c a w, Q (.panic c) (a.put (some d) v) w → Q (.panic c) a w) (hy : YieldsIf Try.prog ops S oi v a) (hS : S w)
    (h : wpAnyL Try.prog md ops Q S z fuel (listed.setIfInBounds i true) (a.put (some d) v) w) : wpAnyL Try.prog md ops Q S z (fuel + 1) listed a w :=
  wpAnyL_take hi hz hzi hs hf hr (by rw [hd]; exact hQ) hy hS (by rw [hd]; exact h)
end Go.Proofs.Ytoiedadfpbbdgaa
/- The contract of a builder's lay. -/
set_option linter.unusedSimpArgs false
namespace Go.Proofs.Ytoiedadfpbbdgaa
open Go.RowKit Go.Maps Go.WideMaps
theorem range_of {w : World} {b : Nat} {x0 x1 x2 x3 x4 x5 : Value} {t : TypeId} (h : w.heap[b]? = some (.cells #[x0, x1, x2, x3, x4, x5] t (0, 0))) : w.rangeAt b 0 [x0, x1, x2, x3, x4, x5] := by
  intro j u hj
  rw [Lib.cell_of_heap h, Nat.zero_add]
  simpa using hj
theorem row_form {w : World} {B : Nat} {e : TypeId} {s n : Nat} {v : Value} {xs : List Value} (h : w.ownsRow B e s v n xs) (hn : 0 < n) : ∃ a c, v = .slice a n c := by
  rcases h.2 with ⟨rfl, hz⟩ | ⟨g, cap, cur, rfl, _⟩
  · omega
  · exact ⟨_, _, rfl⟩
theorem map_set13 (ps : List PN) (t : Nat) (p q : PN) (f : Nd → Nd) (h : ps[t]? = some p) (hq : q.1 = f p.1) : (ps.set t q).map (·.1) = (ps.map (·.1)).modify t f := by
  apply List.ext_getElem?
  intro j
  rw [List.getElem?_map, List.getElem?_set, List.getElem?_modify, List.getElem?_map]
  by_cases e : t = j
  · subst e
    rw [if_pos rfl, if_pos (List.getElem?_eq_some_iff.1 h).1, h]
    simp [hq]
  · rw [if_neg e]
    simp [e]
section
variable {w : World} {T : Nat → Prop} {bb mg : Nat} {nv ov : Value} {ps : List PN} {op : List Nat} {F : List UInt8 → Option Nat}
abbrev layV (n : Nd) (aa : Option Addr) (ac : Nat) : Value := .agg #[.int .i64 n.kind, .string (str n.name), .slice aa n.attrs.length ac, .string (str n.text), .int .i64 0, .slice none 0 0]
end
end Go.Proofs.Ytoiedadfpbbdgaa
/- The contracts of a builder's closeLast and end. -/
namespace Tre
theorem shutN_yes {ns : List Nd} {op : List Nat} {names walls : List Bs} {i x : Nat} (hi : 1 ≤ i) (hx : op[i]? = some x) (h : names.contains (ndAt ns x).name = true) : shutN ns op names walls (i + 1) = i := by
  obtain ⟨k, rfl⟩ : ∃ k, i = k + 1 := ⟨i - 1, by omega⟩
  rw [shutN, hx]
  show (if names.contains (ndAt ns x).name = true then _ else _) = _
  rw [if_pos h]
theorem shutN_wall {ns : List Nd} {op : List Nat} {names walls : List Bs} {i x : Nat} (hi : 1 ≤ i) (hx : op[i]? = some x) (h : names.contains (ndAt ns x).name = false) (h2 : walls.contains (ndAt ns x).name = true) : shutN ns op names walls (i + 1) = op.length := by
  obtain ⟨k, rfl⟩ : ∃ k, i = k + 1 := ⟨i - 1, by omega⟩
  rw [shutN, hx]
  show (if names.contains (ndAt ns x).name = true then _ else if walls.contains (ndAt ns x).name = true then _ else _) = _
  rw [h, h2]
  rfl
theorem shutN_on {ns : List Nd} {op : List Nat} {names walls : List Bs} {i x : Nat} (hi : 1 ≤ i) (hx : op[i]? = some x) (h : names.contains (ndAt ns x).name = false) (h2 : walls.contains (ndAt ns x).name = false) : shutN ns op names walls (i + 1) = shutN ns op names walls i := by
  obtain ⟨k, rfl⟩ : ∃ k, i = k + 1 := ⟨i - 1, by omega⟩
  rw [shutN, hx]
  show (if names.contains (ndAt ns x).name = true then _ else if walls.contains (ndAt ns x).name = true then _ else _) = _
  rw [h, h2]
  rfl
theorem shutN_one (ns : List Nd) (op : List Nat) (names walls : List Bs) : shutN ns op names walls 1 = op.length := rfl
end Tre
namespace Go.Proofs.Ytoiedadfpbbdgaa
open Go.RowKit Go.Maps Go.WideMaps
theorem ndAt_map {ps : List PN} {j : Nat} {p : PN} (h : ps[j]? = some p) : Tre.ndAt (ps.map (·.1)) j = p.1 := by
  unfold Tre.ndAt
  rw [List.getElem?_map, h]
  rfl
section
variable {w : World} {T : Nat → Prop} {bb mg : Nat} {nv ov : Value} {ps : List PN} {op : List Nat} {F : List UInt8 → Option Nat}
theorem OwnsI.cut {w : World} {B g n c : Nat} {ks : List Int} (h : OwnsI w B (.slice (some ⟨g, 0, none⟩) n c) ks) (i : Nat) (hi : i ≤ ks.length) : OwnsI w B (.slice (some ⟨g, 0, none⟩) i c) (ks.take i) := by
  rcases h.2 with ⟨hs, hz⟩ | ⟨g2, cap, cur, hs, hb, hg, hc, hm, hcs, ht⟩
  · simp at hs
  · simp only [Value.slice.injEq, Option.some.injEq, Addr.mk.injEq, and_true] at hs
    obtain ⟨rfl, rfl, rfl⟩ := hs
    have hl : (ks.take i).length = i := by rw [List.length_take]; omega
    refine ⟨by simp [isL], .inr ⟨g, c, cur, by rw [hl], hb, hg, by rw [hl]; omega, hm, hcs, ?_⟩⟩
    rw [hl, Nat.mul_one]
    have : cur.toList.take i = (cur.toList.take ks.length).take i := by rw [List.take_take, Nat.min_eq_left hi]
    rw [this]
    rw [Nat.mul_one] at ht
    rw [ht]
    simp [isL, List.map_take]
theorem OwnsI.drewN {w : World} {B : Nat} {v : Value} {ks : List Int} (h : OwnsI w B v ks) (n : Nat) : OwnsI (w.drewN n) B v ks := h
end
end Go.Proofs.Ytoiedadfpbbdgaa
