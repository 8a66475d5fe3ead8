/- Texts laid as one. -/
import Derived.Test.YtiodaahncadodaaGreatDoorKTkIJ
import Derived.Deep.RegionHeld3
import Derived.Test.YtiodaahncadodaaGreatDoorKTreJL
import Derived.Test.YtiodaahncadodaaGreatDoorKTreAE
import Derived.Deep.RegionLaw
/- Regions that draw their order, whose last operation is a store into what they read: what holds of the cells need not hold behind that. -/
set_option linter.unusedVariables false
namespace Go.Proofs.YtiodaahncadodaaGreatDoor
open Go Go.RowKit
section
variable {P : Program} {ops : Array Oper} {Q : Exit → Act → World → Prop} {md : Region.Mode} {S : World → Prop} {z : Nat}
/-- Whatever order is picked, S holds behind every operation but number z. -/
def wpAnyL (P : Program) (md : Region.Mode) (ops : Array Oper) (Q : Exit → Act → World → Prop) (S : World → Prop) (z : Nat) : Nat → Array Bool → Act → World → Prop
  | 0, listed, a, w => Region.ready md ops listed = [] ∧ Q .normal a w
  | fuel + 1, listed, a, w =>
    (Region.ready md ops listed = [] → Q .normal a w) ∧
    ∀ i ∈ Region.ready md ops listed, wpOp P ops Q i (fun a' w' => (i ≠ z → S w') ∧ wpAnyL P md ops Q S z fuel (listed.setIfInBounds i true) a' w') a w
theorem wpAny_of_L : ∀ (fuel : Nat) (listed : Array Bool) (a : Act) (w : World), wpAnyL P md ops Q S z fuel listed a w → wpAny P md ops Q fuel listed a w
  | 0, _, _, _, h => h
  | fuel + 1, _, _, _, h => ⟨h.1, fun i hi => wpOp_mono (fun a' w' h' => wpAny_of_L fuel _ a' w' h'.2) (h.2 i hi)⟩
theorem wpAnyL_first {i : Nat} {oi oz : Oper} {v : Value} (hi : ops[i]? = some oi) (hsel : ∀ (j : Nat) (o : Oper) cs b, ops[j]? = some o → o.op ≠ .select cs b)
    (hz : ops[z]? = some oz) (hzi : ∃ e ∈ oz.after, Region.binds md e = true ∧ e.on = i)
    (hQ : ∀ c a w, Q (.panic c) (a.put oi.dst v) w → Q (.panic c) a w) :
    ∀ (fuel : Nat) (listed : Array Bool) (a : Act) (w : World),
      (∀ j oj, ops[j]? = some oj → j ≠ i → listed.getD j true = false → (∀ e ∈ oj.after, Region.binds md e = true → e.on ≠ i) → oi.apart ops oj = true) →
      i ∈ Region.ready md ops listed → YieldsIf P ops S oi v a → S w →
      wpAnyL P md ops Q S z fuel (listed.setIfInBounds i true) (a.put oi.dst v) w → wpAnyL P md ops Q S z (fuel + 1) listed a w := by
  intro fuel
  induction fuel with
  | zero =>
    intro listed a w _ hr hy hS H
    refine ⟨fun h => (by rw [h] at hr; cases hr), fun j hj => ?_⟩
    by_cases hji : j = i
    · subst hji; exact hy.wpOp hi hS ⟨fun _ => hS, H⟩
    · have := ready_mono hj hji
      rw [H.1] at this
      cases this
  | succ fuel ih =>
    intro listed a w hfree hr hy hS H
    refine ⟨fun h => (by rw [h] at hr; cases hr), fun j hj => ?_⟩
    by_cases hji : j = i
    · subst hji; exact hy.wpOp hi hS ⟨fun _ => hS, H⟩
    · have h1 := H.2 j (ready_mono hj hji)
      obtain ⟨hjun, oj, hoj, hall⟩ := mem_ready.1 hj
      have hnot : ∀ e ∈ oj.after, Region.binds md e = true → e.on ≠ i := fun e he hb heq => by
        have h1 := hall e he hb
        have h0 := (mem_ready.1 hr).1
        rw [heq] at h1
        rcases Nat.lt_or_ge i listed.size with h' | h'
        · simp [h'] at h0 h1; rw [h0] at h1; cases h1
        · simp [Array.getElem?_eq_none h'] at h1
      have hjz : j ≠ z := fun e => by
        subst e
        rw [hz] at hoj
        cases hoj
        obtain ⟨x, hx, hb, he⟩ := hzi
        exact hnot x hx hb he
      have h2 := wpOp_putIf hoj (hfree j oj hoj hji hjun hnot) (fun cs b => hsel i oi cs b hi) (fun cs b => hsel j oj cs b hoj) hQ hy h1
      have hfree' : ∀ k ok, ops[k]? = some ok → k ≠ i → (listed.setIfInBounds j true).getD k true = false →
          (∀ e ∈ ok.after, Region.binds md e = true → e.on ≠ i) → oi.apart ops ok = true := fun k ok hk hki hun hno => by
        refine hfree k ok hk hki ?_ hno
        by_cases hjk : j = k
        · subst hjk; exact hjun
        · rw [getD_set_ne true hjk] at hun; exact hun
      refine wpOp_mono (fun a' w' h3 => ⟨h3.2.1, ih (listed.setIfInBounds j true) a' w' hfree' (ready_mono hr (Ne.symm hji)) h3.1 (h3.2.1 hjz) ?_⟩) h2
      rw [Array.setIfInBounds_comm _ _ hji]
      exact h3.2.2
theorem wpAnyL_take {i : Nat} {oi oz : Oper} {v : Value} {fuel : Nat} {listed : Array Bool} {a : Act} {w : World} (hi : ops[i]? = some oi) (hz : ops[z]? = some oz) (hzi : (oz.after.any fun e => Region.binds md e && e.on == i) = true)
    (hs : Region.noSelect ops = true) (hf : Region.free md ops listed i = true) (hr : (Region.ready md ops listed).contains i = true)
    (hQ : ∀ c a w, Q (.panic c) (a.put oi.dst v) w → Q (.panic c) a w) (hy : YieldsIf P ops S oi v a) (hS : S w)
    (h : wpAnyL P md ops Q S z fuel (listed.setIfInBounds i true) (a.put oi.dst v) w) : wpAnyL P md ops Q S z (fuel + 1) listed a w := by
  refine wpAnyL_first hi (Region.noSelect_spec hs) hz ?_ hQ fuel listed a w (Region.free_spec hi hf) (by simpa using hr) hy hS h
  rw [Array.any_eq_true] at hzi
  obtain ⟨k, hk, e⟩ := hzi
  rw [Bool.and_eq_true, beq_iff_eq] at e
  exact ⟨_, Array.getElem_mem hk, e.1, e.2⟩
theorem wpAnyL_done {listed : Array Bool} {a : Act} {w : World} (hr : Region.ready md ops listed = []) (h : Q .normal a w) :
    ∀ fuel, wpAnyL P md ops Q S z fuel listed a w
  | 0 => ⟨hr, h⟩
  | _ + 1 => ⟨fun _ => h, by rw [hr]; simp⟩
/-- The one that may come up. -/
theorem wpAnyL_one {i : Nat} {o : Oper} {fuel : Nat} {listed : Array Bool} {a : Act} {w : World} (hr : Region.ready md ops listed = [i]) (ho : ops[i]? = some o)
    (h : ∀ K' : Act → World → Prop, Shut (∀ a w, (i ≠ z → S w) → wpAnyL P md ops Q S z fuel (listed.setIfInBounds i true) a w → K' a w) → if Region.wanted o (yielded ops a.tmps) = true then Oper.wp P o a w K' Q else K' (a.put o.dst undef) w) : wpAnyL P md ops Q S z (fuel + 1) listed a w :=
  ⟨fun h0 => (by rw [hr] at h0; cases h0), fun j hj => by
    rw [hr, List.mem_singleton] at hj
    subst hj
    exact wpOp_step ho (fun K' hK => h K' (fun a w hS hW => hK a w ⟨hS, hW⟩))⟩
theorem wp_region_L {id : Nat} {a : Act} {w : World} (z : Nat) (hm : P.follows .mixedOrders = true) (hS : S w.drew)
    (h : S w.drew → wpAnyL P .any ops Q S z ops.size (Array.replicate ops.size false) a w.drew) : (Code.region id ops true).wp P Q a w :=
  wp_region_any hm (wpAny_of_L _ _ _ _ (h hS))
end
theorem takeL {md : Region.Mode} {ops : Array Oper} {Q : Exit → Act → World → Prop} {S : World → Prop} {z fuel : Nat} {listed : Array Bool} {a : Act} {w : World} (i d : Nat) (v : Value) {oi oz : Oper} (hi : ops[i]? = some oi) (hd : oi.dst = some d) (hz : ops[z]? = some oz) (hzi : (oz.after.any fun e => Region.binds md e && e.on == i) = true)
    (hs : Region.noSelect ops = true) (hf : Region.free md ops listed i = true) (hr : (Region.ready md ops listed).contains i = true)
    (hQ : ∀ c a w, Q (.panic c) (a.put (some d) v) w → Q (.panic c) a w) (hy : YieldsIf Tryz.prog ops S oi v a) (hS : S w)
    (h : wpAnyL Tryz.prog md ops Q S z fuel (listed.setIfInBounds i true) (a.put (some d) v) w) : wpAnyL Tryz.prog md ops Q S z (fuel + 1) listed a w :=
  wpAnyL_take hi hz hzi hs hf hr (by rw [hd]; exact hQ) hy hS (by rw [hd]; exact h)
end Go.Proofs.YtiodaahncadodaaGreatDoor
/- The contract of a builder's lay. -/
set_option linter.unusedSimpArgs false
namespace Go.Proofs.YtiodaahncadodaaGreatDoor
open Go.RowKit Go.Maps Go.WideMaps
/-- What a step leaves of the builder. -/
def BPost (T : Nat → Prop) (bb mg : Nat) (w : World) (b : Tre.St) (F : List UInt8 → Option Nat) (w' : World) : Prop :=
  ∃ T' nv ov ps, BAt w' T' bb mg nv ov ps b.opn F ∧ ps.map (·.1) = b.nodes ∧ OwnT T w w' ∧ ∀ k, T' k → T k ∨ w.heap.size ≤ k
theorem range_of {w : World} {b : Nat} {x0 x1 x2 x3 x4 x5 : Value} {t : TypeId} (h : w.heap[b]? = some (.cells #[x0, x1, x2, x3, x4, x5] t (0, 0))) : w.rangeAt b 0 [x0, x1, x2, x3, x4, x5] := by
  intro j u hj
  rw [Lib.cell_of_heap h, Nat.zero_add]
  simpa using hj
theorem row_form {w : World} {B : Nat} {e : TypeId} {s n : Nat} {v : Value} {xs : List Value} (h : w.ownsRow B e s v n xs) (hn : 0 < n) : ∃ a c, v = .slice a n c := by
  rcases h.2 with ⟨rfl, hz⟩ | ⟨g, cap, cur, rfl, _⟩
  · omega
  · exact ⟨_, _, rfl⟩
theorem map_set13 (ps : List PN) (t : Nat) (p q : PN) (f : Nd → Nd) (h : ps[t]? = some p) (hq : q.1 = f p.1) : (ps.set t q).map (·.1) = (ps.map (·.1)).modify t f := by
  apply List.ext_getElem?
  intro j
  rw [List.getElem?_map, List.getElem?_set, List.getElem?_modify, List.getElem?_map]
  by_cases e : t = j
  · subst e
    rw [if_pos rfl, if_pos (List.getElem?_eq_some_iff.1 h).1, h]
    simp [hq]
  · rw [if_neg e]
    simp [e]
section
variable {w : World} {T : Nat → Prop} {bb mg : Nat} {nv ov : Value} {ps : List PN} {op : List Nat} {F : List UInt8 → Option Nat}
abbrev layV (n : Nd) (aa : Option Addr) (ac : Nat) : Value := .agg #[.int .i64 n.kind, .string (str n.name), .slice aa n.attrs.length ac, .string (str n.text), .int .i64 0, .slice none 0 0]
set_option maxHeartbeats 1000000 in
set_option maxRecDepth 100000 in
theorem lay_many (h : BAt w T bb mg nv ov ps op F) (hps : ps.length = 4096) (n : Nd) (aa : Option Addr) (ac : Nat) :
    Calls Tryz.prog 96 #[.pointer (some ⟨bb, 0, none⟩), layV n aa ac] w fun e w' => e = .returned (.int .i64 5) ∧ Below w.heap.size w w' := by
  obtain ⟨k, nm, ats, tx, up, ks⟩ := n
  obtain ⟨g, c, rfl, hc⟩ := h.nform (by omega)
  have hb0 : Below w.heap.size w (w.alloc (.cells #[.int .i64 k, .string (str nm), .slice aa ats.length ac, .string (str tx), .int .i64 0, .slice none 0 0] 43)) := (Below.refl _ w).alloc (Nat.le_refl _) _
  have c0 : (w.alloc (.cells #[.int .i64 k, .string (str nm), .slice aa ats.length ac, .string (str tx), .int .i64 0, .slice none 0 0] 43)).cell? ⟨bb, 0, none⟩ = some (.slice (some ⟨g, 0, none⟩) ps.length c) := Lib.cell_of_heap (h.below hb0).blk 0
  have q : ((ps.length : Int) == 4096) = true := by rw [hps]; rfl
  clear h hps
  go_enter Tryz.func96, Tryz.ntmps96
  go_wp2
  go_ret
  exact ⟨rfl, hb0⟩
set_option maxHeartbeats 1000000 in
set_option maxRecDepth 100000 in
theorem lay_deep (h : BAt w T bb mg nv ov ps op F) (hps : ps.length < 4096) (hp1 : 1 ≤ ps.length) (hop : 64 < op.length) (n : Nd) (aa : Option Addr) (ac : Nat) :
    Calls Tryz.prog 96 #[.pointer (some ⟨bb, 0, none⟩), layV n aa ac] w fun e w' => e = .returned (.int .i64 8) ∧ Below w.heap.size w w' := by
  obtain ⟨k, nm, ats, tx, up, ks⟩ := n
  obtain ⟨g, c, rfl, hc⟩ := h.nform (by omega)
  obtain ⟨go, co, rfl, hco, _⟩ := h.oform (by omega)
  have hb0 : Below w.heap.size w (w.alloc (.cells #[.int .i64 k, .string (str nm), .slice aa ats.length ac, .string (str tx), .int .i64 0, .slice none 0 0] 43)) := (Below.refl _ w).alloc (Nat.le_refl _) _
  have c0 : (w.alloc (.cells #[.int .i64 k, .string (str nm), .slice aa ats.length ac, .string (str tx), .int .i64 0, .slice none 0 0] 43)).cell? ⟨bb, 0, none⟩ = some (.slice (some ⟨g, 0, none⟩) ps.length c) := Lib.cell_of_heap (h.below hb0).blk 0
  have c1 : (w.alloc (.cells #[.int .i64 k, .string (str nm), .slice aa ats.length ac, .string (str tx), .int .i64 0, .slice none 0 0] 43)).cell? ⟨bb, 1, none⟩ = some (.slice (some ⟨go, 0, none⟩) op.length co) := Lib.cell_of_heap (h.below hb0).blk 1
  have q : ((ps.length : Int) == 4096) = false := by rw [beq_eq_false_iff_ne]; omega
  have q2 : (64 : Int) < (op.length : Int) := by omega
  clear h hps hop
  go_enter Tryz.func96, Tryz.ntmps96
  go_wp2
  go_ret
  exact ⟨rfl, hb0⟩
set_option maxHeartbeats 4000000 in
set_option maxRecDepth 100000 in
theorem lay_ok (h : BAt w T bb mg nv ov ps op F) (hps : ps.length < 4096) (hop : op.length ≤ 64) (hop1 : 1 ≤ op.length) (htop : op.getLastD 0 < ps.length) (n : Nd) (hnk : n.kids = []) (aa : Option Addr) (ac : Nat) (hkl : ∀ (i : Nat) (p : PN), ps[i]? = some p → p.1.kids.length ≤ 4096)
    (hva : OwnsA w 0 (.slice aa n.attrs.length ac) n.attrs) (hvo : ∀ k, (Value.slice aa n.attrs.length ac).ownBlock = some k → T k ∧ k ≠ bb ∧ k ≠ mg) (hvap : ∀ x ∈ slotsB nv ov ps, ApK x (.slice aa n.attrs.length ac)) :
    Calls Tryz.prog 96 #[.pointer (some ⟨bb, 0, none⟩), layV n aa ac] w fun e w' => e = .returned (.int .i64 0) ∧ BPost T bb mg w ⟨(ps.map (·.1)).modify (op.getLastD 0) (fun m => { m with kids := m.kids ++ [(ps.length : Int)] }) ++ [{ n with up := ((op.getLastD 0 : Nat) : Int) }], op⟩ F w' := by
  obtain ⟨g, c, rfl, hc⟩ := h.nform (by omega)
  obtain ⟨go, co, rfl, hco, _⟩ := h.oform hop1
  have hb0 : Below w.heap.size w (w.alloc (.cells #[.int .i64 n.kind, .string (str n.name), .slice aa n.attrs.length ac, .string (str n.text), .int .i64 0, .slice none 0 0] 43)) := (Below.refl _ w).alloc (Nat.le_refl _) _
  have hnn := heap_new w (.cells #[.int .i64 n.kind, .string (str n.name), .slice aa n.attrs.length ac, .string (str n.text), .int .i64 0, .slice none 0 0] 43)
  have h0 := h.below hb0
  have c0 : (w.alloc (.cells #[.int .i64 n.kind, .string (str n.name), .slice aa n.attrs.length ac, .string (str n.text), .int .i64 0, .slice none 0 0] 43)).cell? ⟨bb, 0, none⟩ = some (.slice (some ⟨g, 0, none⟩) ps.length c) := Lib.cell_of_heap h0.blk 0
  have c1 : (w.alloc (.cells #[.int .i64 n.kind, .string (str n.name), .slice aa n.attrs.length ac, .string (str n.text), .int .i64 0, .slice none 0 0] 43)).cell? ⟨bb, 1, none⟩ = some (.slice (some ⟨go, 0, none⟩) op.length co) := Lib.cell_of_heap h0.blk 1
  have q : ((ps.length : Int) == 4096) = false := by rw [beq_eq_false_iff_ne]; omega
  have q2 : ¬ (64 : Int) < (op.length : Int) := by omega
  have HL := hideT (last_any h0 hop1 (by omega))
  have HLow := hideT h.low
  have HVA := hideT (OwnsPairs.below hva hb0)
  have HVO := hideT hvo
  have HVP := hideT hvap
  have hwb : bb < w.heap.size := h.low _ h.tb
  obtain ⟨p0, hp0⟩ : ∃ p, ps[op.getLastD 0]? = some p := ⟨_, List.getElem?_eq_getElem htop⟩
  have hkl0 := hkl _ _ hp0
  have hnT : ¬ T w.heap.size := fun hT => by have := h.low _ hT; omega
  have H0 := hideT h0
  have HNN := hideT hnn
  have HB0 := hideT hb0
  have hs0 : (w.alloc (.cells #[.int .i64 n.kind, .string (str n.name), .slice aa n.attrs.length ac, .string (str n.text), .int .i64 0, .slice none 0 0] 43)).heap.size = w.heap.size + 1 := by simp
  clear h h0 hnn hva hvo hvap hkl hop hb0
  generalize ht : op.getLastD 0 = t at *
  have HTT := hideT ht
  clear ht
  obtain ⟨W0, hW0⟩ : ∃ W, w.alloc (.cells #[.int .i64 n.kind, .string (str n.name), .slice aa n.attrs.length ac, .string (str n.text), .int .i64 0, .slice none 0 0] 43) = W := ⟨_, rfl⟩
  rw [hW0] at c0 c1 HL HVA H0 HNN HB0 hs0
  have HW0 := hideT hW0
  clear hW0
  have cn4 : W0.cell? ⟨w.heap.size, 4, none⟩ = some (.int .i64 0) := Lib.cell_of_heap HNN.out 4
  have fn4 : W0.frozen? ⟨w.heap.size, 4, none⟩ = false := Lib.frozen_of_heap HNN.out 4
  go_enter Tryz.func96, Tryz.ntmps96
  go_upto_region 1 with fail
  rw [HW0.out]
  go_upto_region 6 with (first
    | (go_at_call 97; refine HL.out.mono ?_; rintro e w1 ⟨rfl, n1, rfl⟩))
  obtain ⟨n0, va0, vk0⟩ := p0
  simp only at hkl0
  obtain ⟨ka, kc, e0⟩ := (OwnsI.reads (H0.out.kds t _ hp0)).form
  simp only at e0
  subst e0
  obtain ⟨W1, hW1⟩ : ∃ W, (W0.drewN n1).setCell ⟨w.heap.size, 4, none⟩ (.int .i64 (t : Int)) = W := ⟨_, rfl⟩
  have hbW1 : Below w.heap.size w W1 := by
    rw [← hW1]
    exact (HB0.out.trans ((bel_quiet ⟨n1, rfl⟩).mono HB0.out.size)).setCell (Nat.le_refl _) _
  have hBW1 : BAt W1 T bb mg (.slice (some ⟨g, 0, none⟩) ps.length c) (.slice (some ⟨go, 0, none⟩) op.length co) ps op F := by
    rw [← hW1]
    refine (H0.out.below (bel_quiet ⟨n1, rfl⟩)).keep (by simp [World.setCell]) (fun k _ hT => Below.heap_setCell _ _ _ _ (fun e => hnT (by rw [← show k = w.heap.size from e]; exact hT)))
  have hNW1 : W1.heap[w.heap.size]? = some (.cells #[.int .i64 n.kind, .string (str n.name), .slice aa n.attrs.length ac, .string (str n.text), .int .i64 (t : Int), .slice none 0 0] 43 (0, 0)) := by
    rw [← hW1]
    have := heap_set13 (w := W0.drewN n1) (i := 4) HNN.out (.int .i64 (t : Int))
    exact this
  have hVW1 : OwnsA W1 0 (.slice aa n.attrs.length ac) n.attrs := by
    rw [← hW1]
    refine row_keepK (OwnsPairs.below HVA.out (bel_quiet ⟨n1, rfl⟩)) (fun k e _ => Below.heap_setCell _ _ _ _ (fun e2 => hnT (by rw [← show k = w.heap.size from e2]; exact (HVO.out k e).1)))
  have hsW1 : W1.heap.size = w.heap.size + 1 := by
    rw [← hW1, setCell_size13]
    exact hs0
  rw [hW1]
  obtain ⟨nb, hnb⟩ : ∃ nb, w.heap.size = nb := ⟨_, rfl⟩
  have HNB := hideT hnb
  rw [hnb] at hNW1 hnT hsW1 ⊢
  clear hW1 HNN HL H0 HVA HB0 cn4 fn4 c0 c1 hs0 HW0 hnb
  obtain ⟨S, hS1⟩ : ∃ S : World → Prop, ∀ W, S W ↔ (W.cell? ⟨bb, 0, none⟩ = some (.slice (some ⟨g, 0, none⟩) ps.length c) ∧ W.cell? ⟨nb, 4, none⟩ = some (.int .i64 (t : Int)) ∧ W.cell? ⟨g, t * 6 + 5, none⟩ = some (.slice ka n0.kids.length kc) ∧ W.frozen? ⟨g, t * 6 + 5, none⟩ = false) := ⟨_, fun _ => Iff.rfl⟩
  have hSW1 : S W1.drew := (hS1 _).2 ⟨Lib.cell_of_heap hBW1.blk 0, Lib.cell_of_heap hNW1 4, (hBW1.cell hp0 (i := 5) rfl).1, (hBW1.cell hp0 (i := 5) rfl).2⟩
  have hBX : BAt W1.drew T bb mg (.slice (some ⟨g, 0, none⟩) ps.length c) (.slice (some ⟨go, 0, none⟩) op.length co) ps op F := hBW1.below (Below.refl _ _).drew
  have hNX : W1.drew.heap[nb]? = some (.cells #[.int .i64 n.kind, .string (str n.name), .slice aa n.attrs.length ac, .string (str n.text), .int .i64 (t : Int), .slice none 0 0] 43 (0, 0)) := hNW1
  have hVX : OwnsA W1.drew 0 (.slice aa n.attrs.length ac) n.attrs := hVW1
  have hbX : Below w.heap.size w W1.drew := hbW1.trans (Below.refl _ _).drew
  have hsX : W1.drew.heap.size = nb + 1 := hsW1
  refine wp_region_L (S := S) 24 (by kernel_rfl) hSW1 (fun hS => ?_)
  generalize W1.drew = X at *
  have hkl : n0.kids.length ≤ 10000000 := by omega
  refine takeL 0 20 (.pointer (some ⟨bb, 0, none⟩)) rfl rfl rfl (by kernel_rfl) (by kernel_rfl) (by kernel_rfl) (by kernel_rfl) (fun _ _ _ h => h) (Or.inl ⟨by kernel_rfl, fun W _ => by go_simp⟩) hS ?_
  simp only [Act.put, List.setIfInBounds_toArray, List.set_cons_zero, List.set_cons_succ]
  refine takeL 1 21 (.pointer (some ⟨bb, 0, none⟩)) rfl rfl rfl (by kernel_rfl) (by kernel_rfl) (by kernel_rfl) (by kernel_rfl) (fun _ _ _ h => h) (Or.inl ⟨by kernel_rfl, fun W _ => by go_simp⟩) hS ?_
  simp only [Act.put, List.setIfInBounds_toArray, List.set_cons_zero, List.set_cons_succ]
  refine takeL 2 22 (.pointer (some ⟨bb, 0, none⟩)) rfl rfl rfl (by kernel_rfl) (by kernel_rfl) (by kernel_rfl) (by kernel_rfl) (fun _ _ _ h => h) (Or.inl ⟨by kernel_rfl, fun W _ => by go_simp⟩) hS ?_
  simp only [Act.put, List.setIfInBounds_toArray, List.set_cons_zero, List.set_cons_succ]
  refine takeL 3 23 ((.slice (some ⟨g, 0, none⟩) ps.length c)) rfl rfl rfl (by kernel_rfl) (by kernel_rfl) (by kernel_rfl) (by kernel_rfl) (fun _ _ _ h => h) (Or.inl ⟨by kernel_rfl, fun W hW => by have hc := (((hS1 W).1 hW).1); go_simp⟩) hS ?_
  simp only [Act.put, List.setIfInBounds_toArray, List.set_cons_zero, List.set_cons_succ]
  refine takeL 4 24 (.pointer (some ⟨nb, 4, none⟩)) rfl rfl rfl (by kernel_rfl) (by kernel_rfl) (by kernel_rfl) (by kernel_rfl) (fun _ _ _ h => h) (Or.inl ⟨by kernel_rfl, fun W _ => by go_simp⟩) hS ?_
  simp only [Act.put, List.setIfInBounds_toArray, List.set_cons_zero, List.set_cons_succ]
  refine takeL 5 25 (.int .i64 (t : Int)) rfl rfl rfl (by kernel_rfl) (by kernel_rfl) (by kernel_rfl) (by kernel_rfl) (fun _ _ _ h => h) (Or.inl ⟨by kernel_rfl, fun W hW => by have hc := (((hS1 W).1 hW).2.1); go_simp⟩) hS ?_
  simp only [Act.put, List.setIfInBounds_toArray, List.set_cons_zero, List.set_cons_succ]
  refine takeL 6 26 (.pointer (some ⟨bb, 0, none⟩)) rfl rfl rfl (by kernel_rfl) (by kernel_rfl) (by kernel_rfl) (by kernel_rfl) (fun _ _ _ h => h) (Or.inl ⟨by kernel_rfl, fun W _ => by go_simp⟩) hS ?_
  simp only [Act.put, List.setIfInBounds_toArray, List.set_cons_zero, List.set_cons_succ]
  refine takeL 7 27 (.pointer (some ⟨bb, 0, none⟩)) rfl rfl rfl (by kernel_rfl) (by kernel_rfl) (by kernel_rfl) (by kernel_rfl) (fun _ _ _ h => h) (Or.inl ⟨by kernel_rfl, fun W _ => by go_simp⟩) hS ?_
  simp only [Act.put, List.setIfInBounds_toArray, List.set_cons_zero, List.set_cons_succ]
  refine takeL 8 28 (.pointer (some ⟨bb, 0, none⟩)) rfl rfl rfl (by kernel_rfl) (by kernel_rfl) (by kernel_rfl) (by kernel_rfl) (fun _ _ _ h => h) (Or.inl ⟨by kernel_rfl, fun W _ => by go_simp⟩) hS ?_
  simp only [Act.put, List.setIfInBounds_toArray, List.set_cons_zero, List.set_cons_succ]
  refine takeL 9 29 ((.slice (some ⟨g, 0, none⟩) ps.length c)) rfl rfl rfl (by kernel_rfl) (by kernel_rfl) (by kernel_rfl) (by kernel_rfl) (fun _ _ _ h => h) (Or.inl ⟨by kernel_rfl, fun W hW => by have hc := (((hS1 W).1 hW).1); go_simp⟩) hS ?_
  simp only [Act.put, List.setIfInBounds_toArray, List.set_cons_zero, List.set_cons_succ]
  refine takeL 10 30 (.pointer (some ⟨nb, 4, none⟩)) rfl rfl rfl (by kernel_rfl) (by kernel_rfl) (by kernel_rfl) (by kernel_rfl) (fun _ _ _ h => h) (Or.inl ⟨by kernel_rfl, fun W _ => by go_simp⟩) hS ?_
  simp only [Act.put, List.setIfInBounds_toArray, List.set_cons_zero, List.set_cons_succ]
  refine takeL 11 31 (.int .i64 (t : Int)) rfl rfl rfl (by kernel_rfl) (by kernel_rfl) (by kernel_rfl) (by kernel_rfl) (fun _ _ _ h => h) (Or.inl ⟨by kernel_rfl, fun W hW => by have hc := (((hS1 W).1 hW).2.1); go_simp⟩) hS ?_
  simp only [Act.put, List.setIfInBounds_toArray, List.set_cons_zero, List.set_cons_succ]
  refine takeL 12 32 (.pointer (some ⟨g, t * 6, none⟩)) rfl rfl rfl (by kernel_rfl) (by kernel_rfl) (by kernel_rfl) (by kernel_rfl) (fun _ _ _ h => h) (Or.inl ⟨by kernel_rfl, fun W _ => by go_simp⟩) hS ?_
  simp only [Act.put, List.setIfInBounds_toArray, List.set_cons_zero, List.set_cons_succ]
  refine takeL 13 33 (.pointer (some ⟨g, t * 6 + 5, none⟩)) rfl rfl rfl (by kernel_rfl) (by kernel_rfl) (by kernel_rfl) (by kernel_rfl) (fun _ _ _ h => h) (Or.inl ⟨by kernel_rfl, fun W _ => by go_simp⟩) hS ?_
  simp only [Act.put, List.setIfInBounds_toArray, List.set_cons_zero, List.set_cons_succ]
  refine takeL 14 34 (.slice ka n0.kids.length kc) rfl rfl rfl (by kernel_rfl) (by kernel_rfl) (by kernel_rfl) (by kernel_rfl) (fun _ _ _ h => h) (Or.inl ⟨by kernel_rfl, fun W hW => by have hc := (((hS1 W).1 hW).2.2.1); go_simp⟩) hS ?_
  simp only [Act.put, List.setIfInBounds_toArray, List.set_cons_zero, List.set_cons_succ]
  refine takeL 15 35 (.pointer (some ⟨bb, 0, none⟩)) rfl rfl rfl (by kernel_rfl) (by kernel_rfl) (by kernel_rfl) (by kernel_rfl) (fun _ _ _ h => h) (Or.inl ⟨by kernel_rfl, fun W _ => by go_simp⟩) hS ?_
  simp only [Act.put, List.setIfInBounds_toArray, List.set_cons_zero, List.set_cons_succ]
  refine takeL 16 36 (.pointer (some ⟨bb, 0, none⟩)) rfl rfl rfl (by kernel_rfl) (by kernel_rfl) (by kernel_rfl) (by kernel_rfl) (fun _ _ _ h => h) (Or.inl ⟨by kernel_rfl, fun W _ => by go_simp⟩) hS ?_
  simp only [Act.put, List.setIfInBounds_toArray, List.set_cons_zero, List.set_cons_succ]
  refine takeL 17 37 (.pointer (some ⟨bb, 0, none⟩)) rfl rfl rfl (by kernel_rfl) (by kernel_rfl) (by kernel_rfl) (by kernel_rfl) (fun _ _ _ h => h) (Or.inl ⟨by kernel_rfl, fun W _ => by go_simp⟩) hS ?_
  simp only [Act.put, List.setIfInBounds_toArray, List.set_cons_zero, List.set_cons_succ]
  refine takeL 18 38 ((.slice (some ⟨g, 0, none⟩) ps.length c)) rfl rfl rfl (by kernel_rfl) (by kernel_rfl) (by kernel_rfl) (by kernel_rfl) (fun _ _ _ h => h) (Or.inl ⟨by kernel_rfl, fun W hW => by have hc := (((hS1 W).1 hW).1); go_simp⟩) hS ?_
  simp only [Act.put, List.setIfInBounds_toArray, List.set_cons_zero, List.set_cons_succ]
  refine takeL 19 39 (.int .i64 (ps.length : Int)) rfl rfl rfl (by kernel_rfl) (by kernel_rfl) (by kernel_rfl) (by kernel_rfl) (fun _ _ _ h => h) (Or.inl ⟨by kernel_rfl, fun W _ => by go_simp⟩) hS ?_
  simp only [Act.put, List.setIfInBounds_toArray, List.set_cons_zero, List.set_cons_succ]
  refine wpAnyL_one (i := 20) (by kernel_rfl) rfl (fun K hK => ?_)
  go_simp
  have hbA : Below X.heap.size X (X.alloc (.cells #[.int .i64 (ps.length : Int)] 3)) := (Below.refl _ _).alloc (Nat.le_refl _) _
  have hBY := hBX.below hbA
  have hNY := (hbA.block nb (by omega)).trans hNX
  have cA := Lib.cell_of_heap (heap_new X (.cells #[.int .i64 (ps.length : Int)] 3)) 0
  rw [hsX] at cA
  have hbY := hbX.trans (hbA.mono hbX.size)
  have hkX : ∀ k, k < X.heap.size → (X.alloc (.cells #[.int .i64 (ps.length : Int)] 3)).heap[k]? = X.heap[k]? := fun k hk => hbA.block k hk
  have hYs : (X.alloc (.cells #[.int .i64 (ps.length : Int)] 3)).heap.size = X.heap.size + 1 := by simp
  refine hK.out _ _ (fun _ => (hS1 _).2 ⟨Lib.cell_of_heap hBY.blk 0, Lib.cell_of_heap hNY 4, (hBY.cell hp0 (i := 5) rfl).1, (hBY.cell hp0 (i := 5) rfl).2⟩) ?_
  have hS := (hS1 (X.alloc (.cells #[.int .i64 (ps.length : Int)] 3))).2 ⟨Lib.cell_of_heap hBY.blk 0, Lib.cell_of_heap hNY 4, (hBY.cell hp0 (i := 5) rfl).1, (hBY.cell hp0 (i := 5) rfl).2⟩
  generalize X.alloc (.cells #[.int .i64 (ps.length : Int)] 3) = Y at *
  clear hK K hbA
  refine wpAnyL_one (i := 21) (by kernel_rfl) rfl (fun K hK => ?_)
  refine step_append_I rfl (.tmp 34) (.tmp 40) rfl 0 (.slice ka n0.kids.length kc) n0.kids (by kernel_rfl) (hBY.kds t _ hp0) (nb + 1) 1 (by kernel_rfl) (ps.length : Int) cA hkl (Nat.zero_le _) ?_
  intro v7 w7 h7 g7 hat7
  obtain ⟨xa7, xc7, e7⟩ := (OwnsI.reads h7).form
  rw [List.length_append, List.length_singleton] at e7
  subst e7
  have hk7 : ∀ k, k < Y.heap.size → (¬ T k ∨ k = g ∨ k = bb) → w7.heap[k]? = Y.heap[k]? := fun k hk hq => g7.block k hk (fun e => by
    rcases hq with hq | rfl | rfl
    · exact hq (hBY.off _ (List.mem_of_getElem? (slot_kids _ _ hp0)) k e.symm).1
    · exact hBY.apart 0 _ _ _ rfl (slot_kids _ _ hp0) (by omega) k rfl e.symm
    · exact (hBY.off _ (List.mem_of_getElem? (slot_kids _ _ hp0)) k e.symm).2.1 rfl)
  have hN7 := (hk7 nb (by omega) (.inl hnT)).trans hNY
  have c7 : w7.cell? ⟨g, t * 6 + 5, none⟩ = some (.slice ka n0.kids.length kc) := by
    rw [World.cell?_of_block (hk7 g (hBY.low _ (gB hBY).1) (.inr (.inl rfl)))]
    exact (hBY.cell hp0 (i := 5) rfl).1
  have f7 : w7.frozen? ⟨g, t * 6 + 5, none⟩ = false := by
    rw [World.frozen?_of_block (hk7 g (hBY.low _ (gB hBY).1) (.inr (.inl rfl)))]
    exact (hBY.cell hp0 (i := 5) rfl).2
  have b7 : w7.cell? ⟨bb, 0, none⟩ = some (.slice (some ⟨g, 0, none⟩) ps.length c) := by
    rw [World.cell?_of_block (hk7 bb (hBY.low _ hBY.tb) (.inr (.inr rfl)))]
    exact Lib.cell_of_heap hBY.blk 0
  refine hK.out _ _ (fun _ => (hS1 _).2 ⟨b7, Lib.cell_of_heap hN7 4, c7, f7⟩) ?_
  have hS := (hS1 w7).2 ⟨b7, Lib.cell_of_heap hN7 4, c7, f7⟩
  clear hK K
  refine wpAnyL_one (i := 22) (by kernel_rfl) rfl (fun K hK => ?_)
  go_simp
  refine hK.out _ _ (fun _ => hS) ?_
  clear hK K
  refine takeL 23 43 (.pointer (some ⟨g, t * 6 + 5, none⟩)) rfl rfl rfl (by kernel_rfl) (by kernel_rfl) (by kernel_rfl) (by kernel_rfl) (fun _ _ _ h => h) (Or.inl ⟨by kernel_rfl, fun W _ => by go_simp⟩) hS ?_
  simp only [Act.put, List.setIfInBounds_toArray, List.set_cons_zero, List.set_cons_succ]
  refine wpAnyL_one (i := 24) (by kernel_rfl) rfl (fun K hK => ?_)
  go_simp
  refine hK.out _ _ (fun h => absurd rfl h) ?_
  clear hK K
  refine wpAnyL_done (by kernel_rfl) ?_ _
  obtain ⟨hB2, hO2⟩ := hBY.kids hp0 h7 g7 hat7
  have hN2 : (w7.setCell ⟨g, t * 6 + 5, none⟩ (.slice xa7 (n0.kids.length + 1) xc7)).heap[nb]? = some (.cells #[.int .i64 n.kind, .string (str n.name), .slice aa n.attrs.length ac, .string (str n.text), .int .i64 (t : Int), .slice none 0 0] 43 (0, 0)) :=
    (hset13 w7 g _ _ (fun e => hnT (by rw [e]; exact (gB hBY).1))).trans hN7
  have hVY : OwnsA Y 0 (.slice aa n.attrs.length ac) n.attrs := row_keepK hVX (fun k e hl => hkX k hl)
  have hV2 : OwnsA (w7.setCell ⟨g, t * 6 + 5, none⟩ (.slice xa7 (n0.kids.length + 1) xc7)) 0 (.slice aa n.attrs.length ac) n.attrs := by
    refine row_keepK (row_keepK hVY (fun k e hl => g7.block k hl (fun e2 => HVP.out _ (List.mem_of_getElem? (slot_kids _ _ hp0)) k e2.symm e))) (fun k e _ => hset13 w7 g _ _ (fun e2 => HVP.out _ (List.mem_cons_self ..) k (by rw [e2]; rfl) e))
  have hO0 : OwnT T w (w7.setCell ⟨g, t * 6 + 5, none⟩ (.slice xa7 (n0.kids.length + 1) xc7)) := (OwnT.of (T := T) hbY).trans hO2 (fun k h => .inl h)
  have hsW2 : nb < (w7.setCell ⟨g, t * 6 + 5, none⟩ (.slice xa7 (n0.kids.length + 1) xc7)).heap.size := (Array.getElem?_eq_some_iff.1 hN2).1
  have hT2 : ∀ k, MoreT T Y w7 k → T k ∨ nb < k := fun k h => by
    rcases h with h | h
    · exact .inl h
    · exact .inr (by omega)
  have hnT2 : ¬ MoreT T Y w7 nb := fun h => by
    rcases hT2 nb h with h | h
    · exact hnT h
    · omega
  have hVO2 : ∀ k, (Value.slice aa n.attrs.length ac).ownBlock = some k → MoreT T Y w7 k ∧ k ≠ bb ∧ k ≠ mg := fun k e => ⟨.inl (HVO.out k e).1, (HVO.out k e).2⟩
  have hVP2 : ∀ x ∈ slotsB (.slice (some ⟨g, 0, none⟩) ps.length c) (.slice (some ⟨go, 0, none⟩) op.length co) (ps.set t ({ n0 with kids := n0.kids ++ [(ps.length : Int)] }, va0, .slice xa7 (n0.kids.length + 1) xc7)), ApK x (.slice aa n.attrs.length ac) := by
    rw [slots_kids (p := (n0, va0, .slice ka n0.kids.length kc)) _ _ _ _ hp0]
    refine set_off HVP.out _ _ (fun k e1 e2 => ?_)
    rcases hat7 with e | e
    · exact HVP.out _ (List.mem_of_getElem? (slot_kids _ _ hp0)) k (by rw [← e]; exact e1) e2
    · rw [e] at e1
      cases e1
      have := HLow.out _ (HVO.out _ e2).1
      have := HNB.out
      omega
  have hps2 := map_set13 ps t (n0, va0, .slice ka n0.kids.length kc) ({ n0 with kids := n0.kids ++ [(ps.length : Int)] }, va0, .slice xa7 (n0.kids.length + 1) xc7) (fun m => { m with kids := m.kids ++ [(ps.length : Int)] }) hp0 rfl
  have hl2 : (ps.set t ({ n0 with kids := n0.kids ++ [(ps.length : Int)] }, va0, .slice xa7 (n0.kids.length + 1) xc7)).length = ps.length := List.length_set ..
  generalize (ps.set t ({ n0 with kids := n0.kids ++ [(ps.length : Int)] }, va0, .slice xa7 (n0.kids.length + 1) xc7) : List PN) = ps2 at *
  obtain ⟨T2, hT2e⟩ : ∃ T2, MoreT T Y w7 = T2 := ⟨_, rfl⟩
  rw [hT2e] at hB2 hT2 hnT2 hVO2
  obtain ⟨W2, hW2⟩ : ∃ W2, w7.setCell ⟨g, t * 6 + 5, none⟩ (.slice xa7 (n0.kids.length + 1) xc7) = W2 := ⟨_, rfl⟩
  rw [hW2] at hB2 hO2 hN2 hV2 hO0 hsW2 ⊢
  clear hW2 hT2e hO2 hVY hN7 c7 f7 b7 hS h7 g7 hat7 hk7 cA hBY hNY hbY hBX hNX hVX hbX hBW1 hNW1 hVW1 hbW1 hSW1 hS1 hp0 hkX
  go_upto_region 7 with fail
  obtain ⟨S, hS1⟩ : ∃ S : World → Prop, ∀ W, S W ↔ (W.cell? ⟨bb, 0, none⟩ = some (.slice (some ⟨g, 0, none⟩) ps.length c) ∧ W.rangeAt nb 0 [.int .i64 n.kind, .string (str n.name), .slice aa n.attrs.length ac, .string (str n.text), .int .i64 (t : Int), .slice none 0 0]) := ⟨_, fun _ => Iff.rfl⟩
  have hdr : Below W2.heap.size W2 W2.drew := (Below.refl _ _).drew
  have hBX := hB2.below hdr
  have hNX := (hdr.block nb hsW2).trans hN2
  have hVX := OwnsPairs.below hV2 hdr
  have hbX : OwnT T w W2.drew := hO0.trans (OwnT.of (T := T) hdr) (fun k h => .inl h)
  have hsX : nb < W2.drew.heap.size := hsW2
  refine wp_region_L (S := S) 10 (by kernel_rfl) ((hS1 _).2 ⟨Lib.cell_of_heap hBX.blk 0, range_of hNX⟩) (fun hS => ?_)
  clear hdr hB2 hN2 hV2 hO0 hsW2
  generalize W2.drew = X at *
  refine takeL 0 44 (.pointer (some ⟨bb, 0, none⟩)) rfl rfl rfl (by kernel_rfl) (by kernel_rfl) (by kernel_rfl) (by kernel_rfl) (fun _ _ _ h => h) (Or.inl ⟨by kernel_rfl, fun W _ => by go_simp⟩) hS ?_
  simp only [Act.put, List.setIfInBounds_toArray, List.set_cons_zero, List.set_cons_succ]
  refine takeL 1 45 (.pointer (some ⟨bb, 0, none⟩)) rfl rfl rfl (by kernel_rfl) (by kernel_rfl) (by kernel_rfl) (by kernel_rfl) (fun _ _ _ h => h) (Or.inl ⟨by kernel_rfl, fun W _ => by go_simp⟩) hS ?_
  simp only [Act.put, List.setIfInBounds_toArray, List.set_cons_zero, List.set_cons_succ]
  refine takeL 2 46 (.pointer (some ⟨bb, 0, none⟩)) rfl rfl rfl (by kernel_rfl) (by kernel_rfl) (by kernel_rfl) (by kernel_rfl) (fun _ _ _ h => h) (Or.inl ⟨by kernel_rfl, fun W _ => by go_simp⟩) hS ?_
  simp only [Act.put, List.setIfInBounds_toArray, List.set_cons_zero, List.set_cons_succ]
  refine takeL 3 47 (.pointer (some ⟨bb, 0, none⟩)) rfl rfl rfl (by kernel_rfl) (by kernel_rfl) (by kernel_rfl) (by kernel_rfl) (fun _ _ _ h => h) (Or.inl ⟨by kernel_rfl, fun W _ => by go_simp⟩) hS ?_
  simp only [Act.put, List.setIfInBounds_toArray, List.set_cons_zero, List.set_cons_succ]
  refine takeL 4 48 ((.slice (some ⟨g, 0, none⟩) ps.length c)) rfl rfl rfl (by kernel_rfl) (by kernel_rfl) (by kernel_rfl) (by kernel_rfl) (fun _ _ _ h => h) (Or.inl ⟨by kernel_rfl, fun W hW => by have hc := (((hS1 W).1 hW).1); go_simp⟩) hS ?_
  simp only [Act.put, List.setIfInBounds_toArray, List.set_cons_zero, List.set_cons_succ]
  refine takeL 5 49 (.agg #[.int .i64 n.kind, .string (str n.name), .slice aa n.attrs.length ac, .string (str n.text), .int .i64 (t : Int), .slice none 0 0]) rfl rfl rfl (by kernel_rfl) (by kernel_rfl) (by kernel_rfl) (by kernel_rfl) (fun _ _ _ h => h) (yieldsIf_load_mid (by kernel_rfl) 43 (Operand.tmp 3) rfl nb 0 (by kernel_rfl) [.int .i64 n.kind, .string (str n.name), .slice aa n.attrs.length ac, .string (str n.text), .int .i64 (t : Int), .slice none 0 0] _ (fun W hW => ((hS1 W).1 hW).2) Tryz.underlying43 rfl sizeN) hS ?_
  simp only [Act.put, List.setIfInBounds_toArray, List.set_cons_zero, List.set_cons_succ]
  refine wpAnyL_one (i := 6) (by kernel_rfl) rfl (fun K hK => ?_)
  go_simp
  have hbA : Below X.heap.size X (X.alloc (.cells #[.int .i64 n.kind, .string (str n.name), .slice aa n.attrs.length ac, .string (str n.text), .int .i64 (t : Int), .slice none 0 0] 43)) := (Below.refl _ _).alloc (Nat.le_refl _) _
  have hBY := hBX.below hbA
  have hNY := (hbA.block nb (by omega)).trans hNX
  have rA := new_range X (.int .i64 n.kind) (.string (str n.name)) (.slice aa n.attrs.length ac) (.string (str n.text)) (.int .i64 (t : Int)) (.slice none 0 0) 43
  have hVY := OwnsPairs.below hVX hbA
  have hbY := hbX.trans (OwnT.of (T := T) hbA) (fun k h => .inl h)
  refine hK.out _ _ (fun _ => (hS1 _).2 ⟨Lib.cell_of_heap hBY.blk 0, range_of hNY⟩) ?_
  have hS := (hS1 (X.alloc (.cells #[.int .i64 n.kind, .string (str n.name), .slice aa n.attrs.length ac, .string (str n.text), .int .i64 (t : Int), .slice none 0 0] 43))).2 ⟨Lib.cell_of_heap hBY.blk 0, range_of hNY⟩
  have hsY : X.heap.size ≤ (X.alloc (.cells #[.int .i64 n.kind, .string (str n.name), .slice aa n.attrs.length ac, .string (str n.text), .int .i64 (t : Int), .slice none 0 0] 43)).heap.size := hbA.size
  generalize hXs : X.heap.size = xs at *
  generalize X.alloc (.cells #[.int .i64 n.kind, .string (str n.name), .slice aa n.attrs.length ac, .string (str n.text), .int .i64 (t : Int), .slice none 0 0] 43) = Y at *
  clear hK K hbA
  refine wpAnyL_one (i := 7) (by kernel_rfl) rfl (fun K hK => ?_)
  refine step_append_Nd rfl (.tmp 48) (.tmp 50) rfl (.slice (some ⟨g, 0, none⟩) ps.length c) ps2 (by kernel_rfl) hBY.row xs 1 (by kernel_rfl) _ _ _ _ _ _ rA (fun u hu => by simp at hu; rcases hu with rfl | rfl | rfl | rfl | rfl | rfl <;> rfl) (by omega) ?_
  intro v8 w8 h8 g8 hat8
  obtain ⟨xa8, xc8, e8⟩ := row_form h8 (by omega)
  rw [hl2] at e8
  subst e8
  have b8 : w8.cell? ⟨bb, 0, none⟩ = some (.slice (some ⟨g, 0, none⟩) ps.length c) := by
    rw [World.cell?_of_block (g8.block bb (hBY.low _ hBY.tb) (fun e => (hBY.off _ (List.mem_cons_self ..) bb e.symm).2.1 rfl))]
    exact Lib.cell_of_heap hBY.blk 0
  have f8 : w8.frozen? ⟨bb, 0, none⟩ = false := by
    rw [World.frozen?_of_block (g8.block bb (hBY.low _ hBY.tb) (fun e => (hBY.off _ (List.mem_cons_self ..) bb e.symm).2.1 rfl))]
    exact Lib.frozen_of_heap hBY.blk 0
  have hN8 := (g8.block nb (by omega) (fun e => hnT2 (hBY.off _ (List.mem_cons_self ..) nb e.symm).1)).trans hNY
  refine hK.out _ _ (fun _ => (hS1 _).2 ⟨b8, range_of hN8⟩) ?_
  have hS := (hS1 w8).2 ⟨b8, range_of hN8⟩
  clear hK K
  refine wpAnyL_one (i := 8) (by kernel_rfl) rfl (fun K hK => ?_)
  go_simp
  refine hK.out _ _ (fun _ => hS) ?_
  clear hK K
  refine wpAnyL_one (i := 9) (by kernel_rfl) rfl (fun K hK => ?_)
  go_simp
  refine hK.out _ _ (fun _ => hS) ?_
  clear hK K
  refine wpAnyL_one (i := 10) (by kernel_rfl) rfl (fun K hK => ?_)
  go_simp
  refine hK.out _ _ (fun h => absurd rfl h) ?_
  clear hK K
  refine wpAnyL_done (by kernel_rfl) ?_ _
  obtain ⟨hB3, hO3⟩ := hBY.node (n := { n with up := (t : Int) }) h8 hnk g8 hat8 hVY hVO2 hVP2
  go_wp2
  go_ret
  refine ⟨rfl, _, _, _, _, hB3, ?_, hbY.trans hO3 (fun k h => (hT2 k h).imp id (fun h2 => by have := HNB.out; omega)), ?_⟩
  · rw [List.map_append, hps2]
    simp [hnk]
  · intro k hk
    have := HNB.out
    rcases hk with h1 | h1
    · rcases hT2 k h1 with h2 | h2
      · exact .inl h2
      · exact .inr (by omega)
    · exact .inr (by omega)
end
end Go.Proofs.YtiodaahncadodaaGreatDoor
/- The contracts of a builder's closeLast and end. -/
namespace Tre
theorem shutN_yes {ns : List Nd} {op : List Nat} {names walls : List Bs} {i x : Nat} (hi : 1 ≤ i) (hx : op[i]? = some x) (h : names.contains (ndAt ns x).name = true) : shutN ns op names walls (i + 1) = i := by
  obtain ⟨k, rfl⟩ : ∃ k, i = k + 1 := ⟨i - 1, by omega⟩
  rw [shutN, hx]
  show (if names.contains (ndAt ns x).name = true then _ else _) = _
  rw [if_pos h]
theorem shutN_wall {ns : List Nd} {op : List Nat} {names walls : List Bs} {i x : Nat} (hi : 1 ≤ i) (hx : op[i]? = some x) (h : names.contains (ndAt ns x).name = false) (h2 : walls.contains (ndAt ns x).name = true) : shutN ns op names walls (i + 1) = op.length := by
  obtain ⟨k, rfl⟩ : ∃ k, i = k + 1 := ⟨i - 1, by omega⟩
  rw [shutN, hx]
  show (if names.contains (ndAt ns x).name = true then _ else if walls.contains (ndAt ns x).name = true then _ else _) = _
  rw [h, h2]
  rfl
theorem shutN_on {ns : List Nd} {op : List Nat} {names walls : List Bs} {i x : Nat} (hi : 1 ≤ i) (hx : op[i]? = some x) (h : names.contains (ndAt ns x).name = false) (h2 : walls.contains (ndAt ns x).name = false) : shutN ns op names walls (i + 1) = shutN ns op names walls i := by
  obtain ⟨k, rfl⟩ : ∃ k, i = k + 1 := ⟨i - 1, by omega⟩
  rw [shutN, hx]
  show (if names.contains (ndAt ns x).name = true then _ else if walls.contains (ndAt ns x).name = true then _ else _) = _
  rw [h, h2]
  rfl
theorem shutN_one (ns : List Nd) (op : List Nat) (names walls : List Bs) : shutN ns op names walls 1 = op.length := rfl
end Tre
namespace Go.Proofs.YtiodaahncadodaaGreatDoor
open Go.RowKit Go.Maps Go.WideMaps
theorem ndAt_map {ps : List PN} {j : Nat} {p : PN} (h : ps[j]? = some p) : Tre.ndAt (ps.map (·.1)) j = p.1 := by
  unfold Tre.ndAt
  rw [List.getElem?_map, h]
  rfl
def ClPost (T : Nat → Prop) (bb mg : Nat) (nv : Value) (ps : List PN) (op : List Nat) (F : List UInt8 → Option Nat) (w : World) (e : Ending) (w' : World) : Prop := e = .returned (.tuple #[]) ∧ ∃ ov', BAt w' T bb mg nv ov' ps op F ∧ OwnT T w w'
section
variable {w : World} {T : Nat → Prop} {bb mg : Nat} {nv ov : Value} {ps : List PN} {op : List Nat} {F : List UInt8 → Option Nat}
theorem OwnsI.cut {w : World} {B g n c : Nat} {ks : List Int} (h : OwnsI w B (.slice (some ⟨g, 0, none⟩) n c) ks) (i : Nat) (hi : i ≤ ks.length) : OwnsI w B (.slice (some ⟨g, 0, none⟩) i c) (ks.take i) := by
  rcases h.2 with ⟨hs, hz⟩ | ⟨g2, cap, cur, hs, hb, hg, hc, hm, hcs, ht⟩
  · simp at hs
  · simp only [Value.slice.injEq, Option.some.injEq, Addr.mk.injEq, and_true] at hs
    obtain ⟨rfl, rfl, rfl⟩ := hs
    have hl : (ks.take i).length = i := by rw [List.length_take]; omega
    refine ⟨by simp [isL], .inr ⟨g, c, cur, by rw [hl], hb, hg, by rw [hl]; omega, hm, hcs, ?_⟩⟩
    rw [hl, Nat.mul_one]
    have : cur.toList.take i = (cur.toList.take ks.length).take i := by rw [List.take_take, Nat.min_eq_left hi]
    rw [this]
    rw [Nat.mul_one] at ht
    rw [ht]
    simp [isL, List.map_take]
theorem OwnsI.drewN {w : World} {B : Nat} {v : Value} {ks : List Int} (h : OwnsI w B v ks) (n : Nat) : OwnsI (w.drewN n) B v ks := h
theorem grown_quiet (w : World) (m n : Nat) (r : Option Nat) : w.grownBy ((w.drewN m).drewN n) r := ⟨rfl, rfl, rfl, Nat.le_refl _, fun _ _ _ => rfl⟩
theorem MoreT_same {w w1 : World} (T : Nat → Prop) (h : w1.heap.size = w.heap.size) : MoreT T w w1 = T := by
  funext k
  unfold MoreT
  apply propext
  constructor
  · rintro (h1 | h1)
    · exact h1
    · omega
  · exact .inl
set_option maxHeartbeats 4000000 in
set_option maxRecDepth 100000 in
theorem closeLast_any (h : BAt w T bb mg nv ov ps op F) (hop : 1 ≤ op.length) (hop2 : op.length ≤ 1000) (hin : ∀ x ∈ op, x < ps.length) (v1 v2 : Value) (names walls : List (List UInt8)) (h1 : ReadsTexts w v1 names) (h2 : ReadsTexts w v2 walls) (hl1 : names.length ≤ 1000) (hl2 : walls.length ≤ 1000) :
    Calls Tryz.prog 95 #[.pointer (some ⟨bb, 0, none⟩), v1, v2] w (ClPost T bb mg nv ps (Tre.shut ⟨ps.map (·.1), op⟩ names walls).opn F w) := by
  obtain ⟨a1, d1, rfl⟩ := ReadsTexts13.form h1
  obtain ⟨a2, d2, rfl⟩ := ReadsTexts13.form h2
  have hps : 1 ≤ ps.length := by
    have := hin op[0] (List.getElem_mem hop)
    omega
  obtain ⟨g, c, rfl, hc⟩ := h.nform hps
  obtain ⟨go, co, rfl, hco, hcell⟩ := h.oform hop
  have c0 : w.cell? ⟨bb, 0, none⟩ = some (.slice (some ⟨g, 0, none⟩) ps.length c) := Lib.cell_of_heap h.blk 0
  have c1 : w.cell? ⟨bb, 1, none⟩ = some (.slice (some ⟨go, 0, none⟩) op.length co) := Lib.cell_of_heap h.blk 1
  have f1 : w.frozen? ⟨bb, 1, none⟩ = false := Lib.frozen_of_heap h.blk 1
  have H := hideT h
  have HC1 := hideT (fun m q => SContains_any names _ q (w.drewN m) (ReadsTexts13.below h1 (bel_quiet ⟨m, rfl⟩)) (by omega))
  have HC2 := hideT (fun m q => SContains_any walls _ q (w.drewN m) (ReadsTexts13.below h2 (bel_quiet ⟨m, rfl⟩)) (by omega))
  have HCell := hideT hcell
  have HIn := hideT hin
  have HS : Hid ((Tre.shut ⟨ps.map (·.1), op⟩ names walls).opn = op.take (Tre.shutN (ps.map (·.1)) op names walls op.length)) := rfl
  clear h h1 h2 hcell hin
  go_enter Tryz.func95, Tryz.ntmps95
  go_wp2
  go_loopw [6] (fun i wr => ∃ k m : Nat, i = .int .i64 k ∧ k < op.length ∧ wr = w.drewN m ∧ Hid (Tre.shutN (ps.map (·.1)) op names walls op.length = Tre.shutN (ps.map (·.1)) op names walls (k + 1))) (fun i _ => (intOf i).toNat)
  case atStart => exact ⟨op.length - 1, 0, by go_num, by omega, rfl, by show _ = _; rw [show op.length - 1 + 1 = op.length from by omega]⟩
  case round =>
    obtain ⟨k, m, rfl, hk, rfl, HE⟩ := hrel
    by_cases hk0 : 0 < k
    · have hx : op[k]? = some op[k] := List.getElem?_eq_getElem hk
      have hxl := HIn.out _ (List.getElem_mem hk)
      have hcx := HCell.out _ _ hx
      generalize op[k]'hk = x at *
      obtain ⟨p, hp⟩ : ∃ p, ps[x]? = some p := ⟨_, List.getElem?_eq_getElem hxl⟩
      obtain ⟨n, va, vk⟩ := p
      have hcn := (H.out.cell hp (i := 1) rfl).1
      have HX := hideT hx
      have HNM : Hid ((Tre.ndAt (ps.map (·.1)) x).name = n.name) := by
        show _ = _
        rw [ndAt_map hp]
      simp only at hcn
      have hq : (0 : Int) < (k : Int) := by omega
      clear hx hp
      generalize n.name = nm at *
      have HC1x := hideT (fun m => HC1.out m nm)
      have HC2x := hideT (fun m => HC2.out m nm)
      cases hy : names.contains nm
      · have HN1 : Hid (names.contains (Tre.ndAt (ps.map (·.1)) x).name = false) := by
          show _ = _
          rw [HNM.out]
          exact hy
        rw [hy] at HC1x
        cases hz : walls.contains nm
        · have HN2 : Hid (walls.contains (Tre.ndAt (ps.map (·.1)) x).name = false) := by
            show _ = _
            rw [HNM.out]
            exact hz
          rw [hz] at HC2x
          have HE2 : Hid (Tre.shutN (ps.map (·.1)) op names walls op.length = Tre.shutN (ps.map (·.1)) op names walls k) := HE.out.trans (Tre.shutN_on (by omega) HX.out HN1.out HN2.out)
          clear hy hz HE
          go_wp2
          go_quiet (fail)
          go_wp2_with (first
            | (go_at_call 131; refine (HC1x.out _).mono ?_; rintro e w1 ⟨rfl, he1⟩; rw [he1]; clear he1)
            | (go_at_call 131; refine (HC2x.out _).mono ?_; rintro e w2 ⟨rfl, he2⟩; rw [he2]; clear he2))
          go_roundw
          case rel => exact ⟨k - 1, m + nq, by go_num, by omega, by simp, by show _ = _; rw [show k - 1 + 1 = k from by omega]; exact HE2.out⟩
          case measure => simp [intOf]; omega
        · have HN2 : Hid (walls.contains (Tre.ndAt (ps.map (·.1)) x).name = true) := by
            show _ = _
            rw [HNM.out]
            exact hz
          rw [hz] at HC2x
          have HE2 : Hid ((Tre.shut ⟨ps.map (·.1), op⟩ names walls).opn = op) := by
            show _ = _
            rw [HS.out, HE.out, Tre.shutN_wall (by omega) HX.out HN1.out HN2.out, List.take_length]
          clear hy hz HE
          go_wp2
          go_quiet (fail)
          go_wp2_with (first
            | (go_at_call 131; refine (HC1x.out _).mono ?_; rintro e w1 ⟨rfl, he1⟩; rw [he1]; clear he1)
            | (go_at_call 131; refine (HC2x.out _).mono ?_; rintro e w2 ⟨rfl, he2⟩; rw [he2]; clear he2))
          ((try simp only [Exit.inBlock, Exit.then]); refine bodyPost_ret (results_none rfl _ _ _) rfl ?_)
          refine ⟨rfl, .slice (some ⟨go, 0, none⟩) op.length co, ?_, OwnT.of (bel_quiet ⟨_, rfl⟩)⟩
          rw [HE2.out]
          exact H.out.below (bel_quiet ⟨_, rfl⟩)
      · have HN1 : Hid (names.contains (Tre.ndAt (ps.map (·.1)) x).name = true) := by
          show _ = _
          rw [HNM.out]
          exact hy
        rw [hy] at HC1x
        have HE2 : Hid ((Tre.shut ⟨ps.map (·.1), op⟩ names walls).opn = op.take k) := by
          show _ = _
          rw [HS.out, HE.out, Tre.shutN_yes (by omega) HX.out HN1.out]
        have hkc : (k : Int) ≤ (co : Int) := by omega
        clear hy HE
        go_wp2
        go_quiet (fail)
        go_wp2_with (first
          | (go_at_call 131; refine (HC1x.out _).mono ?_; rintro e w1 ⟨rfl, he1⟩; rw [he1]; clear he1))
        ((try simp only [Exit.inBlock, Exit.then]); refine bodyPost_ret (results_none rfl _ _ _) rfl ?_)
        have hO := H.out.open' (w1 := (w.drewN m).drewN nq) (ov' := .slice (some ⟨go, 0, none⟩) k co) (op' := op.take k) (by
          have := OwnsI.cut (OwnsI.drewN (OwnsI.drewN H.out.opn m) nq) k (by rw [List.length_map]; omega)
          rw [← List.map_take] at this
          exact this) (grown_quiet _ _ _ _) (.inl rfl)
        rw [MoreT_same _ (by rfl)] at hO
        refine ⟨rfl, .slice (some ⟨go, 0, none⟩) k co, ?_, ?_⟩
        · rw [HE2.out]
          simpa using hO.1
        · simpa using hO.2
    · have hk00 : k = 0 := by omega
      subst hk00
      have HE2 : Hid ((Tre.shut ⟨ps.map (·.1), op⟩ names walls).opn = op) := by
        show _ = _
        rw [HS.out, HE.out, Tre.shutN_one, List.take_length]
      go_wp2
      go_end0
      refine ⟨rfl, .slice (some ⟨go, 0, none⟩) op.length co, ?_, OwnT.of (bel_quiet ⟨m, rfl⟩)⟩
      rw [HE2.out]
      exact H.out.below (bel_quiet ⟨m, rfl⟩)
set_option maxHeartbeats 4000000 in
set_option maxRecDepth 100000 in
theorem Tend_any (h : BAt w T bb mg nv ov ps op F) (hop : 1 ≤ op.length) (hop2 : op.length ≤ 1000) (hin : ∀ x ∈ op, x < ps.length) (l : List UInt8) :
    Calls Tryz.prog 54 #[.pointer (some ⟨bb, 0, none⟩), .string (str l)] w (ClPost T bb mg nv ps (Tre.endT ⟨ps.map (·.1), op⟩ l).opn F w) := by
  have hb1 : Below w.heap.size w (w.alloc (.cells #[.string ⟨#[116, 97, 98, 108, 101]⟩] 9)) := (Below.refl _ _).alloc (Nat.le_refl _) _
  have hb2 : Below (w.alloc (.cells #[.string ⟨#[116, 97, 98, 108, 101]⟩] 9)).heap.size (w.alloc (.cells #[.string ⟨#[116, 97, 98, 108, 101]⟩] 9)) ((w.alloc (.cells #[.string ⟨#[116, 97, 98, 108, 101]⟩] 9)).alloc (.cells #[.string (str l)] 9)) := (Below.refl _ _).alloc (Nat.le_refl _) _
  have hb := bel hb1 hb2
  have hs : (w.alloc (.cells #[.string ⟨#[116, 97, 98, 108, 101]⟩] 9)).heap.size = w.heap.size + 1 := by simp
  have r1 : ReadsTexts ((w.alloc (.cells #[.string ⟨#[116, 97, 98, 108, 101]⟩] 9)).alloc (.cells #[.string (str l)] 9)) (.slice (some ⟨w.heap.size, 0, none⟩) 1 1) [Tre.table] := ReadsTexts13.below (own_lit w [Tre.table] (by decide)).reads hb2
  have r2 : ReadsTexts ((w.alloc (.cells #[.string ⟨#[116, 97, 98, 108, 101]⟩] 9)).alloc (.cells #[.string (str l)] 9)) (.slice (some ⟨w.heap.size + 1, 0, none⟩) 1 1) [l] := by
    have := (own_lit (w.alloc (.cells #[.string ⟨#[116, 97, 98, 108, 101]⟩] 9)) [l] (by simp)).reads
    rw [hs] at this
    exact this
  have r0 : ReadsTexts ((w.alloc (.cells #[.string ⟨#[116, 97, 98, 108, 101]⟩] 9)).alloc (.cells #[.string (str l)] 9)) (.slice none 0 0) [] := .inl ⟨_, _, rfl, rfl⟩
  have HC := hideT (fun v q (hq : ReadsTexts ((w.alloc (.cells #[.string ⟨#[116, 97, 98, 108, 101]⟩] 9)).alloc (.cells #[.string (str l)] 9)) v q) (hl : q.length ≤ 1000) => closeLast_any (h.below hb) hop hop2 hin _ v [l] q r2 hq (by simp) hl)
  have HB := hideT hb
  have HE : Hid ((Tre.endT ⟨ps.map (·.1), op⟩ l).opn = (Tre.shut ⟨ps.map (·.1), op⟩ [l] (Tre.endW l)).opn) := rfl
  have HR1 := hideT r1
  have HR0 := hideT r0
  have fin : Hid (∀ e w', ClPost T bb mg nv ps (Tre.shut ⟨ps.map (·.1), op⟩ [l] (Tre.endW l)).opn F ((w.alloc (.cells #[.string ⟨#[116, 97, 98, 108, 101]⟩] 9)).alloc (.cells #[.string (str l)] 9)) e w' → ClPost T bb mg nv ps (Tre.endT ⟨ps.map (·.1), op⟩ l).opn F w (.returned (.tuple #[])) w') := fun e w' hp => by
    obtain ⟨_, ov', h1, h2⟩ := hp
    exact ⟨rfl, ov', h1, (OwnT.of (T := T) HB.out).trans h2 (fun k h => .inl h)⟩
  clear h hb hb1 hb2 r1 r2 r0 hs
  by_cases h0 : l = [116, 97, 98, 108, 101]
  · have q0 := lit13_yes h0
    have HW : Hid (Tre.endW l = []) := by show _ = _; rw [h0]; rfl
    rw [HW.out] at fin HE
    clear h0
    go_enter Tryz.func54, Tryz.ntmps54
    go_wp2_with (go_at_call 95; refine (HC.out _ [] HR0.out (by decide)).mono ?_; intro e w1 hp; obtain rfl := hp.1; have HP := hideT (fin.out _ _ hp); clear hp)
    go_end0
    exact HP.out
  have q0 := lit13_no h0
  by_cases h1 : l = [104, 116, 109, 108]
  · have q1 := lit13_yes h1
    have HW : Hid (Tre.endW l = []) := by show _ = _; rw [h1]; rfl
    rw [HW.out] at fin HE
    clear h0 h1
    go_enter Tryz.func54, Tryz.ntmps54
    go_wp2_with (go_at_call 95; refine (HC.out _ [] HR0.out (by decide)).mono ?_; intro e w1 hp; obtain rfl := hp.1; have HP := hideT (fin.out _ _ hp); clear hp)
    go_end0
    exact HP.out
  have q1 := lit13_no h1
  by_cases h2 : l = [98, 111, 100, 121]
  · have q2 := lit13_yes h2
    have HW : Hid (Tre.endW l = []) := by show _ = _; rw [h2]; rfl
    rw [HW.out] at fin HE
    clear h0 h1 h2
    go_enter Tryz.func54, Tryz.ntmps54
    go_wp2_with (go_at_call 95; refine (HC.out _ [] HR0.out (by decide)).mono ?_; intro e w1 hp; obtain rfl := hp.1; have HP := hideT (fin.out _ _ hp); clear hp)
    go_end0
    exact HP.out
  have q2 := lit13_no h2
  have HW : Hid (Tre.endW l = [Tre.table]) := by
    show _ = _
    unfold Tre.endW Tre.table Tre.html Tre.body
    rw [if_neg h0, if_neg h1, if_neg h2]
  rw [HW.out] at fin HE
  clear h0 h1 h2
  go_enter Tryz.func54, Tryz.ntmps54
  go_wp2_with (go_at_call 95; refine (HC.out _ [Tre.table] HR1.out (by decide)).mono ?_; intro e w1 hp; obtain rfl := hp.1; have HP := hideT (fin.out _ _ hp); clear hp)
  go_end0
  exact HP.out
end
end Go.Proofs.YtiodaahncadodaaGreatDoor
