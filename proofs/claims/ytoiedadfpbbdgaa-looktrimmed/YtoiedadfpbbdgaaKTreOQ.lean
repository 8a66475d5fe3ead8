/- Texts laid as one. -/
import Derived.Test.YtoiedadfpbbdgaaKTreMN
import Derived.Test.YtoiedadfpbbdgaaKTreM
import Derived.Test.YtoiedadfpbbdgaaKTreJL
/- The contract of a builder's text. -/
set_option linter.unusedVariables false
set_option linter.unusedSimpArgs false
namespace Go.Proofs.Ytoiedadfpbbdgaa
open Go.RowKit Go.Maps Go.WideMaps
abbrev fst13 : Tre.St → List UInt8 → Option Nat := fun b' => Tre.firstN b'.nodes
theorem firstN_modify (ns : List Nd) (i : Nat) (f : Nd → Nd) (hk : ∀ m, (f m).kind = m.kind ∧ (f m).name = m.name) : Tre.firstN (ns.modify i f) = Tre.firstN ns := by
  funext n
  unfold Tre.firstN
  rw [Tre.findN_modify ns i f n hk]
theorem firstN_lay {b b2 : Tre.St} {m : Nd} (h : Tre.lay b m = .ok b2) (hm : m.kind ≠ 2 ∨ Tre.isHB m.name = false) : Tre.firstN b2.nodes = Tre.firstN b.nodes := by
  funext n
  unfold Tre.firstN
  by_cases hn : Tre.isHB n = true
  · rw [if_pos hn, if_pos hn, Tre.lay_first h n]
    cases Tre.findN b.nodes n with
    | some i => rfl
    | none =>
      have hq : (m.kind == 2 && m.name == n) = false := by
        rcases hm with hm | hm
        · rw [show (m.kind == 2) = false from beq_eq_false_iff_ne.2 hm]
          rfl
        · have : (m.name == n) = false := by
            rw [beq_eq_false_iff_ne]
            rintro rfl
            rw [hm] at hn
            cases hn
          rw [this, Bool.and_false]
      simp [hq]
  · rw [if_neg hn, if_neg hn]
theorem drewN_more (w : World) (a b : Nat) : (w.drewN a).drewN b = w.drewN (a + b) := by simp
section
variable {w : World} {T : Nat → Prop} {bb mg : Nat} {nv ov : Value} {ps : List PN} {op : List Nat}
theorem ps_nd {ps : List PN} {M : Nat} (h : Tre.Ok ⟨ps.map (·.1), op⟩ M) {i : Nat} {p : PN} (hp : ps[i]? = some p) : p.1 ∈ ps.map (·.1) := List.mem_map.2 ⟨p, List.mem_of_getElem? hp, rfl⟩
end
end Go.Proofs.Ytoiedadfpbbdgaa
/- The contract of a builder's addAttrs. -/
set_option linter.unusedVariables false
set_option linter.unusedSimpArgs false
namespace Go.Proofs.Ytoiedadfpbbdgaa
open Go.RowKit Go.Maps Go.WideMaps
/-- One further attribute. -/
theorem step_append_A13 {w : World} {ops : Array Oper} {o : Oper} {a : Act} {K : Act → World → Prop} {Q : Exit → Act → World → Prop} {E : Prop} (hgd : o.guard = none) (s x : Operand)
    (ho : o.op = .call { callee := .builtin .append, args := #[s, x], argTypes := #[48, 48] }) (v : Value) (ks : List Pr) (hs : a.eval s = v) (hown : OwnsA w 0 v ks) (g c : Nat) (hx : a.eval x = .slice (some ⟨g, 0, none⟩) 1 c) (y : Pr) (hg : w.rangeAt g 0 [.string (str y.1), .string (str y.2)]) (hlen : ks.length ≤ 10000000)
    (h : ∀ v' w', OwnsA w' 0 v' (ks ++ [y]) → w.grownBy w' v.ownBlock → (v'.ownBlock = v.ownBlock ∨ v'.ownBlock = some w.heap.size) → K (a.put o.dst v') w') : if Region.wanted o (yielded ops a.tmps) = true then Oper.wp Try.prog o a w K Q else E := by
  have hw : Region.wanted o (yielded ops a.tmps) = true := by simp [Region.wanted, hgd]
  rw [if_pos hw]
  obtain ⟨i0, hi, hz0, hz1, hz2⟩ := info_parts infoAttr
  obtain ⟨v', w', r1, r2, r3, _, r5⟩ := run_append_own_at (P := Try.prog) w 0 48 o.type 54 i0 (.agg #[.string ByteArray.empty, .string ByteArray.empty]) 2 32 Try.underlying48 hi hz0 hz1 hz2 rfl (by decide) v _ _ hown ⟨g, 0, none⟩ 1 c [.string (str y.1), .string (str y.2)] rfl (fun j u hj => by
    rw [add_addr]
    exact hg j u hj) (fun u hu => by simp at hu; rcases hu with rfl | rfl <;> rfl) (by unfold maxLen; omega) (by omega) (Nat.zero_le _)
  unfold Oper.wp execOp
  simp only [ho, resolve, invoke, builtin, Sem.run_bind, Sem.run_pure, Result.andThen_ok, List.map_toArray, List.map_cons, List.map_nil, hs, hx, r1]
  exact h v' w' (OwnsPairs.of rfl rfl rfl r2) r3 r5
theorem wpList_load_A13 {ops : Array Oper} {rest : List Oper} {op : Oper} {a : Act} {w : World} {Q : Exit → Act → World → Prop} (hw : Region.wanted op (yielded ops a.tmps) = true) (x : Operand) (ho : op.op = .load 54 x)
    (b o : Nat) (hx : a.eval x = .pointer (some ⟨b, o, none⟩)) (x0 x1 : Value) (hc : w.rangeAt b o [x0, x1])
    (h : wpList Try.prog ops Q rest (a.put op.dst (.agg #[x0, x1])) w) : wpList Try.prog ops Q (op :: rest) a w :=
  wpList_step fun _ hK => by
    rw [if_pos hw]
    exact wp_load_mid _ x ho b o hx [x0, x1] _ hc Try.underlying54 rfl sizeA (hK _ _ h)
theorem range_two {w : World} {b o : Nat} {x0 x1 : Value} (h0 : w.cell? ⟨b, o, none⟩ = some x0) (h1 : w.cell? ⟨b, o + 1, none⟩ = some x1) : w.rangeAt b o [x0, x1] := by
  intro j u hj
  rcases j with _ | _ | j
  · cases hj
    exact h0
  · cases hj
    exact h1
  · simp at hj
theorem addAll_take (ds bs : List Pr) (j : Nat) (x : Pr) (h : bs[j]? = some x) : Tre.addAll ds (bs.take (j + 1)) = Tk.add (Tre.addAll ds (bs.take j)) x := by
  unfold Tre.addAll
  rw [List.take_add_one, h, List.foldl_append]
  rfl
theorem addAll_le (ds bs : List Pr) (h : ds.length ≤ 64) : (Tre.addAll ds bs).length ≤ 64 := Tre.addAll_len bs ds h
section
variable {w : World} {T : Nat → Prop} {bb mg : Nat} {nv ov : Value} {ps : List PN} {op : List Nat} {F : List UInt8 → Option Nat}
theorem set_set13 {α : Type} (l : List α) (i : Nat) (x y : α) : (l.set i x).set i y = l.set i y := by simp
end
end Go.Proofs.Ytoiedadfpbbdgaa
/- The map of the first html and body: look-ups and stores. -/
set_option linter.unusedVariables false
set_option linter.unusedSimpArgs false
namespace Go.Proofs.Ytoiedadfpbbdgaa
open Go.RowKit Go.Maps Go.WideMaps
theorem zero_int13 (w : World) : (zeroValue 3).run Try.prog w = .ok (.int .i64 0) w := by
  obtain ⟨i0, hi, hz0, hz1, hz2⟩ := info_parts infoInt13
  simp [zeroValue, typeInfo, hi, hz0, Result.andThen]
theorem lawS13 : Keyed Try.prog 9 := string_keyed Try.underlying9
theorem key13 {l : List UInt8} (hl : l.length ≤ 1000000000) : keyOf Try.prog 9 (.string (str l)) = some (.string l) := by
  have := keyOf_string_mk (s := str l) Try.underlying9 (by rw [str_size]; unfold maxLen; omega)
  rw [str_data] at this
  exact this
end Go.Proofs.Ytoiedadfpbbdgaa
