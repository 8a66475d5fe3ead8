/- Steps of regions that draw their order, over Sums; the closure of the law SumApart. -/
import Derived.Test.YtfjgmejobldjoaaSumE
import Derived.Deep.RegionWith
import Derived.Deep.RegionHeld3
import Derived.Deep.CutBlock
import Derived.WalkMore
set_option linter.unusedVariables false
set_option linter.unusedSimpArgs false
namespace Go.Proofs.Ytfjgmejobldjoaa
open Go.RowKit
theorem takeH {md : Region.Mode} {ops : Array Oper} {Q : Exit → Act → World → Prop} {S : World → Prop} {fuel : Nat} {listed : Array Bool} {a : Act} {w : World} (i d : Nat) (v : Value) {oi : Oper} (hi : ops[i]? = some oi) (hd : oi.dst = some d)
    (hs : Region.noSelect ops = true) (hf : Region.free md ops listed i = true) (hr : (Region.ready md ops listed).contains i = true)
    (hQ : ∀ c a w, Q (.panic c) (a.put (some d) v) w → Q (.panic c) a w) (hy : YieldsIf Try.prog ops S oi v a) (hS : S w)
    (h : wpAnyH Try.prog md ops Q S fuel (listed.setIfInBounds i true) (a.put (some d) v) w) : wpAnyH Try.prog md ops Q S (fuel + 1) listed a w :=
  wpAnyH_take hi hs hf hr (by rw [hd]; exact hQ) hy hS (by rw [hd]; exact h)
theorem hy_load_S {ops : Array Oper} {S : World → Prop} {o : Oper} {a : Act} (x : Operand) (ho : o.op = .load 28 x) (hw : Region.wanted o (yielded ops a.tmps) = true) (b : Nat) (x0 x1 : Value) (hx : a.eval x = .pointer (some ⟨b, 0, none⟩)) (h : ∀ W, S W → SAt W b x0 x1) : YieldsIf Try.prog ops S o (s2 x0 x1) a :=
  (.inl ⟨hw, fun w hs => by
    unfold execOp
    rw [ho]
    simp only [hx, Sem.run_bind, loadAt_S (h w hs), Result.andThen, Sem.run_pure]⟩)
theorem step_store_S {ops : Array Oper} {o : Oper} {a : Act} {w : World} {K : Act → World → Prop} {Q : Exit → Act → World → Prop} {E : Prop} (x y : Operand) (ho : o.op = .store 28 x y) (hg : o.guard = none) (b : Nat) (x0 x1 : Value) {y0 y1 : Value} (hx : a.eval x = .pointer (some ⟨b, 0, none⟩)) (hy : a.eval y = s2 x0 x1) (h : SAt w b y0 y1) (h1 : x0.oneCell' = true ∧ x1.oneCell' = true)
    (hK : K (a.put o.dst undef) (w.setRow b #[x0, x1])) : if Region.wanted o (yielded ops a.tmps) = true then Oper.wp Try.prog o a w K Q else E := by
  have hw : Region.wanted o (yielded ops a.tmps) = true := by simp [Region.wanted, hg]
  rw [if_pos hw]
  unfold Oper.wp
  have e : (execOp a.eval o).run Try.prog w = .ok .skip (w.setRow b #[x0, x1]) := by
    unfold execOp
    rw [ho]
    simp only [hx, hy, Sem.run_bind, storeAt_S h h1, Result.andThen, Sem.run_pure]
  rw [e, Oper.upon_skip]
  exact hK
theorem anyH_store_S {md : Region.Mode} {ops : Array Oper} {Q : Exit → Act → World → Prop} {S : World → Prop} {fuel : Nat} {listed : Array Bool} {a : Act} {w : World} (i : Nat) {o : Oper} (hr : Region.ready md ops listed = [i]) (hi : ops[i]? = some o) (hd : o.dst = none) (x y : Operand) (ho : o.op = .store 28 x y) (hg : o.guard = none) (b : Nat) (x0 x1 : Value) {y0 y1 : Value} (hx : a.eval x = .pointer (some ⟨b, 0, none⟩)) (hy : a.eval y = s2 x0 x1) (h : SAt w b y0 y1) (h1 : x0.oneCell' = true ∧ x1.oneCell' = true)
    (hS : S (w.setRow b #[x0, x1])) (hK : S (w.setRow b #[x0, x1]) → wpAnyH Try.prog md ops Q S fuel (listed.setIfInBounds i true) a (w.setRow b #[x0, x1])) : wpAnyH Try.prog md ops Q S (fuel + 1) listed a w :=
  wpAnyH_ready hr (by simp) (AllReadyH.cons hi (fun _ h2 => step_store_S x y ho hg b x0 x1 hx hy h h1 (h2.out _ _ hS (by rw [hd]; exact hK))) AllReadyH.nil)
theorem SAt.other {w : World} {b c : Nat} {x0 x1 : Value} {cs : Array Value} (h : SAt w b x0 x1) (hne : b ≠ c) : SAt (w.setRow c cs) b x0 x1 := by
  refine h.keep ?_
  simp [World.setRow, Array.getElem?_modify, Ne.symm hne]
end Go.Proofs.Ytfjgmejobldjoaa
