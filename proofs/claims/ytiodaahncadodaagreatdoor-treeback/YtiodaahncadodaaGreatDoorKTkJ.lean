/- The contract of token.Next. -/
import Derived.Test.YtiodaahncadodaaGreatDoorKTkI
import Derived.Deep.RegionWith
import Derived.Deep.RegionHeld3
set_option linter.unusedVariables false
set_option linter.unusedSimpArgs false
namespace Go.Proofs.YtiodaahncadodaaGreatDoor
open Go.RowKit
/-- What Next has done. -/
def NextPost (w : World) (k : Tk.Tok) (n : Nat) (e : Ending) (w' : World) : Prop :=
  ∃ ad ln cp, e = .returned (.tuple #[tokV k (.slice ad ln cp), .int .i64 n]) ∧ OwnsA w' w.heap.size (.slice ad ln cp) k.attrs ∧ Below w.heap.size w w'
theorem zeroR12 : (Tryz.prog.info? 96).map (fun i => (i.zero, i.size)) = some (some (.agg #[.string ByteArray.empty, .string ByteArray.empty]), 2) := by kernel_rfl
theorem results_two {fn : Func} {p q : Tmp} {ty : TypeId} (h : fn.results = #[.cell p ty, .tmp q]) (tmps : Array Value) (P : Program) (w : World) (a : Addr) (x : Value) (hp : tmps.getD p undef = .pointer (some a)) (hl : (loadVar ty a).run P w = .ok x w) :
    (results fn tmps).run P w = .ok (.tuple #[x, tmps.getD q undef]) w := by
  have hp2 : tmps[p]?.getD undef = .pointer (some a) := by rw [← hp]; simp
  simp only [results, h]
  simp [Sem.run_bind, Result.andThen, asAddr, hp2, hl]
theorem ret_K2 {fn : Func} {p q : Tmp} {Q : Ending → World → Prop} {a : Act} {w : World} {b : Nat} {x0 x1 x2 x3 x4 x : Value} (hr : fn.results = #[.cell p 56, .tmp q]) (hd : a.defers = []) (hp : a.tmps.getD p undef = .pointer (some ⟨b, 0, none⟩)) (hx : a.tmps.getD q undef = x) (h : KAt w b #[x0, x1, x2, x3, x4]) (hQ : Q (.returned (.tuple #[.agg #[x0, x1, x2, x3, x4], x])) w) :
    bodyPost Tryz.prog fn Q .ret a w := by
  refine bodyPost_ret (v := .tuple #[.agg #[x0, x1, x2, x3, x4], x]) ?_ hd hQ
  rw [results_two hr _ _ _ _ _ hp (load_K h), hx]
theorem takeH12 {md : Region.Mode} {ops : Array Oper} {Q : Exit → Act → World → Prop} {S : World → Prop} {fuel : Nat} {listed : Array Bool} {a : Act} {w : World} (i d : Nat) (v : Value) {oi : Oper} (hi : ops[i]? = some oi) (hd : oi.dst = some d)
    (hs : Region.noSelect ops = true) (hf : Region.free md ops listed i = true) (hr : (Region.ready md ops listed).contains i = true)
    (hQ : ∀ c a w, Q (.panic c) (a.put (some d) v) w → Q (.panic c) a w) (hy : YieldsIf Tryz.prog ops S oi v a) (hS : S w)
    (h : wpAnyH Tryz.prog md ops Q S fuel (listed.setIfInBounds i true) (a.put (some d) v) w) : wpAnyH Tryz.prog md ops Q S (fuel + 1) listed a w :=
  wpAnyH_take hi hs hf hr (by rw [hd]; exact hQ) hy hS (by rw [hd]; exact h)
theorem hy_load_K {ops : Array Oper} {S : World → Prop} {o : Oper} {a : Act} (x : Operand) (ho : o.op = .load 56 x) (hw : Region.wanted o (yielded ops a.tmps) = true) (b : Nat) (x0 x1 x2 x3 x4 : Value) (hx : a.eval x = .pointer (some ⟨b, 0, none⟩)) (h : ∀ W, S W → KAt W b #[x0, x1, x2, x3, x4]) : YieldsIf Tryz.prog ops S o (.agg #[x0, x1, x2, x3, x4]) a :=
  (.inl ⟨hw, fun w hs => by
    unfold execOp
    rw [ho]
    simp only [hx, Sem.run_bind, loadAt_K (h w hs), Result.andThen, Sem.run_pure]⟩)
theorem step_store_K {ops : Array Oper} {o : Oper} {a : Act} {w : World} {K : Act → World → Prop} {Q : Exit → Act → World → Prop} {E : Prop} (p q : Operand) (ho : o.op = .store 56 p q) (hg : o.guard = none) (b : Nat) (cs : Array Value) (hc : cs.size = 5) (k : Int) (n x : ByteArray) (s : Bool) (ad : Option Addr) (ln cp : Nat) (hx : a.eval p = .pointer (some ⟨b, 0, none⟩)) (hy : a.eval q = .agg #[.int .i64 k, .string n, .slice ad ln cp, .bool s, .string x]) (h : KAt w b cs)
    (hK : K (a.put o.dst undef) (w.setRow b #[.int .i64 k, .string n, .slice ad ln cp, .bool s, .string x])) : if Region.wanted o (yielded ops a.tmps) = true then Oper.wp Tryz.prog o a w K Q else E := by
  have hw : Region.wanted o (yielded ops a.tmps) = true := by simp [Region.wanted, hg]
  rw [if_pos hw]
  unfold Oper.wp
  have e : (execOp a.eval o).run Tryz.prog w = .ok .skip (w.setRow b #[.int .i64 k, .string n, .slice ad ln cp, .bool s, .string x]) := by
    unfold execOp
    rw [ho]
    simp only [hx, hy, Sem.run_bind, storeAt_K hc h, Result.andThen, Sem.run_pure]
  rw [e, Oper.upon_skip]
  exact hK
theorem anyH_store_K {md : Region.Mode} {ops : Array Oper} {Q : Exit → Act → World → Prop} {S : World → Prop} {fuel : Nat} {listed : Array Bool} {a : Act} {w : World} (i : Nat) {o : Oper} (hr : Region.ready md ops listed = [i]) (hi : ops[i]? = some o) (hd : o.dst = none) (p q : Operand) (ho : o.op = .store 56 p q) (hg : o.guard = none) (b : Nat) (cs : Array Value) (hc : cs.size = 5) (k : Int) (n x : ByteArray) (s : Bool) (ad : Option Addr) (ln cp : Nat) (hx : a.eval p = .pointer (some ⟨b, 0, none⟩)) (hy : a.eval q = .agg #[.int .i64 k, .string n, .slice ad ln cp, .bool s, .string x]) (h : KAt w b cs)
    (hS : S (w.setRow b #[.int .i64 k, .string n, .slice ad ln cp, .bool s, .string x])) (hK : S (w.setRow b #[.int .i64 k, .string n, .slice ad ln cp, .bool s, .string x]) → wpAnyH Tryz.prog md ops Q S fuel (listed.setIfInBounds i true) a (w.setRow b #[.int .i64 k, .string n, .slice ad ln cp, .bool s, .string x])) : wpAnyH Tryz.prog md ops Q S (fuel + 1) listed a w :=
  wpAnyH_ready hr (by simp) (AllReadyH.cons hi (fun _ h2 => step_store_K p q ho hg b cs hc k n x s ad ln cp hx hy h (h2.out _ _ hS (by rw [hd]; exact hK))) AllReadyH.nil)
end Go.Proofs.YtiodaahncadodaaGreatDoor
