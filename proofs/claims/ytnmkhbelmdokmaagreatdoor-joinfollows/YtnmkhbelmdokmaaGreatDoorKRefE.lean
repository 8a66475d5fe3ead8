/- Texts laid as one. -/
import Derived.Test.YtnmkhbelmdokmaaGreatDoorKRefD
import Derived.Test.YtnmkhbelmdokmaaGreatDoorKUrlB
import Derived.Deep.RegionWith
import Derived.Deep.RegionHeld3
import Derived.WalkMore
import Derived.Test.YtnmkhbelmdokmaaGreatDoorKUrlA
import Derived.Lib.SmallJoins
import Derived.SizedLaws
import Derived.OpenShut
import Derived.ChangeArms
/- Steps of regions that draw their order, while some URLs lie where they lie. -/
namespace Go.Proofs.YtnmkhbelmdokmaaGreatDoor
open Go.RowKit
theorem takeH {md : Region.Mode} {ops : Array Oper} {Q : Exit → Act → World → Prop} {S : World → Prop} {fuel : Nat} {listed : Array Bool} {a : Act} {w : World} (i d : Nat) (v : Value) {oi : Oper} (hi : ops[i]? = some oi) (hd : oi.dst = some d)
    (hs : Region.noSelect ops = true) (hf : Region.free md ops listed i = true) (hr : (Region.ready md ops listed).contains i = true)
    (hQ : ∀ c a w, Q (.panic c) (a.put (some d) v) w → Q (.panic c) a w) (hy : YieldsIf Tryz.prog ops S oi v a) (hS : S w)
    (h : wpAnyH Tryz.prog md ops Q S fuel (listed.setIfInBounds i true) (a.put (some d) v) w) : wpAnyH Tryz.prog md ops Q S (fuel + 1) listed a w :=
  wpAnyH_take hi hs hf hr (by rw [hd]; exact hQ) hy hS (by rw [hd]; exact h)
theorem anyH_store_U {md : Region.Mode} {ops : Array Oper} {Q : Exit → Act → World → Prop} {S : World → Prop} {fuel : Nat} {listed : Array Bool} {a : Act} {w : World} (i : Nat) {o : Oper} (hr : Region.ready md ops listed = [i]) (hi : ops[i]? = some o) (hd : o.dst = none) (x y : Operand) (ho : o.op = .store 25 x y) (hg : o.guard = none) (b : Nat) (u v : Url.U) (hx : a.eval x = .pointer (some ⟨b, 0, none⟩)) (hy : a.eval y = uVal u) (h : UAt w b v)
    (hS : S (w.setRow b (uCells u))) (hK : S (w.setRow b (uCells u)) → wpAnyH Tryz.prog md ops Q S fuel (listed.setIfInBounds i true) a (w.setRow b (uCells u))) : wpAnyH Tryz.prog md ops Q S (fuel + 1) listed a w :=
  wpAnyH_ready hr (by simp) (AllReadyH.cons hi (fun _ h2 => step_store_U x y ho hg b u v hx hy h (h2.out _ _ hS (by rw [hd]; exact hK))) AllReadyH.nil)
theorem hy_load_U {ops : Array Oper} {S : World → Prop} {o : Oper} {a : Act} (x : Operand) (ho : o.op = .load 25 x) (hw : Region.wanted o (yielded ops a.tmps) = true) (b : Nat) (u : Url.U) (hx : a.eval x = .pointer (some ⟨b, 0, none⟩)) (h : ∀ W, S W → UAt W b u) : YieldsIf Tryz.prog ops S o (uVal u) a :=
  (.inl ⟨hw, fun w hs => by
    unfold execOp
    rw [ho]
    simp only [hx, Sem.run_bind, loadAt_U (h w hs), Result.andThen, Sem.run_pure]⟩)
theorem hy_eql_U {ops : Array Oper} {S : World → Prop} {o : Oper} {a : Act} {t : TypeId} (x y : Operand) (ho : o.op = .binOp .eql 25 x y t) (hw : Region.wanted o (yielded ops a.tmps) = true) (u v : Url.U) (hx : a.eval x = uVal u) (hy : a.eval y = uVal v) : YieldsIf Tryz.prog ops S o (.bool (Url.same u v)) a :=
  (.inl ⟨hw, fun w _ => by
    unfold execOp
    rw [ho]
    have h1 := eql_U u v w
    have h2 : (eqGuard .eql 25 x y (.agg (uCells u)) (.agg (uCells v))).run Tryz.prog w = .ok () w := by
      have := guardU
      go_simp
    simp only [hx, hy, uVal, Sem.run_bind, h1, h2, Result.andThen, Sem.run_pure]⟩)
theorem hy_eql_self {ops : Array Oper} {S : World → Prop} {o : Oper} {a : Act} {t : TypeId} (x y : Operand) (ho : o.op = .binOp .eql 25 x y t) (hw : Region.wanted o (yielded ops a.tmps) = true) (u : Url.U) (hx : a.eval x = uVal u) (hy : a.eval y = uVal u) : YieldsIf Tryz.prog ops S o (.bool true) a := by
  have h := hy_eql_U (S := S) x y ho hw u u hx hy
  rw [Url.same_self] at h
  exact h
end Go.Proofs.YtnmkhbelmdokmaaGreatDoor
/- What a law's walk is told of a URL that came in. -/
namespace Go.Proofs.YtnmkhbelmdokmaaGreatDoor
open Go.RowKit Go.ChangeShapes Go.WideShapes
def dataU {H : Type} (u : Url.U) : DataW H := .agg [.lit (.string u.sch), .lit (.string u.host), .lit (.int .i64 u.port), .lit (.string u.path), .lit (.string u.query), .lit (.string u.frag), .lit (.bool u.hq), .lit (.bool u.hf)]
theorem cellsU : Tryz.prog.cellsOf 25 = 8 := by kernel_rfl
theorem cellsS : Tryz.prog.cellsOf 9 = 1 := by kernel_rfl
theorem cellsI : Tryz.prog.cellsOf 3 = 1 := by kernel_rfl
theorem cellsBo : Tryz.prog.cellsOf 4 = 1 := by kernel_rfl
theorem array8 {cs : Array Value} (h : cs.size = 8) : ∃ c0 c1 c2 c3 c4 c5 c6 c7, cs = #[c0, c1, c2, c3, c4, c5, c6, c7] := by
  obtain ⟨l⟩ := cs
  match l, h with
  | [a, b, c, d, e, f, g, h], _ => exact ⟨a, b, c, d, e, f, g, h, rfl⟩
theorem read_string {H : Type} {enc : TypeId × Value → H} {W : World} {base : Nat} {spare : Nat → Bool} {held : Bool} {n : Nat} {c : Value} {y : DataW H × List MemPlace} (h : DataW.trod enc Tryz.prog W base spare held n 9 [c] = some y) : ∃ s : List UInt8, c = .string (str s) ∧ y = (.lit (.string s), []) := by
  obtain ⟨s, hc, hy, _⟩ := DataW.trod_string Tryz.underlying9 h
  exact ⟨s.data.toList, by rw [str_self]; simpa using hc, hy⟩
theorem read_int {H : Type} {enc : TypeId × Value → H} {W : World} {base : Nat} {spare : Nat → Bool} {held : Bool} {n : Nat} {c : Value} {y : DataW H × List MemPlace} (h : DataW.trod enc Tryz.prog W base spare held n 3 [c] = some y) : ∃ x : Int, c = .int .i64 x ∧ y = (.lit (.int .i64 x), []) ∧ -9223372036854775808 ≤ x ∧ x ≤ 9223372036854775807 := by
  obtain ⟨x, hc, hy, hw⟩ := DataW.trod_int Tryz.underlying3 h
  have := bounds_i64 hw
  exact ⟨x, by simpa using hc, hy, this.1, this.2⟩
theorem read_bool {H : Type} {enc : TypeId × Value → H} {W : World} {base : Nat} {spare : Nat → Bool} {held : Bool} {n : Nat} {c : Value} {y : DataW H × List MemPlace} (h : DataW.trod enc Tryz.prog W base spare held n 4 [c] = some y) : ∃ x : Bool, c = .bool x ∧ y = (.lit (.bool x), []) := by
  obtain ⟨x, hc, hy⟩ := DataW.trod_bool Tryz.underlying4 h
  exact ⟨x, by simpa using hc, hy⟩
set_option maxRecDepth 100000 in
theorem arg_U {H : Type} {enc : TypeId × Value → H} {W : World} {base : Nat} {spare : Nat → Bool} {held : Bool} {r : Reach} {b0 : Nat} {v : Value} {d : DataW H} {p : List MemPlace} (hv : Value.okWide Tryz.prog W r b0 25 v) (h : DataW.Trod enc Tryz.prog W base spare held 25 v d p) :
    ∃ u : Url.U, v = uVal u ∧ d = dataU u ∧ -9223372036854775808 ≤ u.port ∧ u.port ≤ 9223372036854775807 := by
  obtain ⟨cs, rfl, hsz⟩ := okWide_struct Tryz.underlying25 hv
  obtain ⟨c0, c1, c2, c3, c4, c5, c6, c7, rfl⟩ := array8 (hsz.trans cellsU)
  obtain ⟨fuel, hf⟩ := h
  obtain ⟨xs, n, _, hx, hl, hlen, hall⟩ := DataW.trod_struct Tryz.underlying25 hf
  match xs, hlen with
  | [y0, y1, y2, y3, y4, y5, y6, y7], _ =>
    have h0 : DataW.trod enc Tryz.prog W base spare held n 9 (List.take (Tryz.prog.cellsOf 9) [c0, c1, c2, c3, c4, c5, c6, c7]) = some y0 := hall 0 _ rfl
    rw [cellsS] at h0
    have h1 : DataW.trod enc Tryz.prog W base spare held n 9 (List.take (Tryz.prog.cellsOf 9) [c1, c2, c3, c4, c5, c6, c7]) = some y1 := hall 1 _ rfl
    rw [cellsS] at h1
    have h2 : DataW.trod enc Tryz.prog W base spare held n 3 (List.take (Tryz.prog.cellsOf 3) [c2, c3, c4, c5, c6, c7]) = some y2 := hall 2 _ rfl
    rw [cellsI] at h2
    have h3 : DataW.trod enc Tryz.prog W base spare held n 9 (List.take (Tryz.prog.cellsOf 9) [c3, c4, c5, c6, c7]) = some y3 := hall 3 _ rfl
    rw [cellsS] at h3
    have h4 : DataW.trod enc Tryz.prog W base spare held n 9 (List.take (Tryz.prog.cellsOf 9) [c4, c5, c6, c7]) = some y4 := hall 4 _ rfl
    rw [cellsS] at h4
    have h5 : DataW.trod enc Tryz.prog W base spare held n 9 (List.take (Tryz.prog.cellsOf 9) [c5, c6, c7]) = some y5 := hall 5 _ rfl
    rw [cellsS] at h5
    have h6 : DataW.trod enc Tryz.prog W base spare held n 4 (List.take (Tryz.prog.cellsOf 4) [c6, c7]) = some y6 := hall 6 _ rfl
    rw [cellsBo] at h6
    have h7 : DataW.trod enc Tryz.prog W base spare held n 4 (List.take (Tryz.prog.cellsOf 4) [c7]) = some y7 := hall 7 _ rfl
    rw [cellsBo] at h7
    obtain ⟨x0, rfl, rfl⟩ := read_string h0
    obtain ⟨x1, rfl, rfl⟩ := read_string h1
    obtain ⟨x2, rfl, rfl, q1, q2⟩ := read_int h2
    obtain ⟨x3, rfl, rfl⟩ := read_string h3
    obtain ⟨x4, rfl, rfl⟩ := read_string h4
    obtain ⟨x5, rfl, rfl⟩ := read_string h5
    obtain ⟨x6, rfl, rfl⟩ := read_bool h6
    obtain ⟨x7, rfl, rfl⟩ := read_bool h7
    exact ⟨⟨x0, x1, x2, x3, x4, x5, x6, x7⟩, rfl, (Prod.mk.inj hx).1, q1, q2⟩
theorem sized_U {H : Type} {ts : List TypeId} {ds : List (DataW H)} (h : (DataW.weightsEach Tryz.prog ts ds).all (· ≤ reachBytes) = true) {j : Nat} {u : Url.U} (ht : ts[j]? = some 25) (hd : ds[j]? = some (dataU u)) (h1 : -9223372036854775808 ≤ u.port) (h2 : u.port ≤ 9223372036854775807) : Fits u := by
  have hw : (dataU u : DataW H).weights Tryz.prog 25 = [u.sch.length, u.host.length, u.path.length, u.query.length, u.frag.length] := by
    unfold dataU
    rw [DataW.weights, Tryz.underlying25]
    rfl
  have hm := fun k hk => List.all_eq_true.1 h k (DataW.weights_mem_each ht hd k hk)
  rw [hw] at hm
  have e : reachBytes = 140737488351232 := rfl
  simp only [List.mem_cons, List.not_mem_nil, or_false, decide_eq_true_eq, e] at hm
  exact ⟨hm _ (.inl rfl), hm _ (.inr (.inl rfl)), hm _ (.inr (.inr (.inl rfl))), hm _ (.inr (.inr (.inr (.inl rfl)))), hm _ (.inr (.inr (.inr (.inr rfl)))), h1, h2⟩
end Go.Proofs.YtnmkhbelmdokmaaGreatDoor
