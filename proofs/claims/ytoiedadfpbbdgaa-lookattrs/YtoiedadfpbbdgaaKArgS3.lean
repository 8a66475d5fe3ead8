/- What a law's walk is told of three texts in an array that came in. -/
import Derived.Test.YtoiedadfpbbdgaaKArgDoc
namespace Go.Proofs.Ytoiedadfpbbdgaa
open Go.RowKit Go.ChangeShapes Go.WideShapes
theorem okWide_arr3 {P : Program} {W : World} {r : Reach} {b0 : Nat} {t e : TypeId} {n : Nat} {v : Value} (ht : P.underlying t = some (.array n e)) (h : Value.okWide P W r b0 t v) : ∃ cs, v = .agg cs ∧ cs.size = P.cellsOf t := by
  simp only [Value.okWide, ht] at h
  obtain ⟨cs, h1, h2, _⟩ := h
  exact ⟨cs, h1, h2⟩
theorem cellsS3 : Try.prog.cellsOf 25 = 3 := by kernel_rfl
theorem cellsS1 : Try.prog.cellsOf 9 = 1 := by kernel_rfl
theorem array3 {cs : Array Value} (h : cs.size = 3) : ∃ c0 c1 c2, cs = #[c0, c1, c2] := by
  obtain ⟨l⟩ := cs
  match l, h with
  | [a, b, c], _ => exact ⟨a, b, c, rfl⟩
theorem weights_array13 {H : Type} {P : Program} {t e : TypeId} {n : Nat} (ht : P.underlying t = some (.array n e)) (xs : List (DataW H)) : (DataW.agg xs).weights P t = DataW.weightsAll P e xs := by
  conv => lhs; unfold DataW.weights
  rw [ht]
/-- Three texts within the form's reach. -/
def ArgS3 (x y z : List UInt8) : Prop := x.length ≤ 140737488351232 ∧ y.length ≤ 140737488351232 ∧ z.length ≤ 140737488351232
set_option maxRecDepth 100000 in
theorem arg_S3 {H : Type} {enc : TypeId × Value → H} {W : World} {base : Nat} {spare : Nat → Bool} {held : Bool} {r : Reach} {b0 : Nat} {v : Value} {d : DataW H} {p : List MemPlace} (hv : Value.okWide Try.prog W r b0 25 v) (h : DataW.Trod enc Try.prog W base spare held 25 v d p) (hw : ∀ n ∈ d.weights Try.prog 25, n ≤ reachBytes) :
    ∃ x y z : List UInt8, v = .agg #[.string (str x), .string (str y), .string (str z)] ∧ ArgS3 x y z := by
  obtain ⟨cs, rfl, hsz⟩ := okWide_arr3 Try.underlying25 hv
  obtain ⟨c0, c1, c2, rfl⟩ := array3 (hsz.trans cellsS3)
  obtain ⟨fuel, hf⟩ := h
  obtain ⟨xs, n, _, hx, hl, hlen, hall⟩ := DataW.trod_array Try.underlying25 hf
  match xs, hlen with
  | [y0, y1, y2], _ =>
    have h0 : DataW.trod enc Try.prog W base spare held n 9 (([c0, c1, c2].drop (0 * Try.prog.cellsOf 9)).take (Try.prog.cellsOf 9)) = some y0 := hall 0 (by omega)
    rw [cellsS1] at h0
    have h1 : DataW.trod enc Try.prog W base spare held n 9 (([c0, c1, c2].drop (1 * Try.prog.cellsOf 9)).take (Try.prog.cellsOf 9)) = some y1 := hall 1 (by omega)
    rw [cellsS1] at h1
    have h2 : DataW.trod enc Try.prog W base spare held n 9 (([c0, c1, c2].drop (2 * Try.prog.cellsOf 9)).take (Try.prog.cellsOf 9)) = some y2 := hall 2 (by omega)
    rw [cellsS1] at h2
    obtain ⟨s0, e0, d0, _⟩ := DataW.trod_string Try.underlying9 h0
    obtain ⟨s1, e1, d1, _⟩ := DataW.trod_string Try.underlying9 h1
    obtain ⟨s2, e2, d2, _⟩ := DataW.trod_string Try.underlying9 h2
    obtain rfl : c0 = .string s0 := by simpa using e0
    obtain rfl : c1 = .string s1 := by simpa using e1
    obtain rfl : c2 = .string s2 := by simpa using e2
    have hd : d = .agg [y0.1, y1.1, y2.1] := congrArg Prod.fst hx
    subst hd
    rw [weights_array13 Try.underlying25] at hw
    have one : ∀ y ∈ [y0.1, y1.1, y2.1], ∀ k ∈ y.weights Try.prog 9, k ≤ reachBytes := fun y hy k hk => hw k (weightsAll_mem13 _ _ _ hy hk)
    have l0 : s0.data.toList.length ≤ 140737488351232 := one y0.1 (by simp) _ (by rw [d0]; unfold DataW.weights; exact List.mem_cons_self ..)
    have l1 : s1.data.toList.length ≤ 140737488351232 := one y1.1 (by simp) _ (by rw [d1]; unfold DataW.weights; exact List.mem_cons_self ..)
    have l2 : s2.data.toList.length ≤ 140737488351232 := one y2.1 (by simp) _ (by rw [d2]; unfold DataW.weights; exact List.mem_cons_self ..)
    exact ⟨s0.data.toList, s1.data.toList, s2.data.toList, by rw [str_self, str_self, str_self], l0, l1, l2⟩
end Go.Proofs.Ytoiedadfpbbdgaa
