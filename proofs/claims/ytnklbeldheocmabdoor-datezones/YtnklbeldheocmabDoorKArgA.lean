/- What a law's walk is told of two bytes in an array that came in. -/
import Derived.Test.YtnklbeldheocmabDoorKGround
import Derived.OpenShut
import Derived.ChangeArms
namespace Go.Proofs.YtnklbeldheocmabDoor
open Go.RowKit Go.ChangeShapes Go.WideShapes
theorem okWide_arr {P : Program} {W : World} {r : Reach} {b0 : Nat} {t e : TypeId} {n : Nat} {v : Value} (ht : P.underlying t = some (.array n e)) (h : Value.okWide P W r b0 t v) : ∃ cs, v = .agg cs ∧ cs.size = P.cellsOf t := by
  simp only [Value.okWide, ht] at h
  obtain ⟨cs, h1, h2, _⟩ := h
  exact ⟨cs, h1, h2⟩
theorem cells2 : Tryd.prog.cellsOf 22 = 2 := by kernel_rfl
theorem cellsU8 : Tryd.prog.cellsOf 5 = 1 := by kernel_rfl
theorem array2 {cs : Array Value} (h : cs.size = 2) : ∃ c0 c1, cs = #[c0, c1] := by
  obtain ⟨l⟩ := cs
  match l, h with
  | [a, b], _ => exact ⟨a, b, rfl⟩
set_option maxRecDepth 100000 in
theorem arg_two8 {H : Type} {enc : TypeId × Value → H} {W : World} {base : Nat} {spare : Nat → Bool} {held : Bool} {r : Reach} {b0 : Nat} {v : Value} {d : DataW H} {p : List MemPlace} (hv : Value.okWide Tryd.prog W r b0 22 v) (h : DataW.Trod enc Tryd.prog W base spare held 22 v d p) :
    ∃ a b : Int, v = .agg #[.int .u8 a, .int .u8 b] ∧ (Lit.int .u8 a).wf = true ∧ (Lit.int .u8 b).wf = true := by
  obtain ⟨cs, rfl, hsz⟩ := okWide_arr Tryd.underlying22 hv
  obtain ⟨c0, c1, rfl⟩ := array2 (hsz.trans cells2)
  obtain ⟨fuel, hf⟩ := h
  obtain ⟨xs, n, _, hx, hl, hlen, hall⟩ := DataW.trod_array Tryd.underlying22 hf
  match xs, hlen with
  | [y0, y1], _ =>
    have h0 : DataW.trod enc Tryd.prog W base spare held n 5 (([c0, c1].drop (0 * Tryd.prog.cellsOf 5)).take (Tryd.prog.cellsOf 5)) = some y0 := hall 0 (by omega)
    rw [cellsU8] at h0
    have h1 : DataW.trod enc Tryd.prog W base spare held n 5 (([c0, c1].drop (1 * Tryd.prog.cellsOf 5)).take (Tryd.prog.cellsOf 5)) = some y1 := hall 1 (by omega)
    rw [cellsU8] at h1
    obtain ⟨x0, e0, _, w0⟩ := DataW.trod_int Tryd.underlying5 h0
    obtain ⟨x1, e1, _, w1⟩ := DataW.trod_int Tryd.underlying5 h1
    obtain rfl : c0 = .int .u8 x0 := by simpa using e0
    obtain rfl : c1 = .int .u8 x1 := by simpa using e1
    exact ⟨x0, x1, rfl, w0, w1⟩
end Go.Proofs.YtnklbeldheocmabDoor
