/- The contracts of what a parser of package url can do with what is left of a text: upTo, took, skip. -/
import Derived.Test.YtlkhjloeonbjaaaGreatDoorVClean
import Derived.Test.YtlkhjloeonbjaaaGreatDoorUrlParse
import Derived.Lib.SmallJoins
namespace Go.Proofs.YtlkhjloeonbjaaaGreatDoor
open Go.RowKit
/-- A URL as a value, and a parser's cells. -/
def uCells (u : Url.U) : Array Value := #[.string (str u.sch), .string (str u.host), .int .i64 u.port, .string (str u.path), .string (str u.query), .string (str u.frag), .bool u.hq, .bool u.hf]
def uVal (u : Url.U) : Value := .agg (uCells u)
def pCells (t : List UInt8) (u : Url.U) : Array Value := #[.string (str t), .string (str u.sch), .string (str u.host), .int .i64 u.port, .string (str u.path), .string (str u.query), .string (str u.frag), .bool u.hq, .bool u.hf]
def IsP (w : World) (b : Nat) (t : List UInt8) (u : Url.U) : Prop := w.heap[b]? = some (.cells (pCells t u) 43 (0, 0))
theorem IsP.below {w w' : World} {b : Nat} {t : List UInt8} {u : Url.U} (h : IsP w b t u) (hb : Below w.heap.size w w') : IsP w' b t u :=
  (hb.block b (Array.getElem?_eq_some_iff.1 h).1).trans h
theorem IsP.lt {w : World} {b : Nat} {t : List UInt8} {u : Url.U} (h : IsP w b t u) : b < w.heap.size := (Array.getElem?_eq_some_iff.1 h).1
theorem IsP.cell {w : World} {b : Nat} {t : List UInt8} {u : Url.U} (h : IsP w b t u) (i : Nat) : w.cell? ⟨b, i, none⟩ = (pCells t u)[i]? := Lib.cell_of_heap h i
theorem IsP.frozen {w : World} {b : Nat} {t : List UInt8} {u : Url.U} (h : IsP w b t u) (i : Nat) : w.frozen? ⟨b, i, none⟩ = false := Lib.frozen_of_heap h i
theorem IsP.text {w : World} {b : Nat} {t : List UInt8} {u : Url.U} (h : IsP w b t u) (r : List UInt8) : IsP (w.setCell ⟨b, 0, none⟩ (.string (str r))) b r u := Go.Joins.block_setCell h _
/-- The world behind: the blocks ahead of the parser are as they were. -/
theorem belowP {w w' : World} {b : Nat} (hb : Below w.heap.size w w') (h : b < w.heap.size) : Below b w w' := hb.mono (by omega)
theorem contains_low {e : List UInt8} (h : e.all (fun c => decide (c.toNat < 128)) = true) : ∀ c ∈ e, c.toNat < 128 := fun c hc => of_decide_eq_true (List.all_eq_true.1 h c hc)
set_option maxHeartbeats 2000000 in
set_option maxRecDepth 100000 in
theorem upTo_any (e t : List UInt8) (u : Url.U) (b : Nat) (w : World) (hp : IsP w b t u) (h1 : 1 ≤ e.length) (hl : e.length ≤ 1000) (hc : e.all (fun c => decide (c.toNat < 128)) = true) (hz : t.length ≤ 1000000000) :
    Calls Tryz.prog 56 #[.pointer (some ⟨b, 0, none⟩), .string (str e)] w fun r w' => r = .returned (.string (str (Url.upto e t))) ∧ IsP w' b (Url.rest e t) u ∧ Below b w w' := by
  have hi := Url.index_cut e t
  have hge := Lib.indexAny_ge e t
  have c0 : w.cell? ⟨b, 0, none⟩ = some (.string (str t)) := hp.cell 0
  have hsz := str_size t
  have hlt := hp.lt
  by_cases hn : Lib.indexAny t e < 0
  · obtain ⟨e1, e2⟩ := hi.1 hn
    have HE : Hid (Url.upto e t = t ∧ Url.rest e t = []) := ⟨e1, e2⟩
    have x1 : (str t).extract 0 t.length = str t := by rw [str_to, List.take_length]
    have x2 : (str t).extract t.length t.length = str [] := by rw [str_from, List.drop_length]
    clear hi e1 e2
    go_enter Tryz.func56, Tryz.ntmps56
    go_wp2_with (go_at_call 85; refine (IndexAny_any t e _ h1 hl (contains_low hc) hz).mono ?_; rintro r w1 ⟨rfl, hb1⟩; have hp1 := hp.below hb1; have c1 : w1.cell? ⟨b, 0, none⟩ = some (.string (str t)) := hp1.cell 0; have f1 := hp1.frozen 0)
    go_ret
    exact ⟨by rw [HE.out.1]; rfl, by rw [HE.out.2]; exact hp1.text [], (belowP hb1 hlt).setCell (Nat.le_refl _) _⟩
  · obtain ⟨e1, e2, e3⟩ := hi.2 (by omega)
    obtain ⟨n, hin⟩ : ∃ n : Nat, Lib.indexAny t e = n := ⟨(Lib.indexAny t e).toNat, by omega⟩
    rw [hin, Int.toNat_natCast] at e1 e2
    rw [hin] at e3
    have HE : Hid (Url.upto e t = t.take n ∧ Url.rest e t = t.drop n) := ⟨e1, e2⟩
    have x1 : (str t).extract 0 n = str (t.take n) := str_to t n
    have x2 : (str t).extract n t.length = str (t.drop n) := str_from t n
    have e4 : (n : Int) ≤ (t.length : Int) := by omega
    clear hi e1 e2 hn hge
    go_enter Tryz.func56, Tryz.ntmps56
    go_wp2_with (go_at_call 85; refine (IndexAny_any t e _ h1 hl (contains_low hc) hz).mono ?_; rw [hin]; rintro r w1 ⟨rfl, hb1⟩; have hp1 := hp.below hb1; have c1 : w1.cell? ⟨b, 0, none⟩ = some (.string (str t)) := hp1.cell 0; have f1 := hp1.frozen 0)
    go_ret
    exact ⟨by rw [HE.out.1]; rfl, by rw [HE.out.2]; exact hp1.text _, (belowP hb1 hlt).setCell (Nat.le_refl _) _⟩
theorem prefix_has (b : UInt8) (t : List UInt8) : Lib.hasPrefix t [b] = Url.hasB b t := by
  unfold Lib.hasPrefix Url.hasB
  cases t with
  | nil => rfl
  | cons x r =>
    simp only [List.isPrefixOf, List.head?_cons, Bool.and_true]
    rw [Bool.eq_iff_iff]
    simp only [beq_iff_eq, Option.some.injEq]
    exact ⟨fun h => h.symm, fun h => h.symm⟩
theorem prefix_cut (b : UInt8) (t : List UInt8) : Lib.trimPrefix t [b] = if Url.hasB b t = true then t.drop 1 else t := by
  unfold Lib.trimPrefix
  rw [prefix_has]
  rfl
set_option maxHeartbeats 2000000 in
set_option maxRecDepth 100000 in
theorem took_any (x : UInt8) (t : List UInt8) (u : Url.U) (b : Nat) (w : World) (hp : IsP w b t u) :
    Calls Tryz.prog 57 #[.pointer (some ⟨b, 0, none⟩), .string ⟨#[x]⟩] w fun r w' => r = .returned (.bool (Url.hasB x t)) ∧ IsP w' b (if Url.hasB x t = true then t.drop 1 else t) u ∧ Below b w w' := by
  have c0 : w.cell? ⟨b, 0, none⟩ = some (.string (str t)) := hp.cell 0
  have f0 := hp.frozen 0
  have call : ∀ W : World, Calls Tryz.prog 86 #[.string (str t), .string ⟨#[x]⟩] W fun r w' => r = .returned (.tuple #[.string (str (if Url.hasB x t = true then t.drop 1 else t)), .bool (Url.hasB x t)]) ∧ w' = W := by
    intro W
    have := Tryz.strings_CutPrefix (str t) ⟨#[x]⟩ W
    rw [str_data, prefix_cut, prefix_has] at this
    exact this
  obtain ⟨r0, hr0⟩ : ∃ r0, (if Url.hasB x t = true then t.drop 1 else t) = r0 := ⟨_, rfl⟩
  rw [hr0] at call ⊢
  clear hr0
  go_enter Tryz.func57, Tryz.ntmps57
  go_wp2_with (go_at_call 86; refine (call _).mono ?_; rintro r w1 ⟨rfl, hw1⟩; rw [hw1]; clear hw1)
  go_ret
  exact ⟨rfl, hp.text _, (Below.refl b w).setCell (p := ⟨b, 0, none⟩) (Nat.le_refl _) _⟩
set_option maxHeartbeats 2000000 in
set_option maxRecDepth 100000 in
theorem skip_any (t : List UInt8) (u : Url.U) (b : Nat) (w : World) (hp : IsP w b t u) :
    Calls Tryz.prog 59 #[.pointer (some ⟨b, 0, none⟩), .string ⟨#[47, 92]⟩] w fun r w' => r = .returned (.bool (decide ((Url.unsl t).length < t.length))) ∧ IsP w' b (Url.unsl t) u ∧ Below b w w' := by
  have c0 : w.cell? ⟨b, 0, none⟩ = some (.string (str t)) := hp.cell 0
  have f0 := hp.frozen 0
  have hlt := hp.lt
  have hsz := str_size t
  have call : ∀ W : World, Calls Tryz.prog 89 #[.string (str t), .string ⟨#[47, 92]⟩] W fun r w' => r = .returned (.string (str (Url.unsl t))) ∧ Below W.heap.size W w' := by
    intro W
    have := TrimLeft_any t [47, 92] W (by decide) (by decide) (by decide)
    have e : ([47, 92] : List UInt8).contains = Url.slash := by
      funext c
      rw [Bool.eq_iff_iff]
      simp [Url.slash]
    rw [e] at this
    exact this
  have hul : (Url.unsl t).length ≤ t.length := (List.dropWhile_sublist _).length_le
  obtain ⟨r0, hr0⟩ : ∃ r0, Url.unsl t = r0 := ⟨_, rfl⟩
  rw [hr0] at call hul ⊢
  clear hr0
  have hs0 := str_size r0
  go_enter Tryz.func59, Tryz.ntmps59
  go_wp2_with (go_at_call 89; refine (call _).mono ?_; rintro r w1 ⟨rfl, hb1⟩; have hp1 := hp.below hb1; have c1 : w1.cell? ⟨b, 0, none⟩ = some (.string (str t)) := hp1.cell 0; have f1 := hp1.frozen 0)
  go_ret
  exact ⟨ret_bool (by rw [decide_eq_decide]), hp1.text _, (belowP hb1 hlt).setCell (Nat.le_refl _) _⟩
end Go.Proofs.YtlkhjloeonbjaaaGreatDoor
