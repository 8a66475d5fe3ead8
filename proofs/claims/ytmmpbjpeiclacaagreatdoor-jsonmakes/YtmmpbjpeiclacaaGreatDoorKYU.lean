/- The contracts of the parser's whole, and of Parse. -/
import Derived.Test.YtmmpbjpeiclacaaGreatDoorKYT
import Derived.Test.YtmmpbjpeiclacaaGreatDoorKURepair
set_option linter.unusedVariables false
set_option linter.unusedSimpArgs false
namespace Go.Proofs.YtmmpbjpeiclacaaGreatDoor
open Go.RowKit
abbrev vz : Value := vv (.int .i64 0) (.string ⟨#[]⟩) (.slice none 0 0) (.slice none 0 0)
abbrev fv (y a : Int) : Value := .agg #[.int .i64 y, .int .i64 a]
theorem sizeFault : (Tryz.prog.info? 41).map (·.size) = some 2 := by kernel_rfl
theorem load_F {w : World} {b : Nat} {y a : Int} (h : FAt w b y a) : (loadVar 41 ⟨b, 0, none⟩).run Tryz.prog w = .ok (fv y a) w :=
  run_loadVar_row _ _ _ _ _ _ _ h Tryz.underlying41 rfl sizeFault
theorem FAt.keep {w w' : World} {b : Nat} {y a : Int} (h : FAt w b y a) (e : w'.heap[b]? = w.heap[b]?) : FAt w' b y a := e.trans h
theorem results_vf {fn : Func} {p q : Tmp} {tmps : Array Value} {w : World} {bv bf : Nat} {x0 x1 x2 x3 : Value} {y a : Int} (hr : fn.results = #[.cell p 27, .cell q 41]) (hp : tmps.getD p undef = .pointer (some ⟨bv, 0, none⟩)) (hq : tmps.getD q undef = .pointer (some ⟨bf, 0, none⟩)) (hv : VAt w bv x0 x1 x2 x3) (hf : FAt w bf y a) :
    (results fn tmps).run Tryz.prog w = .ok (.tuple #[vv x0 x1 x2 x3, fv y a]) w := by
  have hp' : tmps[p]?.getD undef = .pointer (some ⟨bv, 0, none⟩) := by simpa using hp
  have hq' : tmps[q]?.getD undef = .pointer (some ⟨bf, 0, none⟩) := by simpa using hq
  simp only [results, hr]
  simp [Sem.run_bind, Result.andThen, hp', hq', asAddr, load_V hv, load_F hf]
theorem store_world {W : World} {bv bf : Nat} {y a y0 a0 : Int} {x0 x1 x2 x3 : Value} (z0 z1 z2 z3 : Value) (hvW : VAt W bv x0 x1 x2 x3) (hfW : FAt W bf y0 a0) (m0 : ¬ bv = bf) (m1 : ¬ bf = bv) :
    VAt ((((((W.setCell ⟨bv, 0, none⟩ z0).setCell ⟨bv, 1, none⟩ z1).setCell ⟨bv, 2, none⟩ z2).setCell ⟨bv, 3, none⟩ z3).setCell ⟨bf, 0, none⟩ (.int .i64 y)).setCell ⟨bf, 1, none⟩ (.int .i64 a)) bv z0 z1 z2 z3 ∧ FAt ((((((W.setCell ⟨bv, 0, none⟩ z0).setCell ⟨bv, 1, none⟩ z1).setCell ⟨bv, 2, none⟩ z2).setCell ⟨bv, 3, none⟩ z3).setCell ⟨bf, 0, none⟩ (.int .i64 y)).setCell ⟨bf, 1, none⟩ (.int .i64 a)) bf y a ∧ ((((((W.setCell ⟨bv, 0, none⟩ z0).setCell ⟨bv, 1, none⟩ z1).setCell ⟨bv, 2, none⟩ z2).setCell ⟨bv, 3, none⟩ z3).setCell ⟨bf, 0, none⟩ (.int .i64 y)).setCell ⟨bf, 1, none⟩ (.int .i64 a)).heap.size = W.heap.size ∧ ((((((W.setCell ⟨bv, 0, none⟩ z0).setCell ⟨bv, 1, none⟩ z1).setCell ⟨bv, 2, none⟩ z2).setCell ⟨bv, 3, none⟩ z3).setCell ⟨bf, 0, none⟩ (.int .i64 y)).setCell ⟨bf, 1, none⟩ (.int .i64 a)).os = W.os ∧ ((((((W.setCell ⟨bv, 0, none⟩ z0).setCell ⟨bv, 1, none⟩ z1).setCell ⟨bv, 2, none⟩ z2).setCell ⟨bv, 3, none⟩ z3).setCell ⟨bf, 0, none⟩ (.int .i64 y)).setCell ⟨bf, 1, none⟩ (.int .i64 a)).tape = W.tape ∧ ((((((W.setCell ⟨bv, 0, none⟩ z0).setCell ⟨bv, 1, none⟩ z1).setCell ⟨bv, 2, none⟩ z2).setCell ⟨bv, 3, none⟩ z3).setCell ⟨bf, 0, none⟩ (.int .i64 y)).setCell ⟨bf, 1, none⟩ (.int .i64 a)).output = W.output ∧ ∀ k, k ≠ bv → k ≠ bf → ((((((W.setCell ⟨bv, 0, none⟩ z0).setCell ⟨bv, 1, none⟩ z1).setCell ⟨bv, 2, none⟩ z2).setCell ⟨bv, 3, none⟩ z3).setCell ⟨bf, 0, none⟩ (.int .i64 y)).setCell ⟨bf, 1, none⟩ (.int .i64 a)).heap[k]? = W.heap[k]? := by
  have e1 : VAt ((((W.setCell ⟨bv, 0, none⟩ z0).setCell ⟨bv, 1, none⟩ z1).setCell ⟨bv, 2, none⟩ z2).setCell ⟨bv, 3, none⟩ z3) bv z0 z1 z2 z3 := Go.Joins.block_setCell (Go.Joins.block_setCell (Go.Joins.block_setCell (Go.Joins.block_setCell hvW _) _) _) _
  have e2 : FAt ((((W.setCell ⟨bv, 0, none⟩ z0).setCell ⟨bv, 1, none⟩ z1).setCell ⟨bv, 2, none⟩ z2).setCell ⟨bv, 3, none⟩ z3) bf y0 a0 := (Below.heap_setCell _ _ _ _ m1).trans ((Below.heap_setCell _ _ _ _ m1).trans ((Below.heap_setCell _ _ _ _ m1).trans ((Below.heap_setCell _ _ _ _ m1).trans hfW)))
  have hB := ((((((Below.refl 0 W).setCell (p := ⟨bv, 0, none⟩) (Nat.zero_le _) z0).setCell (p := ⟨bv, 1, none⟩) (Nat.zero_le _) z1).setCell (p := ⟨bv, 2, none⟩) (Nat.zero_le _) z2).setCell (p := ⟨bv, 3, none⟩) (Nat.zero_le _) z3).setCell (p := ⟨bf, 0, none⟩) (Nat.zero_le _) (.int .i64 y)).setCell (p := ⟨bf, 1, none⟩) (Nat.zero_le _) (.int .i64 a)
  exact ⟨(e1.keep (Below.heap_setCell _ _ _ _ m0)).keep (Below.heap_setCell _ _ _ _ m0), Go.Joins.block_setCell (Go.Joins.block_setCell e2 _) _, by simp, hB.os, hB.tape, hB.output, fun k h1 h2 => (Below.heap_setCell _ _ _ _ h2).trans ((Below.heap_setCell _ _ _ _ h2).trans ((Below.heap_setCell _ _ _ _ h1).trans ((Below.heap_setCell _ _ _ _ h1).trans ((Below.heap_setCell _ _ _ _ h1).trans (Below.heap_setCell _ _ _ _ h1)))))⟩
/-- What Parse answers of a text that is one, and not too long. -/
def WPost (b : Nat) (s : List UInt8) (w : World) (e : Ending) (w' : World) : Prop :=
  Kept b w w' ∧ Ans (Jsn.wholeR s) (fun t _ => ∃ v, e = .returned (.tuple #[v, fv 0 0]) ∧ RV (w.heap.size ≤ ·) w' t v) (fun y k => e = .returned (.tuple #[vz, fv y ((s.length - k : Nat) : Int)]))
set_option maxHeartbeats 4000000 in
set_option maxRecDepth 100000 in
theorem whole_any {b : Nat} {s : List UInt8} {w : World} (h : Ps b s s 0 w) :
    Calls Tryz.prog 42 #[.pointer (some ⟨b, 0, none⟩)] w (WPost b s w) := by
  have hmf : ∀ (fn : Fn) (first cap : Array Value) (w : World), (Instr.makeFunc fn first cap).run Tryz.prog w = .ok (.func fn first cap) w := fun _ _ _ _ => rfl
  have hzv := (zero_of_info zeroVal).1
  have hzf := (zero_of_info zeroFault).1
  have hbl := h.lt
  have hlen := h.len
  have hVal := value_any 64 (by omega) 0 b s (by omega)
  have hB0 : Below w.heap.size w ((w.alloc (.cells z4 27)).alloc (.cells #[.int .i64 0, .int .i64 0] 41)) := ((Below.refl _ w).alloc (Nat.le_refl _) _).alloc (by simp) _
  have hV0 : VAt ((w.alloc (.cells z4 27)).alloc (.cells #[.int .i64 0, .int .i64 0] 41)) w.heap.size (.int .i64 0) (.string ⟨#[]⟩) (.slice none 0 0) (.slice none 0 0) := by
    unfold VAt
    rw [Lib.alloc_old _ _ _ (by simp)]
    exact heap_alloc_last w _
  have hF0 : FAt ((w.alloc (.cells z4 27)).alloc (.cells #[.int .i64 0, .int .i64 0] 41)) (w.heap.size + 1) 0 0 := by
    unfold FAt
    have e : w.heap.size + 1 = (w.alloc (.cells z4 27)).heap.size := by simp
    rw [e]
    exact heap_alloc_last _ _
  have hs0 : w.heap.size + 2 ≤ ((w.alloc (.cells z4 27)).alloc (.cells #[.int .i64 0, .int .i64 0] 41)).heap.size := by simp
  have hP0 := h.step hB0
  have hK0 : Kept b w ((w.alloc (.cells z4 27)).alloc (.cells #[.int .i64 0, .int .i64 0] 41)) := Kept.of hB0
  -- behind a fault
  have caught : ∀ (y : Int) (q : Nat) (W : World) (x0 x1 x2 x3 : Value) (tmps : Array Value), Kept b w W → w.heap.size + 2 ≤ W.heap.size → VAt W w.heap.size x0 x1 x2 x3 → FAt W (w.heap.size + 1) 0 0 → tmps.getD 2 undef = .pointer (some ⟨w.heap.size, 0, none⟩) → tmps.getD 3 undef = .pointer (some ⟨w.heap.size + 1, 0, none⟩) → Jsn.wholeR s = .err y q →
      Leaves Tryz.prog Tryz.f42 tmps (WPost b s w) [{ target := .fn (.func 63) #[.pointer (some ⟨w.heap.size, 0, none⟩), .pointer (some ⟨w.heap.size + 1, 0, none⟩)], args := #[] }] (.panicking [{ v := .iface 41 (fv y ((s.length - q : Nat) : Int)), recovered := false }]) W := by
    intro y q W x0 x1 x2 x3 tmps hK hs hv hf hp hq hE
    refine leaves_cons (f := 63) (args := #[.pointer (some ⟨w.heap.size, 0, none⟩), .pointer (some ⟨w.heap.size + 1, 0, none⟩)]) (by simp) (by simp [go_sem]) ?_
    refine (catch_panicking w.heap.size (w.heap.size + 1) y ((s.length - q : Nat) : Int) x0 x1 x2 x3 0 0 [] W hv hf (by omega)).mono ?_
    rintro e u' w' ⟨rfl, rfl, hv', hf', hs', ⟨ho, ht, hp'⟩, hold⟩
    show Leaves _ _ _ _ [] (settle _) w'
    refine ⟨_, results_vf rfl hp hq hv' hf', ⟨ho.trans hK.os, ht.trans hK.tape, hp'.trans hK.output, by omega, fun k hk hkb => (hold k (by omega) (by omega) (by omega)).trans (hK.block k hk hkb)⟩, ?_⟩
    rw [hE]
    rfl
  have hWh : Jsn.wholeR s = (Jsn.valueR 64 0 s).bind fun p r => if Jsn.skip r = [] then .ok p.1 [] else .err 3 (Jsn.skip r).length := rfl
  cases hv : Jsn.valueR 64 0 s with
  | err y q =>
    have hE : Jsn.wholeR s = .err y q := by rw [hWh, hv]; rfl
    go_enter_defers Tryz.func42, Tryz.ntmps42
    go_wp2_with (first
      | (go_at_call 64; refine (hVal 0 s _ hP0).mono ?_; rintro e w1 ⟨hK1, hA⟩; rw [hv] at hA; replace hA : e = boom s y q := hA; subst hA))
    have hs1 := hK1.size
    exact caught y q w1 _ _ _ _ _ (hK0.trans hK1) (by omega) (hV0.keep (hK1.block _ hV0.lt (by omega))) (hF0.keep (hK1.block _ hF0.lt (by omega))) rfl rfl hE
  | ok pr r =>
    rw [hv] at hWh
    replace hWh : Jsn.wholeR s = if Jsn.skip r = [] then .ok pr.1 [] else .err 3 (Jsn.skip r).length := hWh
    by_cases hsk : Jsn.skip r = []
    · rw [if_pos hsk] at hWh
      go_enter_defers Tryz.func42, Tryz.ntmps42
      go_wp2_with (first
        | (go_at_call 64; refine (hVal 0 s _ hP0).mono ?_; rintro e w1 ⟨hK1, hA⟩; rw [hv] at hA; obtain ⟨v1, rfl, hr1, hP1⟩ := hA; obtain ⟨aa, na, ca, ab, nb, cb, rfl⟩ := hr1.shape; have hs1 := hK1.size; have hV1 := hV0.keep (hK1.block _ hV0.lt (by omega)); have hF1 := hF0.keep (hK1.block _ hF0.lt (by omega)); have hV2 := setRow_V hV1 (.int .i64 pr.1.kind) (.string (str pr.1.text)) (.slice aa na ca) (.slice ab nb cb); have hF2 := hF1.keep (setRow_other (b := w.heap.size) #[.int .i64 pr.1.kind, .string (str pr.1.text), .slice aa na ca, .slice ab nb cb] (by omega)); have hP2 := hP1.keep (setRow_other (b := w.heap.size) #[.int .i64 pr.1.kind, .string (str pr.1.text), .slice aa na ca, .slice ab nb cb] (by omega)); have hK2 := (hK0.trans hK1).row (Nat.le_refl _) #[.int .i64 pr.1.kind, .string (str pr.1.text), .slice aa na ca, .slice ab nb cb]; have hl2 := setRow_len w1 w.heap.size #[.int .i64 pr.1.kind, .string (str pr.1.text), .slice aa na ca, .slice ab nb cb]; have hO2 : ∀ k, k ≠ w.heap.size → (w1.setRow w.heap.size #[.int .i64 pr.1.kind, .string (str pr.1.text), .slice aa na ca, .slice ab nb cb]).heap[k]? = w1.heap[k]? := fun k hk => setRow_other _ hk)
        | ((with_reducible show wpList _ _ _ ({ op := Op.store 27 _ _, .. } :: _) _ _); refine wpList_store_V _ _ rfl rfl _ _ _ _ _ rfl rfl hV1 (ones_mk _ _ _ _ _ _ _ _) ?_; generalize w1.setRow w.heap.size #[.int .i64 pr.1.kind, .string (str pr.1.text), .slice aa na ca, .slice ab nb cb] = W2 at hV2 hF2 hP2 hK2 hl2 hO2 ⊢)
        | (go_at_call 65; refine (skip_any hP2).mono ?_; rintro e w3 ⟨rfl, hP3, hK3⟩; have hs3 := hK3.size; have hV3 := hV2.keep (hK3.block _ hV2.lt (by omega)); have hF3 := hF2.keep (hK3.block _ hF2.lt (by omega)); have c0 := hP3.c0; obtain ⟨p, hp, c1⟩ := hP3.c1; have hz := str_size s))
      rw [hsk] at hP3 hp
      simp only [List.length_nil, Nat.add_zero] at hp
      subst hp
      go_region
      go_wp2_with fail
      have v0 : w3.cell? ⟨w.heap.size, 0, none⟩ = some (.int .i64 pr.1.kind) := hV3.cell 0
      have v1 : w3.cell? ⟨w.heap.size, 1, none⟩ = some (.string (str pr.1.text)) := hV3.cell 1
      have v2 : w3.cell? ⟨w.heap.size, 2, none⟩ = some (.slice aa na ca) := hV3.cell 2
      have v3 : w3.cell? ⟨w.heap.size, 3, none⟩ = some (.slice ab nb cb) := hV3.cell 3
      have g0 := hV3.free 0
      have g1 := hV3.free 1
      have g2 := hV3.free 2
      have g3 := hV3.free 3
      have u0 : w3.cell? ⟨w.heap.size + 1, 0, none⟩ = some (.int .i64 0) := hF3.cell 0
      have u1 : w3.cell? ⟨w.heap.size + 1, 1, none⟩ = some (.int .i64 0) := hF3.cell 1
      have k0 := hF3.free 0
      have k1 := hF3.free 1
      go_region
      have hc := store_world (y := 0) (a := 0) (.int .i64 pr.1.kind) (.string (str pr.1.text)) (.slice aa na ca) (.slice ab nb cb) hV3 hF3 (by omega) (by omega)
      generalize ((((((w3.setCell ⟨w.heap.size, 0, none⟩ (.int .i64 pr.1.kind)).setCell ⟨w.heap.size, 1, none⟩ (.string (str pr.1.text))).setCell ⟨w.heap.size, 2, none⟩ (.slice aa na ca)).setCell ⟨w.heap.size, 3, none⟩ (.slice ab nb cb)).setCell ⟨w.heap.size + 1, 0, none⟩ (.int .i64 0)).setCell ⟨w.heap.size + 1, 1, none⟩ (.int .i64 0)) = W4 at hc ⊢
      obtain ⟨hV4, hF4, hs4, ho4, ht4, hp4, hO4⟩ := hc
      clear v0 v1 v2 v3 g0 g1 g2 g3 u0 u1 k0 k1 c0 c1
      go_wp2_with fail
      refine leaves_cons (f := 63) (args := #[.pointer (some ⟨w.heap.size, 0, none⟩), .pointer (some ⟨w.heap.size + 1, 0, none⟩)]) (by simp) (by simp [go_sem]) ?_
      refine (catch_idle w.heap.size (w.heap.size + 1) _).mono ?_
      rintro e u' w5 ⟨rfl, rfl, hB5⟩
      have hB6 : Below W4.heap.size W4 w5 := ⟨hB5.os, hB5.tape, hB5.output, hB5.size, hB5.block⟩
      have hs5 := hB6.size
      refine ⟨_, results_vf (w := w5) rfl rfl rfl (hV4.keep (hB6.block _ (by omega))) (hF4.keep (hB6.block _ (by omega))), ⟨hB6.os.trans (ho4.trans (hK2.trans hK3).os), hB6.tape.trans (ht4.trans (hK2.trans hK3).tape), hB6.output.trans (hp4.trans (hK2.trans hK3).output), by omega, fun k hk hkb => ?_⟩, ?_⟩
      · rw [hB6.block k (by omega), hO4 k (by omega) (by omega)]
        exact (hK2.trans hK3).block k hk hkb
      · rw [hWh]
        refine ⟨_, rfl, RV.keep (by omega) (fun k hk hl => ⟨by omega, ?_⟩) hr1⟩
        rw [hB6.block k (by omega), hO4 k (by omega) (by omega), hK3.block k (by omega) (by omega), hO2 k (by omega)]
    · rw [if_neg hsk] at hWh
      have hne : 0 < (Jsn.skip r).length := List.length_pos_iff.2 hsk
      go_enter_defers Tryz.func42, Tryz.ntmps42
      go_wp2_with (first
        | (go_at_call 64; refine (hVal 0 s _ hP0).mono ?_; rintro e w1 ⟨hK1, hA⟩; rw [hv] at hA; obtain ⟨v1, rfl, hr1, hP1⟩ := hA; obtain ⟨aa, na, ca, ab, nb, cb, rfl⟩ := hr1.shape; have hs1 := hK1.size; have hV1 := hV0.keep (hK1.block _ hV0.lt (by omega)); have hF1 := hF0.keep (hK1.block _ hF0.lt (by omega)); have hV2 := setRow_V hV1 (.int .i64 pr.1.kind) (.string (str pr.1.text)) (.slice aa na ca) (.slice ab nb cb); have hF2 := hF1.keep (setRow_other (b := w.heap.size) #[.int .i64 pr.1.kind, .string (str pr.1.text), .slice aa na ca, .slice ab nb cb] (by omega)); have hP2 := hP1.keep (setRow_other (b := w.heap.size) #[.int .i64 pr.1.kind, .string (str pr.1.text), .slice aa na ca, .slice ab nb cb] (by omega)); have hK2 := (hK0.trans hK1).row (Nat.le_refl _) #[.int .i64 pr.1.kind, .string (str pr.1.text), .slice aa na ca, .slice ab nb cb]; have hl2 := setRow_len w1 w.heap.size #[.int .i64 pr.1.kind, .string (str pr.1.text), .slice aa na ca, .slice ab nb cb]; have hO2 : ∀ k, k ≠ w.heap.size → (w1.setRow w.heap.size #[.int .i64 pr.1.kind, .string (str pr.1.text), .slice aa na ca, .slice ab nb cb]).heap[k]? = w1.heap[k]? := fun k hk => setRow_other _ hk)
        | ((with_reducible show wpList _ _ _ ({ op := Op.store 27 _ _, .. } :: _) _ _); refine wpList_store_V _ _ rfl rfl _ _ _ _ _ rfl rfl hV1 (ones_mk _ _ _ _ _ _ _ _) ?_; generalize w1.setRow w.heap.size #[.int .i64 pr.1.kind, .string (str pr.1.text), .slice aa na ca, .slice ab nb cb] = W2 at hV2 hF2 hP2 hK2 hl2 hO2 ⊢)
        | (go_at_call 65; refine (skip_any hP2).mono ?_; rintro e w3 ⟨rfl, hP3, hK3⟩; have hs3 := hK3.size; have hV3 := hV2.keep (hK3.block _ hV2.lt (by omega)); have hF3 := hF2.keep (hK3.block _ hF2.lt (by omega)); have c0 := hP3.c0; obtain ⟨p, hp, c1⟩ := hP3.c1; have hz := str_size s))
      go_region
      go_wp2_with fail
      obtain rfl : p = s.length - (Jsn.skip r).length := by omega
      exact caught 3 (Jsn.skip r).length w3.drew _ _ _ _ _ ((hK2.trans hK3).drew) (by show w.heap.size + 2 ≤ w3.heap.size; omega) hV3 hF3 rfl rfl hWh
end Go.Proofs.YtmmpbjpeiclacaaGreatDoor
