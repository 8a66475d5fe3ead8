/- Texts laid as one. -/
import Derived.Test.YtmmpbjpeiclacaaGreatDoorKZG
import Derived.Test.YtmmpbjpeiclacaaGreatDoorKYV
import Derived.Test.YtmmpbjpeiclacaaGreatDoorKArgV
/- The contract of the law's alive. -/
set_option linter.unusedVariables false
set_option linter.unusedSimpArgs false
namespace Jsn
def exS : List UInt8 := [123, 34, 97, 34, 58, 91, 49, 44, 34, 92, 117, 48, 48, 101, 57, 34, 93, 125]
def exT : List UInt8 := [123, 34, 97, 34, 58, 91, 49, 44, 34, 195, 169, 34, 93, 125]
theorem ex_fault : faultJ exS = (0, 0) := by decide +kernel
theorem ex_may : mayJ (parseJ exS) = true := by decide +kernel
theorem ex_text : textJ (parseJ exS) = exT := by decide +kernel
theorem ex_size : sizeJ (parseJ exS) ≤ 1000000000 := by decide +kernel
end Jsn
namespace Go.Proofs.YtmmpbjpeiclacaaGreatDoor
open Go.RowKit
/-- A value's block, and its fault's behind it. -/
structure VF (W : World) (b : Nat) (x0 x1 x2 x3 : Value) (y a : Int) : Prop where
  v : W.heap[b]? = some (.cells #[x0, x1, x2, x3] 27 (0, 0))
  f : W.heap[b + 1]? = some (.cells #[.int .i64 y, .int .i64 a] 41 (0, 0))
theorem VF.keep {W W' : World} {b : Nat} {x0 x1 x2 x3 : Value} {y a : Int} (h : VF W b x0 x1 x2 x3 y a) (hB : Below W.heap.size W W') : VF W' b x0 x1 x2 x3 y a :=
  ⟨(hB.block _ (Array.getElem?_eq_some_iff.1 h.v).1).trans h.v, (hB.block _ (Array.getElem?_eq_some_iff.1 h.f).1).trans h.f⟩
theorem VF.cells {W : World} {b : Nat} {x0 x1 x2 x3 : Value} {y a : Int} (h : VF W b x0 x1 x2 x3 y a) : W.cell? ⟨b, 0, none⟩ = some x0 ∧ W.cell? ⟨b, 1, none⟩ = some x1 ∧ W.cell? ⟨b, 2, none⟩ = some x2 ∧ W.cell? ⟨b, 3, none⟩ = some x3 ∧ W.cell? ⟨b + 1, 0, none⟩ = some (.int .i64 y) ∧ W.cell? ⟨b + 1, 1, none⟩ = some (.int .i64 a) := by
  refine ⟨?_, ?_, ?_, ?_, ?_, ?_⟩
  · rw [Lib.cell_of_heap h.v]; rfl
  · rw [Lib.cell_of_heap h.v]; rfl
  · rw [Lib.cell_of_heap h.v]; rfl
  · rw [Lib.cell_of_heap h.v]; rfl
  · rw [Lib.cell_of_heap h.f]; rfl
  · rw [Lib.cell_of_heap h.f]; rfl
theorem VF.new (w : World) (x0 x1 x2 x3 : Value) (y a : Int) : VF ((w.alloc (.cells #[x0, x1, x2, x3] 27)).alloc (.cells #[.int .i64 y, .int .i64 a] 41)) w.heap.size x0 x1 x2 x3 y a ∧ Below w.heap.size w ((w.alloc (.cells #[x0, x1, x2, x3] 27)).alloc (.cells #[.int .i64 y, .int .i64 a] 41)) := by
  have hb : Below (w.alloc (.cells #[x0, x1, x2, x3] 27)).heap.size (w.alloc (.cells #[x0, x1, x2, x3] 27)) ((w.alloc (.cells #[x0, x1, x2, x3] 27)).alloc (.cells #[.int .i64 y, .int .i64 a] 41)) := (Below.refl _ _).alloc (Nat.le_refl _) _
  have hs : (w.alloc (.cells #[x0, x1, x2, x3] 27)).heap.size = w.heap.size + 1 := by simp
  refine ⟨⟨(hb.block w.heap.size (by omega)).trans (val_new _ _), ?_⟩, bel ((Below.refl _ _).alloc (Nat.le_refl _) _) hb⟩
  have := val_new (w.alloc (.cells #[x0, x1, x2, x3] 27)) (.cells #[.int .i64 y, .int .i64 a] 41)
  rw [hs] at this
  exact this
theorem ex_textR : textR (Jsn.parseJ Jsn.exS) = (Jsn.exT, 0) := by
  unfold textR
  rw [if_pos Jsn.ex_may, Jsn.ex_text, if_pos (by decide)]
set_option maxHeartbeats 4000000 in
set_option maxRecDepth 100000 in
theorem alive7_any (w : World) :
    Calls Tryz.prog 4 #[] w fun e w' => e = .returned (.bool true) ∧ Below w.heap.size w w' := by
  have hP := Parse_any Jsn.exS w (by decide)
  rw [Jsn.ex_fault] at hP
  have hsz := Jsn.ex_size
  have hT := fun v w hv => Text_any (Jsn.parseJ Jsn.exS) v w hv hsz
  have hM := fun v w hv => May_any (Jsn.parseJ Jsn.exS) v w hv hsz
  rw [ex_textR] at hT
  rw [Jsn.ex_may] at hM
  clear hsz
  have hx : (str Jsn.exT).toList = [123, 34, 97, 34, 58, 91, 49, 44, 34, 195, 169, 34, 93, 125] := str_list Jsn.exT
  generalize Jsn.parseJ Jsn.exS = t at hP hT hM
  go_enter Tryz.func4, Tryz.ntmps4
  go_wp2_with (first
    | (go_at_call 19; refine hP.mono ?_; rintro e w1 ⟨hB1, v, rfl, hrv⟩; obtain ⟨aa, na, ca, ab, nb, cb, rfl⟩ := hrv.shape; have hr1 := RV.keep (Q' := fun _ => True) (Nat.le_refl _) (fun k _ _ => ⟨trivial, rfl⟩) hrv; clear hP; obtain ⟨hV, hN⟩ := VF.new w1 (.int .i64 t.kind) (.string (str t.text)) (.slice aa na ca) (.slice ab nb cb) 0 0; have hB2 := bel hB1 hN; have hr2 := RV.below hr1 hN)
    | (go_at_call 20; refine (hT _ _ hr2).mono ?_; rintro e w2 ⟨rfl, hB3⟩; clear hT; have hB4 := bel hB2 hB3; have hr3 := hr2.below hB3; have hV3 := hV.keep hB3; obtain ⟨k0, k1, k2, k3, k4, k5⟩ := hV3.cells)
    | (go_at_call 21; refine (hM _ _ hr3).mono ?_; rintro e w3 ⟨rfl, hB5⟩; clear hM))
  go_ret
  exact ⟨rfl, bel hB4 hB5⟩
end Go.Proofs.YtmmpbjpeiclacaaGreatDoor
/- The contracts of the law's size and far. -/
set_option linter.unusedVariables false
set_option linter.unusedSimpArgs false
namespace Jsn
theorem lenK_take {ks : List (List UInt8)} {j : Nat} (h : j < ks.length) : lenK (ks.take (j + 1)) = lenK (ks.take j) + ks[j].length := by
  unfold lenK
  rw [List.take_succ_eq_append_getElem h, List.map_append, List.sum_append]
  simp
theorem sizeL_app : ∀ a c : List J, sizeL (a ++ c) = sizeL a + sizeL c
  | [], c => by rw [sizeL_nil]; simp
  | x :: a, c => by rw [List.cons_append, sizeL_cons, sizeL_cons, sizeL_app a c]; omega
theorem sizeL_take {cs : List J} {j : Nat} (h : j < cs.length) : sizeL (cs.take (j + 1)) = sizeL (cs.take j) + sizeJ cs[j] := by
  rw [List.take_succ_eq_append_getElem h, sizeL_app, sizeL_cons, sizeL_nil]
  omega
end Jsn
namespace Go.Proofs.YtmmpbjpeiclacaaGreatDoor
open Go.RowKit
/-- What size answers: more than was left, or the size. -/
def SPost (t : Jsn.J) (left : Nat) (w : World) (e : Ending) (w' : World) : Prop := Below w.heap.size w w' ∧ ∃ r : Nat, e = .returned (.int .i64 (r : Int)) ∧ r ≤ left + 1125899906842624 ∧ (r ≤ left → Jsn.sizeJ t ≤ r)
def SizeC (t : Jsn.J) : Prop := ∀ (v : Value) (d left : Nat) (w : World), RV (fun _ => True) w t v → Jsn.Fit t → d ≤ 81 → left ≤ 3000 → Calls Tryz.prog 22 #[v, .int .i64 (d : Int), .int .i64 (left : Int)] w (SPost t left w)
set_option maxHeartbeats 4000000 in
set_option maxRecDepth 100000 in
theorem size_all : ∀ t, SizeC t := by
  intro tr
  induction tr using Jsn.J.ind with
  | h k t ks cs ih =>
    intro v d left w hv hfit hd hleft
    obtain ⟨kv, cv, rfl, hks, hcs⟩ := RV_mk.1 hv
    obtain ⟨a1, c1, rfl⟩ := hks.form
    obtain ⟨a2, c2, rfl⟩ := hcs.form
    cases hfit with
    | mk f1 f2 f3 f4 f5 f6 f7 =>
    clear f1 f2
    have htz := str_size t
    unfold SPost
    have hA : Below w.heap.size w (w.alloc (.cells #[.int .i64 k, .string (str t), .slice a1 ks.length c1, .slice a2 cs.length c2] 27)) := (Below.refl _ w).alloc (Nat.le_refl _) _
    have hbx : (w.alloc (.cells #[.int .i64 k, .string (str t), .slice a1 ks.length c1, .slice a2 cs.length c2] 27)).heap[w.heap.size]? = some (.cells #[.int .i64 k, .string (str t), .slice a1 ks.length c1, .slice a2 cs.length c2] 27 (0, 0)) := val_new _ _
    by_cases hbig : 80 < d ∨ 4000 < cs.length ∨ 4000 < ks.length
    · go_enter Tryz.func22, Tryz.ntmps22
      go_wp2
      all_goals (
        go_ret
        exact ⟨hA, left + 1, by rfl, by omega, fun h => absurd h (by omega)⟩)
    · have g1 : d ≤ 80 := by omega
      have g2 : cs.length ≤ 4000 := by omega
      have g3 : ks.length ≤ 4000 := by omega
      clear hbig f4 f5
      have HS : Hid (Jsn.sizeJ (.mk k t ks cs) = 1 + t.length + cs.length + ks.length + Jsn.lenK ks + Jsn.sizeL cs) := Jsn.sizeJ_mk k t ks cs
      generalize Jsn.sizeJ (.mk k t ks cs) = Z at HS ⊢
      go_enter Tryz.func22, Tryz.ntmps22
      go_wp2
      go_loopw [7, 8] (fun n i wr => ∃ j m : Nat, n = .int .i64 m ∧ i = .int .i64 j ∧ j ≤ ks.length ∧ Below w.heap.size w wr ∧ wr.heap[w.heap.size]? = some (.cells #[.int .i64 k, .string (str t), .slice a1 ks.length c1, .slice a2 cs.length c2] 27 (0, 0)) ∧ m ≤ left + 1125899906842624 ∧ Hid (1 + t.length + cs.length + ks.length + Jsn.lenK (ks.take j) = m)) (fun _ i _ => ks.length - (intOf i).toNat)
      case atStart => exact ⟨0, 1 + t.length + cs.length + ks.length, by go_num, rfl, Nat.zero_le _, hA, hbx, by omega, rfl⟩
      case round =>
        obtain ⟨j, m, rfl, rfl, hj, hB, hb, hm, HM⟩ := hrel
        have p2 : wr.cell? ⟨w.heap.size, 2, none⟩ = some (.slice a1 ks.length c1) := by rw [Lib.cell_of_heap hb]; rfl
        have p3 : wr.cell? ⟨w.heap.size, 3, none⟩ = some (.slice a2 cs.length c2) := by rw [Lib.cell_of_heap hb]; rfl
        by_cases hgo : j < ks.length ∧ m ≤ left
        · obtain ⟨hlt, hml⟩ := hgo
          have hat : ks[j]? = some ks[j] := List.getElem?_eq_getElem hlt
          obtain ⟨g, o, rfl, hcl, _, hgl, e0⟩ := hks.at hat
          have hkg := hB.block g hgl
          have f0 := (cell_keep hkg (o := o + j)).trans e0
          have hkz := f6 _ (List.getElem_mem hlt)
          have hz := str_size ks[j]
          have HN : Hid (1 + t.length + cs.length + ks.length + Jsn.lenK (ks.take (j + 1)) = m + ks[j].length) := by show _ = _; rw [Jsn.lenK_take hlt, ← HM.out]; omega
          clear hat HM
          generalize ks[j] = kj at *
          go_wp2
          go_roundw
          case rel => exact ⟨j + 1, m + kj.length, by go_num, by go_num, by omega, hB, hb, by omega, HN⟩
          case measure => simp [intOf]; omega
        · have HQ : Hid (m ≤ left → 1 + t.length + cs.length + ks.length + Jsn.lenK ks + Jsn.sizeL (cs.take 0) ≤ m) := by
            intro hml
            have hje : j = ks.length := by omega
            rw [← HM.out, hje, List.take_length, List.take_zero, Jsn.sizeL_nil]
            omega
          clear HM
          by_cases hltk : j < ks.length
          · have hmi : ¬ ((m : Int) ≤ (left : Int)) := by omega
            go_wp2
            go_loopw [7, 9] (fun n i wr => ∃ j m : Nat, n = .int .i64 m ∧ i = .int .i64 j ∧ j ≤ cs.length ∧ Below w.heap.size w wr ∧ wr.heap[w.heap.size]? = some (.cells #[.int .i64 k, .string (str t), .slice a1 ks.length c1, .slice a2 cs.length c2] 27 (0, 0)) ∧ m ≤ left + 1125899906842624 ∧ Hid (m ≤ left → 1 + t.length + cs.length + ks.length + Jsn.lenK ks + Jsn.sizeL (cs.take j) ≤ m)) (fun _ i _ => cs.length - (intOf i).toNat)
            case atStart => exact ⟨0, m, rfl, rfl, Nat.zero_le _, hB, hb, hm, HQ⟩
            case round =>
              clear HQ
              obtain ⟨j2, m2, rfl, rfl, hj2, hB2, hb2, hm2, HM2⟩ := hrel
              have p2 := (Lib.cell_of_heap hb2 2).trans (rfl : _ = some (Value.slice a1 ks.length c1))
              have p3 := (Lib.cell_of_heap hb2 3).trans (rfl : _ = some (Value.slice a2 cs.length c2))
              by_cases hgo2 : j2 < cs.length ∧ m2 ≤ left
              · obtain ⟨hlt, hml⟩ := hgo2
                have hat : cs[j2]? = some cs[j2] := List.getElem?_eq_getElem hlt
                obtain ⟨g, o, rfl, hcl, _, hgl, y0, y1, y2, y3, e0, e1, e2, e3, hrv⟩ := hcs.at hat
                have hkg := hB2.block g hgl
                have g0 := (cell_keep hkg (o := o + j2 * 4)).trans e0
                have g1 := (cell_keep hkg (o := o + j2 * 4 + 1)).trans e1
                have g2 := (cell_keep hkg (o := o + j2 * 4 + 2)).trans e2
                have g3 := (cell_keep hkg (o := o + j2 * 4 + 3)).trans e3
                obtain ⟨aa, na, ca, ab, nb, cb, hsh⟩ := hrv.shape
                cases hsh
                have hI := ih cs[j2] (List.getElem_mem hlt) (vv (.int .i64 cs[j2].kind) (.string (str cs[j2].text)) (.slice aa na ca) (.slice ab nb cb)) (d + 1) (left - m2) _ (hrv.below hB2) (f7 _ (List.getElem_mem hlt)) (by omega) (by omega)
                rw [Int.ofNat_sub hml, Int.natCast_add] at hI
                have HN : Hid (∀ r, Jsn.sizeJ cs[j2] ≤ r → 1 + t.length + cs.length + ks.length + Jsn.lenK ks + Jsn.sizeL (cs.take (j2 + 1)) ≤ m2 + r) := by
                  intro r hr
                  rw [Jsn.sizeL_take hlt]
                  have := HM2.out hml
                  omega
                clear hat HM2
                generalize cs[j2] = c at *
                go_wp2_with (first
                  | (go_at_call 22; refine hI.mono ?_; rintro e w5 ⟨hB5, r, rfl, hr1, hr2⟩))
                go_roundw
                case rel => exact ⟨j2 + 1, m2 + r, by go_num, by go_num, by omega, bel hB2 hB5, (hB5.block _ (Array.getElem?_eq_some_iff.1 hb2).1).trans hb2, by omega, fun hx => HN.out r (hr2 (by omega))⟩
                case measure => simp [intOf]; omega
              · go_wp2
                all_goals (
                  go_ret
                  refine ⟨hB2, m2, rfl, hm2, fun hx => ?_⟩
                  have hje : j2 = cs.length := by omega
                  have := HM2.out hx
                  rw [hje, List.take_length] at this
                  rw [HS.out]
                  exact this)
          · go_wp2
            go_loopw [7, 9] (fun n i wr => ∃ j m : Nat, n = .int .i64 m ∧ i = .int .i64 j ∧ j ≤ cs.length ∧ Below w.heap.size w wr ∧ wr.heap[w.heap.size]? = some (.cells #[.int .i64 k, .string (str t), .slice a1 ks.length c1, .slice a2 cs.length c2] 27 (0, 0)) ∧ m ≤ left + 1125899906842624 ∧ Hid (m ≤ left → 1 + t.length + cs.length + ks.length + Jsn.lenK ks + Jsn.sizeL (cs.take j) ≤ m)) (fun _ i _ => cs.length - (intOf i).toNat)
            case atStart => exact ⟨0, m, rfl, rfl, Nat.zero_le _, hB, hb, hm, HQ⟩
            case round =>
              clear HQ
              obtain ⟨j2, m2, rfl, rfl, hj2, hB2, hb2, hm2, HM2⟩ := hrel
              have p2 := (Lib.cell_of_heap hb2 2).trans (rfl : _ = some (Value.slice a1 ks.length c1))
              have p3 := (Lib.cell_of_heap hb2 3).trans (rfl : _ = some (Value.slice a2 cs.length c2))
              by_cases hgo2 : j2 < cs.length ∧ m2 ≤ left
              · obtain ⟨hlt, hml⟩ := hgo2
                have hat : cs[j2]? = some cs[j2] := List.getElem?_eq_getElem hlt
                obtain ⟨g, o, rfl, hcl, _, hgl, y0, y1, y2, y3, e0, e1, e2, e3, hrv⟩ := hcs.at hat
                have hkg := hB2.block g hgl
                have g0 := (cell_keep hkg (o := o + j2 * 4)).trans e0
                have g1 := (cell_keep hkg (o := o + j2 * 4 + 1)).trans e1
                have g2 := (cell_keep hkg (o := o + j2 * 4 + 2)).trans e2
                have g3 := (cell_keep hkg (o := o + j2 * 4 + 3)).trans e3
                obtain ⟨aa, na, ca, ab, nb, cb, hsh⟩ := hrv.shape
                cases hsh
                have hI := ih cs[j2] (List.getElem_mem hlt) (vv (.int .i64 cs[j2].kind) (.string (str cs[j2].text)) (.slice aa na ca) (.slice ab nb cb)) (d + 1) (left - m2) _ (hrv.below hB2) (f7 _ (List.getElem_mem hlt)) (by omega) (by omega)
                rw [Int.ofNat_sub hml, Int.natCast_add] at hI
                have HN : Hid (∀ r, Jsn.sizeJ cs[j2] ≤ r → 1 + t.length + cs.length + ks.length + Jsn.lenK ks + Jsn.sizeL (cs.take (j2 + 1)) ≤ m2 + r) := by
                  intro r hr
                  rw [Jsn.sizeL_take hlt]
                  have := HM2.out hml
                  omega
                clear hat HM2
                generalize cs[j2] = c at *
                go_wp2_with (first
                  | (go_at_call 22; refine hI.mono ?_; rintro e w5 ⟨hB5, r, rfl, hr1, hr2⟩))
                go_roundw
                case rel => exact ⟨j2 + 1, m2 + r, by go_num, by go_num, by omega, bel hB2 hB5, (hB5.block _ (Array.getElem?_eq_some_iff.1 hb2).1).trans hb2, by omega, fun hx => HN.out r (hr2 (by omega))⟩
                case measure => simp [intOf]; omega
              · go_wp2
                all_goals (
                  go_ret
                  refine ⟨hB2, m2, rfl, hm2, fun hx => ?_⟩
                  have hje : j2 = cs.length := by omega
                  have := HM2.out hx
                  rw [hje, List.take_length] at this
                  rw [HS.out]
                  exact this)
set_option maxHeartbeats 1000000 in
theorem far_any (t : Jsn.J) (v : Value) (w : World) (hv : RV (fun _ => True) w t v) (hf : Jsn.Fit t) :
    Calls Tryz.prog 5 #[v] w fun e w' => Below w.heap.size w w' ∧ ∃ x : Bool, e = .returned (.bool x) ∧ (x = false → Jsn.sizeJ t ≤ 3000) := by
  obtain ⟨aa, na, ca, ab, nb, cb, rfl⟩ := hv.shape
  have hA : Below w.heap.size w (w.alloc (.cells #[.int .i64 t.kind, .string (str t.text), .slice aa na ca, .slice ab nb cb] 27)) := (Below.refl _ w).alloc (Nat.le_refl _) _
  have hI := size_all t _ 0 3000 _ (hv.below hA) hf (by omega) (by omega)
  go_enter Tryz.func5, Tryz.ntmps5
  go_wp2_with (first
    | (go_at_call 22; refine hI.mono ?_; rintro e w1 ⟨hB1, r, rfl, hr1, hr2⟩))
  go_ret
  refine ⟨bel hA hB1, _, rfl, fun hx => ?_⟩
  have := of_decide_eq_false hx
  have h3 := hr2 (by omega)
  omega
end Go.Proofs.YtmmpbjpeiclacaaGreatDoor
