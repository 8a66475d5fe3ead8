/- The contracts of the parser's nest and value, at every depth. -/
import Derived.Test.YtmmpbjpeiclacaaGreatDoorKYQ
set_option linter.unusedVariables false
set_option linter.unusedSimpArgs false
namespace Go.Proofs.YtmmpbjpeiclacaaGreatDoor
open Go.RowKit
/-- A result's own block, laid first: what comes back is stored in it. -/
theorem val_back {b R : Nat} {s r : List UInt8} {w w0 w2 : World} {t : Jsn.J} {m : Nat} {x0 x1 x2 x3 : Value} (hR : R = w.heap.size) (hb : b < R) (hK : Kept b w w2) (hr : RV (R + 1 ≤ ·) w2 t (vv x0 x1 x2 x3)) (hP : Ps b s r m w2) :
    Kept b w (w2.setRow R #[x0, x1, x2, x3]) ∧ RV (w.heap.size ≤ ·) (w2.setRow R #[x0, x1, x2, x3]) t (vv x0 x1 x2 x3) ∧ Ps b s r m (w2.setRow R #[x0, x1, x2, x3]) :=
  ⟨hK.row (by omega) _, RV.keep (by rw [setRow_len]; exact Nat.le_refl _) (fun k hk _ => ⟨by omega, setRow_other _ (by omega)⟩) hr, hP.keep (setRow_other _ (by omega))⟩
/-- What nest reads. -/
def nestK (k : Nat) (c : UInt8) (n : Nat) (r : List UInt8) : Jsn.R (Jsn.J × Nat) := match k with
  | 0 => .err 8 (r.length + 1)
  | k + 1 => Jsn.nestG (Jsn.valueR k) c n r
theorem value_nest (k : Nat) : Jsn.valueR k = Jsn.valueG (nestK k) := by cases k <;> rfl
set_option maxHeartbeats 2000000 in
set_option maxRecDepth 100000 in
theorem nest_any {b n k : Nat} {d : Int} {s r : List UInt8} {c : UInt8} {w : World} (hk : k ≤ 64) (hd : d = 64 - (k : Int)) (hV : ∀ j, k = j + 1 → ValC j (d + 1) b s) (hc : c = 91 ∨ c = 123) (h : Ps b s (c :: r) n w) :
    Calls Tryz.prog 83 #[.pointer (some ⟨b, 0, none⟩), .int .u8 c.toNat, .int .i64 d] w (ValPost b s w (nestK k c n r)) := by
  have hzv := (zero_of_info zeroVal).1
  have hbl := h.lt
  have hlen := h.len
  have hP0 := h.step ((Below.refl _ w).alloc (o := .cells z4 27) (Nat.le_refl _))
  have hK0 : Kept b w (w.alloc (.cells z4 27)) := Kept.of ((Below.refl _ w).alloc (Nat.le_refl _) _)
  have hR0 : VAt (w.alloc (.cells z4 27)) w.heap.size (.int .i64 0) (.string ⟨#[]⟩) (.slice none 0 0) (.slice none 0 0) := heap_alloc_last w _
  obtain ⟨p, hp, c1⟩ := hP0.c1
  have f1 := hP0.free 1
  simp only [List.length_cons] at hp
  unfold ValPost
  cases k with
  | zero =>
    have hd2 : d = 64 := by omega
    subst hd2
    clear hV hd hk hc
    go_enter Tryz.func83, Tryz.ntmps83
    go_wp2_with fail
    obtain rfl : p = s.length - (r.length + 1) := by omega
    exact ⟨rfl, hK0, rfl⟩
  | succ k =>
    have hVk := hV k rfl
    have hlt : ¬ 64 ≤ d := by omega
    have hd0 : 0 ≤ d := by omega
    clear hV hd hk
    obtain ⟨p', hp', c1'⟩ := h.c1
    simp only [List.length_cons] at hp'
    obtain rfl : p' = p := by omega
    have f1' := h.free 1
    have hTS := (h.tail p' hp').step ((Below.refl _ _).alloc (o := .cells z4 27) (Nat.le_refl _))
    have hKS : Kept b w ((w.setCell ⟨b, 1, none⟩ (.int .i64 ((p' : Int) + 1))).alloc (.cells z4 27)) := (Kept.set b 1 _ (.int .i64 ((p' : Int) + 1))).trans (Kept.of ((Below.refl _ _).alloc (Nat.le_refl _) _))
    have hRS : VAt ((w.setCell ⟨b, 1, none⟩ (.int .i64 ((p' : Int) + 1))).alloc (.cells z4 27)) w.heap.size (.int .i64 0) (.string ⟨#[]⟩) (.slice none 0 0) (.slice none 0 0) := by
      have := heap_alloc_last (w.setCell ⟨b, 1, none⟩ (.int .i64 ((p' : Int) + 1))) (.cells z4 27)
      unfold VAt
      rw [show w.heap.size = (w.setCell ⟨b, 1, none⟩ (.int .i64 ((p' : Int) + 1))).heap.size from by simp]
      exact this
    have hdd : IntKind.i64.wrap (d + 1) = d + 1 := by rw [IntKind.wrap_i64]; omega
    rcases hc with rfl | rfl
    · have hC := fun W (hP : Ps b s r n W) => list_any hVk hP
      have hX : nestK (k + 1) 91 n r = (Jsn.nestR (Jsn.stepL (Jsn.valueR k)) 93 ⟨n, [], []⟩ r).map fun st => (.mk 5 [] [] st.kids, st.n) := rfl
      rw [hX]
      generalize (Jsn.nestR (Jsn.stepL (Jsn.valueR k)) 93 ⟨n, [], []⟩ r).map (fun st => (Jsn.J.mk 5 [] [] st.kids, st.n)) = Y at hC ⊢
      clear hX
      cases Y with
      | err y q =>
        go_enter Tryz.func83, Tryz.ntmps83
        go_wp2_with (first
          | (go_at_call 101; refine (hC _ hTS).mono ?_; rintro e w2 ⟨hK2, hA⟩; replace hA : e = boom s y q := hA; subst hA))
        exact ⟨rfl, hKS.trans hK2, rfl⟩
      | ok pr z =>
        go_enter Tryz.func83, Tryz.ntmps83
        go_wp2_with (first
          | (go_at_call 101; refine (hC _ hTS).mono ?_; rintro e w2 ⟨hK2, v2, rfl, hr2, hP2⟩; obtain ⟨aa, na, ca, ab, nb, cb, rfl⟩ := hr2.shape; have hs2 := hK2.size; have hR2 : VAt w2 w.heap.size (.int .i64 0) (.string ⟨#[]⟩) (.slice none 0 0) (.slice none 0 0) := hRS.keep (hK2.block w.heap.size hRS.lt (by omega)))
          | ((with_reducible show wpList _ _ _ ({ op := Op.store 27 _ _, .. } :: _) _ _); refine wpList_store_V _ _ rfl rfl _ _ _ _ _ rfl rfl hR2 (ones_mk _ _ _ _ _ _ _ _) ?_))
        obtain ⟨g1, g2, g3⟩ := val_back (w0 := w) rfl hbl (hKS.trans hK2) (RV.keep (Nat.le_refl _) (fun k hk _ => ⟨by have := hRS.lt; omega, rfl⟩) hr2) hP2
        exact ret_V rfl rfl rfl (setRow_V hR2 _ _ _ _) ⟨g1, _, rfl, g2, g3⟩
    · have hC := fun W (hP : Ps b s r n W) => table_any hVk hP
      have hX : nestK (k + 1) 123 n r = (Jsn.nestR (Jsn.stepT (Jsn.valueR k)) 125 ⟨n, [], []⟩ r).map fun st => (.mk 6 [] st.keys st.kids, st.n) := rfl
      rw [hX]
      generalize (Jsn.nestR (Jsn.stepT (Jsn.valueR k)) 125 ⟨n, [], []⟩ r).map (fun st => (Jsn.J.mk 6 [] st.keys st.kids, st.n)) = Y at hC ⊢
      clear hX
      cases Y with
      | err y q =>
        go_enter Tryz.func83, Tryz.ntmps83
        go_wp2_with (first
          | (go_at_call 102; refine (hC _ hTS).mono ?_; rintro e w2 ⟨hK2, hA⟩; replace hA : e = boom s y q := hA; subst hA))
        exact ⟨rfl, hKS.trans hK2, rfl⟩
      | ok pr z =>
        go_enter Tryz.func83, Tryz.ntmps83
        go_wp2_with (first
          | (go_at_call 102; refine (hC _ hTS).mono ?_; rintro e w2 ⟨hK2, v2, rfl, hr2, hP2⟩; obtain ⟨aa, na, ca, ab, nb, cb, rfl⟩ := hr2.shape; have hs2 := hK2.size; have hR2 : VAt w2 w.heap.size (.int .i64 0) (.string ⟨#[]⟩) (.slice none 0 0) (.slice none 0 0) := hRS.keep (hK2.block w.heap.size hRS.lt (by omega)))
          | ((with_reducible show wpList _ _ _ ({ op := Op.store 27 _ _, .. } :: _) _ _); refine wpList_store_V _ _ rfl rfl _ _ _ _ _ rfl rfl hR2 (ones_mk _ _ _ _ _ _ _ _) ?_))
        obtain ⟨g1, g2, g3⟩ := val_back (w0 := w) rfl hbl (hKS.trans hK2) (RV.keep (Nat.le_refl _) (fun k hk _ => ⟨by have := hRS.lt; omega, rfl⟩) hr2) hP2
        exact ret_V rfl rfl rfl (setRow_V hR2 _ _ _ _) ⟨g1, _, rfl, g2, g3⟩
end Go.Proofs.YtmmpbjpeiclacaaGreatDoor
