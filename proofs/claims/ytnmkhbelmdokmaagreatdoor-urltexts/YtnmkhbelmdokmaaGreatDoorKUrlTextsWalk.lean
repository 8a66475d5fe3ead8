/- The walk of UrlTexts: whatever URL comes in, the law answers true. -/
import Derived.Test.YtnmkhbelmdokmaaGreatDoorKRefD
import Derived.Test.YtnmkhbelmdokmaaGreatDoorKRefE
namespace Go.Proofs.YtnmkhbelmdokmaaGreatDoor.urlTexts
open Go.RowKit
theorem longU_le {l : List UInt8} (h : longU l = false) : l.length ≤ 2200 := by
  have := of_decide_eq_false h
  omega
theorem itoa_short (n : Int) (h1 : -9223372036854775808 ≤ n) (h2 : n ≤ 9223372036854775807) : (Lib.itoa n).length ≤ 21 := Lib.itoa_length_le n h1 h2
theorem str_len (u : Url.U) (h1 : -9223372036854775808 ≤ u.port) (h2 : u.port ≤ 9223372036854775807) : (Url.str u).length ≤ u.sch.length + u.host.length + u.path.length + u.query.length + u.frag.length + 30 := by
  have := itoa_short u.port h1 h2
  rw [Url.str_parts]
  unfold Url.portP Url.queryP Url.fragP
  simp only [List.length_append, List.length_cons, List.length_nil]
  split <;> split <;> split <;> simp only [List.length_cons, List.length_nil] <;> omega
theorem same_comm (a b : Url.U) : Url.same a b = Url.same b a := by
  cases h : Url.same b a
  · cases h2 : Url.same a b
    · rfl
    · have := (Url.same_iff a b).1 h2
      rw [this, Url.same_self] at h
      cases h
  · have := (Url.same_iff b a).1 h
    rw [this, Url.same_self]
set_option maxHeartbeats 8000000 in
set_option maxRecDepth 100000 in
theorem walk_U (u : Url.U) (w : World) (hE : Env w) (hu : Fits u) :
    Calls Tryz.prog 4 #[uVal u] w fun e w' => e = .returned (.bool true) ∧ Below w.heap.size w w' := by
  have hzu := (zero_of_info zeroURL).1
  have hb0 : Below w.heap.size w (w.alloc (.cells (uCells u) 25)) := (Below.refl _ w).alloc (Nat.le_refl _) _
  have hU0 : UAt (w.alloc (.cells (uCells u) 25)) w.heap.size u := heap_alloc_last _ _
  have hE0 := hE.below hb0
  unfold uVal at hzu
  obtain ⟨c0, c1, c2, c3, c4, c5, c6, c7⟩ := hU0.cells
  unfold uVal
  unfold uCells at hzu hb0 hU0 hE0 c0 c1 c2 c3 c4 c5 c6 c7 ⊢
  cases q0 : longU u.sch
  case true =>
    go_enter Tryz.func4, Tryz.ntmps4
    go_wp2_with (first
      | (go_at_call 9; refine (long_any _ _).mono ?_; rintro e w1 ⟨rfl, hw1⟩; rw [hw1]; clear hw1)
      | (go_at_call 10; refine (alive_any _ hE0).mono ?_; rintro e w2 ⟨rfl, hb2⟩))
    go_ret
    exact ⟨rfl, bel hb0 hb2⟩
  cases q1 : longU u.host
  case true =>
    go_enter Tryz.func4, Tryz.ntmps4
    go_wp2_with (first
      | (go_at_call 9; refine (long_any _ _).mono ?_; rintro e w1 ⟨rfl, hw1⟩; rw [hw1]; clear hw1)
      | (go_at_call 10; refine (alive_any _ hE0).mono ?_; rintro e w2 ⟨rfl, hb2⟩))
    go_ret
    exact ⟨rfl, bel hb0 hb2⟩
  cases q2 : longU u.path
  case true =>
    go_enter Tryz.func4, Tryz.ntmps4
    go_wp2_with (first
      | (go_at_call 9; refine (long_any _ _).mono ?_; rintro e w1 ⟨rfl, hw1⟩; rw [hw1]; clear hw1)
      | (go_at_call 10; refine (alive_any _ hE0).mono ?_; rintro e w2 ⟨rfl, hb2⟩))
    go_ret
    exact ⟨rfl, bel hb0 hb2⟩
  cases q3 : longU u.query
  case true =>
    go_enter Tryz.func4, Tryz.ntmps4
    go_wp2_with (first
      | (go_at_call 9; refine (long_any _ _).mono ?_; rintro e w1 ⟨rfl, hw1⟩; rw [hw1]; clear hw1)
      | (go_at_call 10; refine (alive_any _ hE0).mono ?_; rintro e w2 ⟨rfl, hb2⟩))
    go_ret
    exact ⟨rfl, bel hb0 hb2⟩
  cases q4 : longU u.frag
  case true =>
    go_enter Tryz.func4, Tryz.ntmps4
    go_wp2_with (first
      | (go_at_call 9; refine (long_any _ _).mono ?_; rintro e w1 ⟨rfl, hw1⟩; rw [hw1]; clear hw1)
      | (go_at_call 10; refine (alive_any _ hE0).mono ?_; rintro e w2 ⟨rfl, hb2⟩))
    go_ret
    exact ⟨rfl, bel hb0 hb2⟩
  have l0 := longU_le q0
  have l1 := longU_le q1
  have l2 := longU_le q2
  have l3 := longU_le q3
  have l4 := longU_le q4
  have hlen := str_len u hu.2.2.2.2.2.1 hu.2.2.2.2.2.2
  have rstr : ∀ W : World, Calls Tryz.prog 13 #[uVal u] W fun e w' => e = .returned (.string (str (Url.str u))) ∧ Below W.heap.size W w' := fun W => RString_any u W hu
  have rpar : ∀ W : World, Calls Tryz.prog 12 #[.string (str (Url.str u))] W fun e w' => e = .returned (.tuple #[uVal (Url.parse (Url.str u)), .int .i64 (Url.perr (Url.str u))]) ∧ Below W.heap.size W w' := fun W => RParse_any _ W (by omega)
  have rorg : ∀ W : World, Calls Tryz.prog 13 #[uVal (placeU u)] W fun e w' => e = .returned (.string (str (Url.origin u))) ∧ Below W.heap.size W w' := fun W => RString_any (placeU u) W (placeU_fits hu)
  have pstr : ∀ W : World, Env W → Calls Tryz.prog 14 #[uVal u] W fun e w' => e = .returned (.string (str (Url.str u))) ∧ Below W.heap.size W w' := fun W h => String_any u W h hu
  have pmay : ∀ W : World, Env W → Calls Tryz.prog 15 #[uVal u] W fun e w' => e = .returned (.bool (Url.may u)) ∧ Below W.heap.size W w' := fun W h => May_any u W h hu (by omega)
  have pbare : ∀ W : World, Calls Tryz.prog 16 #[uVal u] W fun e w' => e = .returned (uVal (Url.bare u)) ∧ Below W.heap.size W w' := fun W => Bare_any u W
  have porg : ∀ W : World, Env W → Calls Tryz.prog 17 #[uVal u] W fun e w' => e = .returned (.string (str (Url.origin u))) ∧ Below W.heap.size W w' := fun W h => Origin_any u W h hu
  have HM : Hid (Url.may u = (decide (Url.perr (Url.str u) = 0) && Url.same (Url.parse (Url.str u)) u)) := rfl
  generalize Url.parse (Url.str u) = p at rpar HM
  generalize Url.perr (Url.str u) = pe at rpar HM
  generalize Url.str u = s at rstr rpar pstr hlen
  generalize Url.origin u = og at rorg porg
  generalize Url.may u = m at pmay HM
  clear hlen l0 l1 l2 l3 l4 hu
  unfold uVal uCells at rstr rpar
  unfold uVal uCells at rorg
  go_enter Tryz.func4, Tryz.ntmps4
  go_upto_region 3 with (go_at_call 9; refine (long_any _ _).mono ?_; rintro e w1 ⟨rfl, hw1⟩; rw [hw1]; clear hw1)
  clear q0 q1 q2 q3 q4
  generalize w.alloc (.cells #[.string (str u.sch), .string (str u.host), .int .i64 u.port, .string (str u.path), .string (str u.query), .string (str u.frag), .bool u.hq, .bool u.hf] 25) = w0 at hb0 hU0 hE0 c0 c1 c2 c3 c4 c5 c6 c7 ⊢
  go_upto_region 5 with (first
    | (go_at_call 13; refine (rstr _).mono ?_; rintro e w1 ⟨rfl, hb1⟩; have hU1 := UAt.below hU0 hb1; have hb1' := bel hb0 hb1)
    | (go_at_call 12; refine (rpar _).mono ?_; rintro e w2 ⟨rfl, hb2⟩; have hU2 := UAt.below hU1 hb2; have hb2' := bel hb1' hb2))
  clear c0 c1 c2 c3 c4 c5 c6 c7
  have hb23 : Below w2.heap.size w2 (w2.alloc (.cells (uCells p) 25)) := (Below.refl _ w2).alloc (Nat.le_refl _) _
  have hU3 := UAt.below hU2 hb23
  have hP3 : UAt (w2.alloc (.cells (uCells p) 25)) w2.heap.size p := heap_alloc_last _ _
  have hb3 := bel hb2' hb23
  unfold uCells at hU3 hP3 hb3
  generalize w2.alloc (.cells #[.string (str p.sch), .string (str p.host), .int .i64 p.port, .string (str p.path), .string (str p.query), .string (str p.frag), .bool p.hq, .bool p.hf] 25) = w3 at hU3 hP3 hb3 ⊢
  generalize w2.heap.size = b4 at hP3 ⊢
  clear hU0 hU1 hU2 hb0 hb1 hb1' hb2 hb2' hb23 hE0
  obtain ⟨c0, c1, c2, c3, c4, c5, c6, c7⟩ := hU3.cells
  go_upto_region 6 with fail
  have hb34 : Below w3.heap.size w3 (w3.alloc (.cells (uCells u) 25)) := (Below.refl _ w3).alloc (Nat.le_refl _) _
  have hU4 := UAt.below hU3 hb34
  have hP4 := UAt.below hP3 hb34
  have hB4 : UAt (w3.alloc (.cells (uCells u) 25)) w3.heap.size u := heap_alloc_last _ _
  have hb4 := bel hb3 hb34
  have hlt := hU3.lt
  have hlt2 := hP3.lt
  have hlt3 := hb3.size
  clear c0 c1 c2 c3 c4 c5 c6 c7 hU3 hP3 hb3 hb34
  unfold uCells at hU4 hP4 hB4 hb4
  generalize w3.alloc (.cells #[.string (str u.sch), .string (str u.host), .int .i64 u.port, .string (str u.path), .string (str u.query), .string (str u.frag), .bool u.hq, .bool u.hf] 25) = w4 at hU4 hP4 hB4 hb4 ⊢
  generalize w3.heap.size = b6 at hB4 hlt hlt2 hlt3 ⊢
  have f7 := hB4.frozen 7
  have f5 := (hB4.hf false).frozen 5
  have x7 := hB4.cell 7
  have x5 := (hB4.hf false).cell 5
  simp only [uCells] at x7 x5
  go_upto_region 7 with fail
  have hB5 : UAt ((w4.setCell ⟨b6, 7, none⟩ (.bool false)).setCell ⟨b6, 5, none⟩ (.string ⟨#[]⟩)) b6 (Url.bare u) := (hB4.hf false).frag []
  have hU5 : UAt ((w4.setCell ⟨b6, 7, none⟩ (.bool false)).setCell ⟨b6, 5, none⟩ (.string ⟨#[]⟩)) w.heap.size u := UAt.other (UAt.other hU4 (by omega) _) (by omega) _
  have hP5 : UAt ((w4.setCell ⟨b6, 7, none⟩ (.bool false)).setCell ⟨b6, 5, none⟩ (.string ⟨#[]⟩)) b4 p := UAt.other (UAt.other hP4 (by omega) _) (by omega) _
  have hb5 : Below w.heap.size w ((w4.setCell ⟨b6, 7, none⟩ (.bool false)).setCell ⟨b6, 5, none⟩ (.string ⟨#[]⟩)) := (hb4.setCell (by simp; omega) _).setCell (by simp; omega) _
  generalize (w4.setCell ⟨b6, 7, none⟩ (.bool false)).setCell ⟨b6, 5, none⟩ (.string ⟨#[]⟩) = w5 at hB5 hU5 hP5 hb5 ⊢
  clear hU4 hP4 hB4 hb4 f7 f5 x7 x5
  obtain ⟨c0, c1, c2, -, -, -, -, -⟩ := hU5.cells
  go_upto_region 8 with (go_at_call 13; refine (rorg _).mono ?_; rintro e w6 ⟨rfl, hbx⟩)
  have hU6 := hU5.below hbx
  have hP6 := hP5.below hbx
  have hB6 := hB5.below hbx
  have hb6 := bel hb5 hbx
  have hE6 := hE.below hb6
  clear c0 c1 c2 hU5 hP5 hB5 hb5 hbx rstr rpar rorg
  have hbd : Below w6.heap.size w6 w6.drew := (Below.refl _ w6).drew
  obtain ⟨S, hS1⟩ : ∃ S : World → Prop, ∀ W, S W ↔ (UAt W w.heap.size u ∧ UAt W b4 p ∧ UAt W b6 (Url.bare u) ∧ Env W ∧ Below w.heap.size w W) := ⟨_, fun _ => Iff.rfl⟩
  by_cases hpe : pe = 0
  · have HM2 : m = Url.same u p := by rw [HM.out, hpe, same_comm]; rfl
    subst hpe HM2
    refine wp_region_held_drew (S := S) (by kernel_rfl) ((hS1 _).2 ⟨hU6.below hbd, hP6.below hbd, hB6.below hbd, hE6.below hbd, bel hb6 hbd⟩) (fun hS => ?_)
    refine takeH 0 50 (uVal (u)) rfl rfl (by kernel_rfl) (by kernel_rfl) (by kernel_rfl) (fun _ _ _ h => h) (hy_load_U (Operand.tmp 1) rfl (by kernel_rfl) (w.heap.size) (u) (by kernel_rfl) (fun W h => ((hS1 W).1 h).1)) hS ?_
    simp only [Act.put, List.setIfInBounds_toArray, List.set_cons_zero, List.set_cons_succ]
    refine takeH 2 52 (.string (str s)) rfl rfl (by kernel_rfl) (by kernel_rfl) (by kernel_rfl) (fun _ _ _ h => h) (Or.inl ⟨by kernel_rfl, fun W _ => by go_simp⟩) hS ?_
    simp only [Act.put, List.setIfInBounds_toArray, List.set_cons_zero, List.set_cons_succ]
    refine wpAnyH_ready (rs := [1]) (by kernel_rfl) (by simp) ?_
    refine AllReadyH.cons rfl (fun K hK => ?_) AllReadyH.nil
    go_simp
    refine (pstr _ ((hS1 _).1 hS).2.2.2.1).mono ?_
    rintro e x1 ⟨rfl, hx1⟩
    refine hK.out _ _ ((hS1 _).2 ⟨((hS1 _).1 hS).1.below hx1, ((hS1 _).1 hS).2.1.below hx1, ((hS1 _).1 hS).2.2.1.below hx1, ((hS1 _).1 hS).2.2.2.1.below hx1, bel ((hS1 _).1 hS).2.2.2.2 hx1⟩) (fun hS => ?_)
    clear hK K
    refine takeH 3 53 (.bool true) rfl rfl (by kernel_rfl) (by kernel_rfl) (by kernel_rfl) (fun _ _ _ h => h) (Or.inl ⟨by kernel_rfl, fun W _ => by go_simp⟩) hS ?_
    simp only [Act.put, List.setIfInBounds_toArray, List.set_cons_zero, List.set_cons_succ]
    refine takeH 4 54 (.bool true) rfl rfl (by kernel_rfl) (by kernel_rfl) (by kernel_rfl) (fun _ _ _ h => h) (Or.inl ⟨by kernel_rfl, fun W _ => by go_simp⟩) hS ?_
    simp only [Act.put, List.setIfInBounds_toArray, List.set_cons_zero, List.set_cons_succ]
    refine takeH 5 55 (uVal (u)) rfl rfl (by kernel_rfl) (by kernel_rfl) (by kernel_rfl) (fun _ _ _ h => h) (hy_load_U (Operand.tmp 1) rfl (by kernel_rfl) (w.heap.size) (u) (by kernel_rfl) (fun W h => ((hS1 W).1 h).1)) hS ?_
    simp only [Act.put, List.setIfInBounds_toArray, List.set_cons_zero, List.set_cons_succ]
    refine takeH 7 57 (.int .i64 0) rfl rfl (by kernel_rfl) (by kernel_rfl) (by kernel_rfl) (fun _ _ _ h => h) (Or.inl ⟨by kernel_rfl, fun W _ => by go_simp⟩) hS ?_
    simp only [Act.put, List.setIfInBounds_toArray, List.set_cons_zero, List.set_cons_succ]
    refine takeH 8 58 (.bool true) rfl rfl (by kernel_rfl) (by kernel_rfl) (by kernel_rfl) (fun _ _ _ h => h) (Or.inl ⟨by kernel_rfl, fun W _ => by go_simp⟩) hS ?_
    simp only [Act.put, List.setIfInBounds_toArray, List.set_cons_zero, List.set_cons_succ]
    refine wpAnyH_ready (rs := [6]) (by kernel_rfl) (by simp) ?_
    refine AllReadyH.cons rfl (fun K hK => ?_) AllReadyH.nil
    go_simp
    refine (pmay _ ((hS1 _).1 hS).2.2.2.1).mono ?_
    rintro e x2 ⟨rfl, hx2⟩
    refine hK.out _ _ ((hS1 _).2 ⟨((hS1 _).1 hS).1.below hx2, ((hS1 _).1 hS).2.1.below hx2, ((hS1 _).1 hS).2.2.1.below hx2, ((hS1 _).1 hS).2.2.2.1.below hx2, bel ((hS1 _).1 hS).2.2.2.2 hx2⟩) (fun hS => ?_)
    clear hK K
    refine takeH 9 59 (.bool true) rfl rfl (by kernel_rfl) (by kernel_rfl) (by kernel_rfl) (fun _ _ _ h => h) (Or.inl ⟨by kernel_rfl, fun W _ => by go_simp⟩) hS ?_
    simp only [Act.put, List.setIfInBounds_toArray, List.set_cons_zero, List.set_cons_succ]
    refine takeH 10 60 (uVal (u)) rfl rfl (by kernel_rfl) (by kernel_rfl) (by kernel_rfl) (fun _ _ _ h => h) (hy_load_U (Operand.tmp 1) rfl (by kernel_rfl) (w.heap.size) (u) (by kernel_rfl) (fun W h => ((hS1 W).1 h).1)) hS ?_
    simp only [Act.put, List.setIfInBounds_toArray, List.set_cons_zero, List.set_cons_succ]
    refine takeH 11 61 (uVal (p)) rfl rfl (by kernel_rfl) (by kernel_rfl) (by kernel_rfl) (fun _ _ _ h => h) (hy_load_U (Operand.tmp 4) rfl (by kernel_rfl) (b4) (p) (by kernel_rfl) (fun W h => ((hS1 W).1 h).2.1)) hS ?_
    simp only [Act.put, List.setIfInBounds_toArray, List.set_cons_zero, List.set_cons_succ]
    refine takeH 12 62 (.bool (Url.same (u) (p))) rfl rfl (by kernel_rfl) (by kernel_rfl) (by kernel_rfl) (fun _ _ _ h => h) (hy_eql_U (Operand.tmp 60) (Operand.tmp 61) rfl (by kernel_rfl) (u) (p) (by kernel_rfl) (by kernel_rfl)) hS ?_
    simp only [Act.put, List.setIfInBounds_toArray, List.set_cons_zero, List.set_cons_succ]
    refine takeH 13 63 (.bool (Url.same u p)) rfl rfl (by kernel_rfl) (by kernel_rfl) (by kernel_rfl) (fun _ _ _ h => h) (Or.inl ⟨by kernel_rfl, fun W _ => by go_simp⟩) hS ?_
    simp only [Act.put, List.setIfInBounds_toArray, List.set_cons_zero, List.set_cons_succ]
    refine takeH 14 64 (.bool true) rfl rfl (by kernel_rfl) (by kernel_rfl) (by kernel_rfl) (fun _ _ _ h => h) (Or.inl ⟨by kernel_rfl, fun W _ => by go_simp⟩) hS ?_
    simp only [Act.put, List.setIfInBounds_toArray, List.set_cons_zero, List.set_cons_succ]
    refine takeH 15 65 (.bool true) rfl rfl (by kernel_rfl) (by kernel_rfl) (by kernel_rfl) (fun _ _ _ h => h) (Or.inl ⟨by kernel_rfl, fun W _ => by go_simp⟩) hS ?_
    simp only [Act.put, List.setIfInBounds_toArray, List.set_cons_zero, List.set_cons_succ]
    refine takeH 16 66 (.bool true) rfl rfl (by kernel_rfl) (by kernel_rfl) (by kernel_rfl) (fun _ _ _ h => h) (Or.inl ⟨by kernel_rfl, fun W _ => by go_simp⟩) hS ?_
    simp only [Act.put, List.setIfInBounds_toArray, List.set_cons_zero, List.set_cons_succ]
    refine takeH 17 67 (uVal (u)) rfl rfl (by kernel_rfl) (by kernel_rfl) (by kernel_rfl) (fun _ _ _ h => h) (hy_load_U (Operand.tmp 1) rfl (by kernel_rfl) (w.heap.size) (u) (by kernel_rfl) (fun W h => ((hS1 W).1 h).1)) hS ?_
    simp only [Act.put, List.setIfInBounds_toArray, List.set_cons_zero, List.set_cons_succ]
    refine takeH 19 69 (uVal (Url.bare u)) rfl rfl (by kernel_rfl) (by kernel_rfl) (by kernel_rfl) (fun _ _ _ h => h) (hy_load_U (Operand.tmp 6) rfl (by kernel_rfl) (b6) (Url.bare u) (by kernel_rfl) (fun W h => ((hS1 W).1 h).2.2.1)) hS ?_
    simp only [Act.put, List.setIfInBounds_toArray, List.set_cons_zero, List.set_cons_succ]
    refine wpAnyH_ready (rs := [18]) (by kernel_rfl) (by simp) ?_
    refine AllReadyH.cons rfl (fun K hK => ?_) AllReadyH.nil
    go_simp
    refine (pbare _).mono ?_
    rintro e x3 ⟨rfl, hx3⟩
    refine hK.out _ _ ((hS1 _).2 ⟨((hS1 _).1 hS).1.below hx3, ((hS1 _).1 hS).2.1.below hx3, ((hS1 _).1 hS).2.2.1.below hx3, ((hS1 _).1 hS).2.2.2.1.below hx3, bel ((hS1 _).1 hS).2.2.2.2 hx3⟩) (fun hS => ?_)
    clear hK K
    refine takeH 20 70 (.bool true) rfl rfl (by kernel_rfl) (by kernel_rfl) (by kernel_rfl) (fun _ _ _ h => h) (hy_eql_self (Operand.tmp 68) (Operand.tmp 69) rfl (by kernel_rfl) (Url.bare u) (by kernel_rfl) (by kernel_rfl)) hS ?_
    simp only [Act.put, List.setIfInBounds_toArray, List.set_cons_zero, List.set_cons_succ]
    refine takeH 21 71 (.bool true) rfl rfl (by kernel_rfl) (by kernel_rfl) (by kernel_rfl) (fun _ _ _ h => h) (Or.inl ⟨by kernel_rfl, fun W _ => by go_simp⟩) hS ?_
    simp only [Act.put, List.setIfInBounds_toArray, List.set_cons_zero, List.set_cons_succ]
    refine takeH 22 72 (.bool true) rfl rfl (by kernel_rfl) (by kernel_rfl) (by kernel_rfl) (fun _ _ _ h => h) (Or.inl ⟨by kernel_rfl, fun W _ => by go_simp⟩) hS ?_
    simp only [Act.put, List.setIfInBounds_toArray, List.set_cons_zero, List.set_cons_succ]
    refine takeH 23 73 (uVal (u)) rfl rfl (by kernel_rfl) (by kernel_rfl) (by kernel_rfl) (fun _ _ _ h => h) (hy_load_U (Operand.tmp 1) rfl (by kernel_rfl) (w.heap.size) (u) (by kernel_rfl) (fun W h => ((hS1 W).1 h).1)) hS ?_
    simp only [Act.put, List.setIfInBounds_toArray, List.set_cons_zero, List.set_cons_succ]
    refine takeH 25 75 (.string (str og)) rfl rfl (by kernel_rfl) (by kernel_rfl) (by kernel_rfl) (fun _ _ _ h => h) (Or.inl ⟨by kernel_rfl, fun W _ => by go_simp⟩) hS ?_
    simp only [Act.put, List.setIfInBounds_toArray, List.set_cons_zero, List.set_cons_succ]
    refine wpAnyH_ready (rs := [24]) (by kernel_rfl) (by simp) ?_
    refine AllReadyH.cons rfl (fun K hK => ?_) AllReadyH.nil
    go_simp
    refine (porg _ ((hS1 _).1 hS).2.2.2.1).mono ?_
    rintro e x4 ⟨rfl, hx4⟩
    refine hK.out _ _ ((hS1 _).2 ⟨((hS1 _).1 hS).1.below hx4, ((hS1 _).1 hS).2.1.below hx4, ((hS1 _).1 hS).2.2.1.below hx4, ((hS1 _).1 hS).2.2.2.1.below hx4, bel ((hS1 _).1 hS).2.2.2.2 hx4⟩) (fun hS => ?_)
    clear hK K
    refine takeH 26 76 (.bool true) rfl rfl (by kernel_rfl) (by kernel_rfl) (by kernel_rfl) (fun _ _ _ h => h) (Or.inl ⟨by kernel_rfl, fun W _ => by go_simp⟩) hS ?_
    simp only [Act.put, List.setIfInBounds_toArray, List.set_cons_zero, List.set_cons_succ]
    refine takeH 27 77 (.bool true) rfl rfl (by kernel_rfl) (by kernel_rfl) (by kernel_rfl) (fun _ _ _ h => h) (Or.inl ⟨by kernel_rfl, fun W _ => by go_simp⟩) hS ?_
    simp only [Act.put, List.setIfInBounds_toArray, List.set_cons_zero, List.set_cons_succ]
    refine takeH 28 78 (.bool true) rfl rfl (by kernel_rfl) (by kernel_rfl) (by kernel_rfl) (fun _ _ _ h => h) (Or.inl ⟨by kernel_rfl, fun W _ => by go_simp⟩) hS ?_
    simp only [Act.put, List.setIfInBounds_toArray, List.set_cons_zero, List.set_cons_succ]
    refine wpAnyH_ready (rs := [29]) (by kernel_rfl) (by simp) ?_
    refine AllReadyH.cons rfl (fun K hK => ?_) AllReadyH.nil
    go_simp
    refine (alive_any _ ((hS1 _).1 hS).2.2.2.1).mono ?_
    rintro e x5 ⟨rfl, hx5⟩
    refine hK.out _ _ ((hS1 _).2 ⟨((hS1 _).1 hS).1.below hx5, ((hS1 _).1 hS).2.1.below hx5, ((hS1 _).1 hS).2.2.1.below hx5, ((hS1 _).1 hS).2.2.2.1.below hx5, bel ((hS1 _).1 hS).2.2.2.2 hx5⟩) (fun hS => ?_)
    clear hK K
    refine takeH 30 80 (.bool true) rfl rfl (by kernel_rfl) (by kernel_rfl) (by kernel_rfl) (fun _ _ _ h => h) (Or.inl ⟨by kernel_rfl, fun W _ => by go_simp⟩) hS ?_
    simp only [Act.put, List.setIfInBounds_toArray, List.set_cons_zero, List.set_cons_succ]
    refine takeH 31 2 (.bool true) rfl rfl (by kernel_rfl) (by kernel_rfl) (by kernel_rfl) (fun _ _ _ h => h) (Or.inl ⟨by kernel_rfl, fun W _ => by go_simp⟩) hS ?_
    simp only [Act.put, List.setIfInBounds_toArray, List.set_cons_zero, List.set_cons_succ]
    refine wpAnyH_done (by kernel_rfl) ?_ _
    have hfin := ((hS1 _).1 hS).2.2.2.2
    go_wp2
    go_ret
    exact ⟨rfl, hfin⟩
  · have HM2 : m = false := by rw [HM.out, decide_eq_false hpe]; rfl
    have hpe2 : (pe == 0) = false := beq_eq_false_iff_ne.2 hpe
    subst HM2
    clear hpe
    refine wp_region_held_drew (S := S) (by kernel_rfl) ((hS1 _).2 ⟨hU6.below hbd, hP6.below hbd, hB6.below hbd, hE6.below hbd, bel hb6 hbd⟩) (fun hS => ?_)
    refine takeH 0 50 (uVal (u)) rfl rfl (by kernel_rfl) (by kernel_rfl) (by kernel_rfl) (fun _ _ _ h => h) (hy_load_U (Operand.tmp 1) rfl (by kernel_rfl) (w.heap.size) (u) (by kernel_rfl) (fun W h => ((hS1 W).1 h).1)) hS ?_
    simp only [Act.put, List.setIfInBounds_toArray, List.set_cons_zero, List.set_cons_succ]
    refine takeH 2 52 (.string (str s)) rfl rfl (by kernel_rfl) (by kernel_rfl) (by kernel_rfl) (fun _ _ _ h => h) (Or.inl ⟨by kernel_rfl, fun W _ => by go_simp⟩) hS ?_
    simp only [Act.put, List.setIfInBounds_toArray, List.set_cons_zero, List.set_cons_succ]
    refine wpAnyH_ready (rs := [1]) (by kernel_rfl) (by simp) ?_
    refine AllReadyH.cons rfl (fun K hK => ?_) AllReadyH.nil
    go_simp
    refine (pstr _ ((hS1 _).1 hS).2.2.2.1).mono ?_
    rintro e x1 ⟨rfl, hx1⟩
    refine hK.out _ _ ((hS1 _).2 ⟨((hS1 _).1 hS).1.below hx1, ((hS1 _).1 hS).2.1.below hx1, ((hS1 _).1 hS).2.2.1.below hx1, ((hS1 _).1 hS).2.2.2.1.below hx1, bel ((hS1 _).1 hS).2.2.2.2 hx1⟩) (fun hS => ?_)
    clear hK K
    refine takeH 3 53 (.bool true) rfl rfl (by kernel_rfl) (by kernel_rfl) (by kernel_rfl) (fun _ _ _ h => h) (Or.inl ⟨by kernel_rfl, fun W _ => by go_simp⟩) hS ?_
    simp only [Act.put, List.setIfInBounds_toArray, List.set_cons_zero, List.set_cons_succ]
    refine takeH 4 54 (.bool true) rfl rfl (by kernel_rfl) (by kernel_rfl) (by kernel_rfl) (fun _ _ _ h => h) (Or.inl ⟨by kernel_rfl, fun W _ => by go_simp⟩) hS ?_
    simp only [Act.put, List.setIfInBounds_toArray, List.set_cons_zero, List.set_cons_succ]
    refine takeH 5 55 (uVal (u)) rfl rfl (by kernel_rfl) (by kernel_rfl) (by kernel_rfl) (fun _ _ _ h => h) (hy_load_U (Operand.tmp 1) rfl (by kernel_rfl) (w.heap.size) (u) (by kernel_rfl) (fun W h => ((hS1 W).1 h).1)) hS ?_
    simp only [Act.put, List.setIfInBounds_toArray, List.set_cons_zero, List.set_cons_succ]
    refine takeH 7 57 (.int .i64 pe) rfl rfl (by kernel_rfl) (by kernel_rfl) (by kernel_rfl) (fun _ _ _ h => h) (Or.inl ⟨by kernel_rfl, fun W _ => by go_simp⟩) hS ?_
    simp only [Act.put, List.setIfInBounds_toArray, List.set_cons_zero, List.set_cons_succ]
    refine takeH 8 58 (.bool false) rfl rfl (by kernel_rfl) (by kernel_rfl) (by kernel_rfl) (fun _ _ _ h => h) (Or.inl ⟨by kernel_rfl, fun W _ => by go_simp⟩) hS ?_
    simp only [Act.put, List.setIfInBounds_toArray, List.set_cons_zero, List.set_cons_succ]
    refine wpAnyH_ready (rs := [6]) (by kernel_rfl) (by simp) ?_
    refine AllReadyH.cons rfl (fun K hK => ?_) AllReadyH.nil
    go_simp
    refine (pmay _ ((hS1 _).1 hS).2.2.2.1).mono ?_
    rintro e x2 ⟨rfl, hx2⟩
    refine hK.out _ _ ((hS1 _).2 ⟨((hS1 _).1 hS).1.below hx2, ((hS1 _).1 hS).2.1.below hx2, ((hS1 _).1 hS).2.2.1.below hx2, ((hS1 _).1 hS).2.2.2.1.below hx2, bel ((hS1 _).1 hS).2.2.2.2 hx2⟩) (fun hS => ?_)
    clear hK K
    refine takeH 9 59 (.bool false) rfl rfl (by kernel_rfl) (by kernel_rfl) (by kernel_rfl) (fun _ _ _ h => h) (Or.inl ⟨by kernel_rfl, fun W _ => by go_simp⟩) hS ?_
    simp only [Act.put, List.setIfInBounds_toArray, List.set_cons_zero, List.set_cons_succ]
    refine takeH 10 60 (undef) rfl rfl (by kernel_rfl) (by kernel_rfl) (by kernel_rfl) (fun _ _ _ h => h) (Or.inr ⟨by kernel_rfl, rfl⟩) hS ?_
    simp only [Act.put, List.setIfInBounds_toArray, List.set_cons_zero, List.set_cons_succ]
    refine takeH 11 61 (undef) rfl rfl (by kernel_rfl) (by kernel_rfl) (by kernel_rfl) (fun _ _ _ h => h) (Or.inr ⟨by kernel_rfl, rfl⟩) hS ?_
    simp only [Act.put, List.setIfInBounds_toArray, List.set_cons_zero, List.set_cons_succ]
    refine takeH 12 62 (undef) rfl rfl (by kernel_rfl) (by kernel_rfl) (by kernel_rfl) (fun _ _ _ h => h) (Or.inr ⟨by kernel_rfl, rfl⟩) hS ?_
    simp only [Act.put, List.setIfInBounds_toArray, List.set_cons_zero, List.set_cons_succ]
    refine takeH 13 63 (.bool false) rfl rfl (by kernel_rfl) (by kernel_rfl) (by kernel_rfl) (fun _ _ _ h => h) (Or.inl ⟨by kernel_rfl, fun W _ => by go_simp⟩) hS ?_
    simp only [Act.put, List.setIfInBounds_toArray, List.set_cons_zero, List.set_cons_succ]
    refine takeH 14 64 (.bool true) rfl rfl (by kernel_rfl) (by kernel_rfl) (by kernel_rfl) (fun _ _ _ h => h) (Or.inl ⟨by kernel_rfl, fun W _ => by go_simp⟩) hS ?_
    simp only [Act.put, List.setIfInBounds_toArray, List.set_cons_zero, List.set_cons_succ]
    refine takeH 15 65 (.bool true) rfl rfl (by kernel_rfl) (by kernel_rfl) (by kernel_rfl) (fun _ _ _ h => h) (Or.inl ⟨by kernel_rfl, fun W _ => by go_simp⟩) hS ?_
    simp only [Act.put, List.setIfInBounds_toArray, List.set_cons_zero, List.set_cons_succ]
    refine takeH 16 66 (.bool true) rfl rfl (by kernel_rfl) (by kernel_rfl) (by kernel_rfl) (fun _ _ _ h => h) (Or.inl ⟨by kernel_rfl, fun W _ => by go_simp⟩) hS ?_
    simp only [Act.put, List.setIfInBounds_toArray, List.set_cons_zero, List.set_cons_succ]
    refine takeH 17 67 (uVal (u)) rfl rfl (by kernel_rfl) (by kernel_rfl) (by kernel_rfl) (fun _ _ _ h => h) (hy_load_U (Operand.tmp 1) rfl (by kernel_rfl) (w.heap.size) (u) (by kernel_rfl) (fun W h => ((hS1 W).1 h).1)) hS ?_
    simp only [Act.put, List.setIfInBounds_toArray, List.set_cons_zero, List.set_cons_succ]
    refine takeH 19 69 (uVal (Url.bare u)) rfl rfl (by kernel_rfl) (by kernel_rfl) (by kernel_rfl) (fun _ _ _ h => h) (hy_load_U (Operand.tmp 6) rfl (by kernel_rfl) (b6) (Url.bare u) (by kernel_rfl) (fun W h => ((hS1 W).1 h).2.2.1)) hS ?_
    simp only [Act.put, List.setIfInBounds_toArray, List.set_cons_zero, List.set_cons_succ]
    refine wpAnyH_ready (rs := [18]) (by kernel_rfl) (by simp) ?_
    refine AllReadyH.cons rfl (fun K hK => ?_) AllReadyH.nil
    go_simp
    refine (pbare _).mono ?_
    rintro e x3 ⟨rfl, hx3⟩
    refine hK.out _ _ ((hS1 _).2 ⟨((hS1 _).1 hS).1.below hx3, ((hS1 _).1 hS).2.1.below hx3, ((hS1 _).1 hS).2.2.1.below hx3, ((hS1 _).1 hS).2.2.2.1.below hx3, bel ((hS1 _).1 hS).2.2.2.2 hx3⟩) (fun hS => ?_)
    clear hK K
    refine takeH 20 70 (.bool true) rfl rfl (by kernel_rfl) (by kernel_rfl) (by kernel_rfl) (fun _ _ _ h => h) (hy_eql_self (Operand.tmp 68) (Operand.tmp 69) rfl (by kernel_rfl) (Url.bare u) (by kernel_rfl) (by kernel_rfl)) hS ?_
    simp only [Act.put, List.setIfInBounds_toArray, List.set_cons_zero, List.set_cons_succ]
    refine takeH 21 71 (.bool true) rfl rfl (by kernel_rfl) (by kernel_rfl) (by kernel_rfl) (fun _ _ _ h => h) (Or.inl ⟨by kernel_rfl, fun W _ => by go_simp⟩) hS ?_
    simp only [Act.put, List.setIfInBounds_toArray, List.set_cons_zero, List.set_cons_succ]
    refine takeH 22 72 (.bool true) rfl rfl (by kernel_rfl) (by kernel_rfl) (by kernel_rfl) (fun _ _ _ h => h) (Or.inl ⟨by kernel_rfl, fun W _ => by go_simp⟩) hS ?_
    simp only [Act.put, List.setIfInBounds_toArray, List.set_cons_zero, List.set_cons_succ]
    refine takeH 23 73 (uVal (u)) rfl rfl (by kernel_rfl) (by kernel_rfl) (by kernel_rfl) (fun _ _ _ h => h) (hy_load_U (Operand.tmp 1) rfl (by kernel_rfl) (w.heap.size) (u) (by kernel_rfl) (fun W h => ((hS1 W).1 h).1)) hS ?_
    simp only [Act.put, List.setIfInBounds_toArray, List.set_cons_zero, List.set_cons_succ]
    refine takeH 25 75 (.string (str og)) rfl rfl (by kernel_rfl) (by kernel_rfl) (by kernel_rfl) (fun _ _ _ h => h) (Or.inl ⟨by kernel_rfl, fun W _ => by go_simp⟩) hS ?_
    simp only [Act.put, List.setIfInBounds_toArray, List.set_cons_zero, List.set_cons_succ]
    refine wpAnyH_ready (rs := [24]) (by kernel_rfl) (by simp) ?_
    refine AllReadyH.cons rfl (fun K hK => ?_) AllReadyH.nil
    go_simp
    refine (porg _ ((hS1 _).1 hS).2.2.2.1).mono ?_
    rintro e x4 ⟨rfl, hx4⟩
    refine hK.out _ _ ((hS1 _).2 ⟨((hS1 _).1 hS).1.below hx4, ((hS1 _).1 hS).2.1.below hx4, ((hS1 _).1 hS).2.2.1.below hx4, ((hS1 _).1 hS).2.2.2.1.below hx4, bel ((hS1 _).1 hS).2.2.2.2 hx4⟩) (fun hS => ?_)
    clear hK K
    refine takeH 26 76 (.bool true) rfl rfl (by kernel_rfl) (by kernel_rfl) (by kernel_rfl) (fun _ _ _ h => h) (Or.inl ⟨by kernel_rfl, fun W _ => by go_simp⟩) hS ?_
    simp only [Act.put, List.setIfInBounds_toArray, List.set_cons_zero, List.set_cons_succ]
    refine takeH 27 77 (.bool true) rfl rfl (by kernel_rfl) (by kernel_rfl) (by kernel_rfl) (fun _ _ _ h => h) (Or.inl ⟨by kernel_rfl, fun W _ => by go_simp⟩) hS ?_
    simp only [Act.put, List.setIfInBounds_toArray, List.set_cons_zero, List.set_cons_succ]
    refine takeH 28 78 (.bool true) rfl rfl (by kernel_rfl) (by kernel_rfl) (by kernel_rfl) (fun _ _ _ h => h) (Or.inl ⟨by kernel_rfl, fun W _ => by go_simp⟩) hS ?_
    simp only [Act.put, List.setIfInBounds_toArray, List.set_cons_zero, List.set_cons_succ]
    refine wpAnyH_ready (rs := [29]) (by kernel_rfl) (by simp) ?_
    refine AllReadyH.cons rfl (fun K hK => ?_) AllReadyH.nil
    go_simp
    refine (alive_any _ ((hS1 _).1 hS).2.2.2.1).mono ?_
    rintro e x5 ⟨rfl, hx5⟩
    refine hK.out _ _ ((hS1 _).2 ⟨((hS1 _).1 hS).1.below hx5, ((hS1 _).1 hS).2.1.below hx5, ((hS1 _).1 hS).2.2.1.below hx5, ((hS1 _).1 hS).2.2.2.1.below hx5, bel ((hS1 _).1 hS).2.2.2.2 hx5⟩) (fun hS => ?_)
    clear hK K
    refine takeH 30 80 (.bool true) rfl rfl (by kernel_rfl) (by kernel_rfl) (by kernel_rfl) (fun _ _ _ h => h) (Or.inl ⟨by kernel_rfl, fun W _ => by go_simp⟩) hS ?_
    simp only [Act.put, List.setIfInBounds_toArray, List.set_cons_zero, List.set_cons_succ]
    refine takeH 31 2 (.bool true) rfl rfl (by kernel_rfl) (by kernel_rfl) (by kernel_rfl) (fun _ _ _ h => h) (Or.inl ⟨by kernel_rfl, fun W _ => by go_simp⟩) hS ?_
    simp only [Act.put, List.setIfInBounds_toArray, List.set_cons_zero, List.set_cons_succ]
    refine wpAnyH_done (by kernel_rfl) ?_ _
    have hfin := ((hS1 _).1 hS).2.2.2.2
    go_wp2
    go_ret
    exact ⟨rfl, hfin⟩
theorem walk (u : Url.U) (w : World) (hu : Fits u) (hE : Env w) :
    Calls Tryz.prog 4 #[uVal u] w fun e w' => e = .returned (.bool true) ∧ Below w.heap.size w w' := walk_U u w hE hu
end Go.Proofs.YtnmkhbelmdokmaaGreatDoor.urlTexts
