/- Contracts of the reference's Name, windows and Number. -/
import Derived.Test.YtdllcnifkiebjaaDoorRfRn
set_option linter.unusedVariables false
set_option linter.unusedSimpArgs false
namespace Go.Proofs.YtdllcnifkiebjaaDoor
open Go.RowKit
theorem look_next (T : Rf.Tab) (k : Nat) (p : List UInt8 × Int) (s : List UInt8) (h : T[k]? = some p) (hn : ¬ s = p.1) : Rf.look (T.drop (k + 1)) s = Rf.look (T.drop k) s := by
  obtain ⟨hlt, rfl⟩ := List.getElem?_eq_some_iff.1 h
  rw [List.drop_eq_getElem_cons hlt, Rf.look, if_neg hn]
theorem look_here (T : Rf.Tab) (k : Nat) (p : List UInt8 × Int) (s : List UInt8) (h : T[k]? = some p) (hn : s = p.1) : Rf.look (T.drop k) s = p.2 := by
  obtain ⟨hlt, rfl⟩ := List.getElem?_eq_some_iff.1 h
  rw [List.drop_eq_getElem_cons hlt, Rf.look, if_pos hn]
theorem names_at (k : Nat) (h : k < 56) : ∃ p, Rf.names[k]? = some p ∧ p.2 ≠ 0 ∧ p.1.length ≤ 20 := by
  have hl : Rf.names.length = 56 := by decide +kernel
  have hk : k < Rf.names.length := by omega
  have hb : ∀ p ∈ Rf.names, p.2 ≠ 0 ∧ p.1.length ≤ 20 := by decide +kernel
  exact ⟨Rf.names[k], List.getElem?_eq_getElem hk, hb _ (List.getElem_mem hk)⟩
theorem names_end (k : Nat) (h : 56 ≤ k) : Rf.names.drop k = [] := by
  have hl : Rf.names.length = 56 := by decide +kernel
  exact List.drop_eq_nil_of_le (by omega)
set_option maxHeartbeats 1000000 in
set_option maxRecDepth 100000 in
theorem RName_any (s : List UInt8) (w : World) :
    Calls Tryd.prog 10 #[.string (str s)] w fun e w' => e = .returned (.tuple #[.int .i32 (Rf.sgn s), .bool (Rf.sgn s != 0)]) ∧ Below w.heap.size w w' := by
  go_enter Tryd.func10, Tryd.ntmps10
  go_wp2_with (go_at_call 25; refine (names_any _).mono ?_; rintro e w1 ⟨b, rfl, ht, hb1⟩)
  have HT : Hid (ReadsTab w1 b Rf.names) := ht
  clear ht
  go_loop [5] (fun i => ∃ k : Nat, k ≤ 56 ∧ i = .int .i64 k ∧ Hid (Rf.look (Rf.names.drop k) s = Rf.sgn s)) (fun i => 56 - (intOf i).toNat)
  case atStart => exact ⟨0, by omega, rfl, rfl⟩
  case round =>
    obtain ⟨k, hk, rfl, HE⟩ := hrel
    by_cases hlt : k < 56
    · obtain ⟨p, hp, hnz, _⟩ := names_at k hlt
      obtain ⟨hc0, hc1⟩ := HT.out k p hp
      rw [Nat.mul_comm 2 k] at hc0 hc1
      by_cases hs : s = p.1
      · have HN : Hid (Rf.sgn s = p.2) := HE.out.symm.trans (look_here _ k p s hp hs)
        have q := str_beq_yes hs.symm
        have HZ : Hid (p.2 ≠ 0) := hnz
        clear hs hnz hp HE
        go_wp2
        go_ret2
        refine ⟨ret_pair (by rw [HN.out]; rfl) (by rw [HN.out, bne_iff_ne.2 HZ.out]; rfl), hb1⟩
      · have HN : Hid (Rf.look (Rf.names.drop (k + 1)) s = Rf.sgn s) := (look_next _ k p s hp hs).trans HE.out
        have q := str_beq_no (fun e : p.1 = s => hs e.symm)
        clear hs hnz hp HE
        go_wp2
        go_round
        case rel => exact ⟨k + 1, by omega, by go_num, HN⟩
        case measure => simp [intOf]; omega
    · have HN : Hid (Rf.sgn s = 0) := by
        show _ = _
        rw [← HE.out, names_end k (by omega)]
        rfl
      go_wp2
      go_ret2
      exact ⟨ret_pair (by rw [HN.out]; rfl) (by rw [HN.out]; rfl), hb1⟩
theorem win_cells (w : World) (t : Nat) (vs : Array Value) (h : vs = (Rf.windows.map fun z => Value.int .i32 z).toArray) (k : Nat) (hk : k < 32) : (w.alloc (.cells vs t)).cell? ⟨w.heap.size, k, none⟩ = some (.int .i32 (Rf.win k)) := by
  have hl : Rf.windows.length = 32 := by decide +kernel
  subst h
  rw [Lib.cell_of_heap (heap_new w _)]
  have e : Rf.windows[k]? = some (Rf.win k) := by
    unfold Rf.win
    rw [List.getD_eq_getElem?_getD, List.getElem?_eq_getElem (by omega)]
    rfl
  simp [e]
set_option maxHeartbeats 1000000 in
set_option maxRecDepth 100000 in
theorem windows_any (w : World) :
    Calls Tryd.prog 26 #[] w fun e w' => ∃ b, e = .returned (.slice (some ⟨b, 0, none⟩) 32 32) ∧ (∀ k, k < 32 → w'.cell? ⟨b, k, none⟩ = some (.int .i32 (Rf.win k))) ∧ Below w.heap.size w w' := by
  go_enter Tryd.func26, Tryd.ntmps26
  go_wp2
  go_ret
  exact ⟨w.heap.size, rfl, fun k hk => win_cells w _ _ (by kernel_rfl) k hk, (Below.refl _ w).alloc (Nat.le_refl _) _⟩
set_option maxHeartbeats 1000000 in
set_option maxRecDepth 100000 in
theorem RNumber11_any (n : Int) (w : World) (h0 : 0 ≤ n) (h1 : n ≤ 4294967295) :
    Calls Tryd.prog 12 #[.int .u32 n] w fun e w' => e = .returned (.int .i32 (Rf.numSign n)) ∧ Below w.heap.size w w' := by
  rcases sign_cases n h0 with ⟨hv, h⟩ | ⟨hv, h⟩ | ⟨k, rfl, hk⟩
  · rw [hv]
    clear hv
    rcases h with rfl | ⟨ha, hb⟩ | h
    all_goals
      go_enter Tryd.func12, Tryd.ntmps12
      go_wp2
      go_ret
      exact ⟨rfl, Below.refl _ _⟩
  · have HV : Hid (Rf.numSign n = n) := hv
    clear hv
    have hm : ¬ 1114111 < n := by omega
    have hm2 : decide (1114111 < n) = false := decide_eq_false hm
    have hm3 : (n == 0) = false := beq_eq_false_iff_ne.2 (by omega)
    rcases h with ⟨ha, hb⟩ | ⟨ha, hb⟩ | ⟨ha, hb⟩
    all_goals
      go_enter Tryd.func12, Tryd.ntmps12
      go_wp2
      go_ret
      exact ⟨ret_int (by rw [HV.out]), Below.refl _ _⟩
  · have hn1 : (128 : Int) ≤ (k : Int) + 128 := by omega
    have hn2 : (k : Int) + 128 ≤ 159 := by omega
    have hW : ∀ W, Calls Tryd.prog 26 #[] W fun e w' => ∃ b, e = .returned (.slice (some ⟨b, 0, none⟩) 32 32) ∧ w'.cell? ⟨b, ((k : Int) + 128 - 128).toNat, none⟩ = some (.int .i32 (Rf.win k)) ∧ Below W.heap.size W w' := by
      intro W
      refine (windows_any W).mono ?_
      rintro e w' ⟨b, rfl, hc, hb⟩
      refine ⟨b, rfl, ?_, hb⟩
      rw [show ((k : Int) + 128 - 128).toNat = k from by omega]
      exact hc k hk
    by_cases hz : Rf.win k = 0
    · rw [hz] at hW
      rw [sign_gap hk hz]
      clear hz
      generalize (k : Int) + 128 = n at *
      have hm : ¬ 1114111 < n := by omega
      have hm2 : decide (1114111 < n) = false := decide_eq_false hm
      have hm3 : (n == 0) = false := beq_eq_false_iff_ne.2 (by omega)
      go_enter Tryd.func12, Tryd.ntmps12
      go_wp2_with (go_at_call 26; refine (hW _).mono ?_; rintro e w1 ⟨b, rfl, hc, hb1⟩)
      go_ret
      exact ⟨ret_int (by first | rfl | omega), hb1⟩
    · rw [sign_win hk hz]
      have hz2 : (Rf.win k == 0) = false := beq_eq_false_iff_ne.2 hz
      generalize Rf.win k = x at hW hz hz2
      generalize (k : Int) + 128 = n at *
      have hm : ¬ 1114111 < n := by omega
      have hm2 : decide (1114111 < n) = false := decide_eq_false hm
      have hm3 : (n == 0) = false := beq_eq_false_iff_ne.2 (by omega)
      go_enter Tryd.func12, Tryd.ntmps12
      go_wp2_with (go_at_call 26; refine (hW _).mono ?_; rintro e w1 ⟨b, rfl, hc, hb1⟩)
      go_ret
      exact ⟨ret_int (by first | rfl | omega), hb1⟩
end Go.Proofs.YtdllcnifkiebjaaDoor
