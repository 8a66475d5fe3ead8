/- Texts laid as one. -/
import Derived.Test.YtiodaahncadodaaGreatDoorKRfEF
import Derived.Test.YtiodaahncadodaaGreatDoorKRfGK
/- Contracts of the reference's names, windows, starts, Name and Number. -/
set_option linter.unusedVariables false
set_option linter.unusedSimpArgs false
namespace Go.Proofs.YtiodaahncadodaaGreatDoor
open Go.RowKit
theorem starts_any (l p : List UInt8) (w : World) :
    Calls Tryz.prog 110 #[.string (str l), .string (str p)] w fun e w' => e = .returned (.bool (p.isPrefixOf l)) ∧ w' = w := by
  have h1 := str_size l
  have h2 := str_size p
  have he : (str l).extract 0 p.length = str (l.take p.length) := str_to l _
  by_cases h : p.length ≤ l.length
  · have hI : (p.length : Int) ≤ (l.length : Int) := by omega
    by_cases hq : l.take p.length = p
    · have q := str_beq_yes hq
      have HP : Hid (p.isPrefixOf l = true) := List.isPrefixOf_iff_prefix.2 (by rw [← hq]; exact List.take_prefix _ _)
      clear hq
      generalize l.take p.length = u at *
      go_enter Tryz.func110, Tryz.ntmps110
      go_wp2
      go_ret
      exact ⟨ret_bool (by rw [HP.out]), rfl⟩
    · have q := str_beq_no hq
      have HP : Hid (p.isPrefixOf l = false) := by
        show _ = _
        rw [Bool.eq_false_iff]
        intro e
        obtain ⟨r, rfl⟩ := List.isPrefixOf_iff_prefix.1 e
        exact hq List.take_left
      clear hq
      generalize l.take p.length = u at *
      go_enter Tryz.func110, Tryz.ntmps110
      go_wp2
      go_ret
      exact ⟨ret_bool (by rw [HP.out]), rfl⟩
  · have hI : ¬ (p.length : Int) ≤ (l.length : Int) := by omega
    have HP : Hid (p.isPrefixOf l = false) := by
      show _ = _
      rw [Bool.eq_false_iff]
      intro e
      have := (List.isPrefixOf_iff_prefix.1 e).length_le
      omega
    clear he
    go_enter Tryz.func110, Tryz.ntmps110
    go_wp2
    go_ret
    exact ⟨ret_bool (by rw [HP.out]), rfl⟩
/-- The cells of a table of names. -/
def cellsN (T : Rf.Tab) : List Value := T.flatMap fun p => [.string (str p.1), .int .i32 p.2]
def ReadsTab (w : World) (b : Nat) (T : Rf.Tab) : Prop := ∀ (k : Nat) p, T[k]? = some p → w.cell? ⟨b, 2 * k, none⟩ = some (.string (str p.1)) ∧ w.cell? ⟨b, 2 * k + 1, none⟩ = some (.int .i32 p.2)
theorem ReadsTab.below {w w' : World} {b : Nat} {T : Rf.Tab} (h : ReadsTab w b T) (hb : Below w.heap.size w w') : ReadsTab w' b T := fun k p hk => ⟨(hb.cell (p := ⟨b, 2 * k, none⟩) (cell_lt (h k p hk).1)).trans (h k p hk).1, (hb.cell (p := ⟨b, 2 * k + 1, none⟩) (cell_lt (h k p hk).2)).trans (h k p hk).2⟩
end Go.Proofs.YtiodaahncadodaaGreatDoor
/- The contract of the reference's names. -/
namespace Go.Proofs.YtiodaahncadodaaGreatDoor
open Go.RowKit
theorem cellsN_at : ∀ (T : Rf.Tab) (k : Nat) (p : List UInt8 × Int), T[k]? = some p → (cellsN T)[2 * k]? = some (.string (str p.1)) ∧ (cellsN T)[2 * k + 1]? = some (.int .i32 p.2)
  | [], k, p, h => by simp at h
  | q :: T, 0, p, h => by
    simp at h
    subst h
    exact ⟨rfl, rfl⟩
  | q :: T, k + 1, p, h => by
    have := cellsN_at T k p (by simpa using h)
    have e : cellsN (q :: T) = .string (str q.1) :: .int .i32 q.2 :: cellsN T := rfl
    rw [e, show 2 * (k + 1) = 2 * k + 1 + 1 from by omega]
    exact this
theorem readsTab_new (w : World) (T : Rf.Tab) (t : Nat) : ReadsTab (w.alloc (.cells (cellsN T).toArray t)) w.heap.size T := by
  intro k p hk
  have h := cellsN_at T k p hk
  refine ⟨?_, ?_⟩
  · rw [Lib.cell_of_heap (heap_new w _)]
    simpa using h.1
  · rw [Lib.cell_of_heap (heap_new w _)]
    simpa using h.2
theorem cells_names : (cellsN Rf.names).toArray = #[.string ⟨#[97,109,112]⟩, .int .i32 38, .string ⟨#[108,116]⟩, .int .i32 60, .string ⟨#[103,116]⟩, .int .i32 62, .string ⟨#[113,117,111,116]⟩, .int .i32 34, .string ⟨#[97,112,111,115]⟩, .int .i32 39, .string ⟨#[110,98,115,112]⟩, .int .i32 160, .string ⟨#[99,111,112,121]⟩, .int .i32 169, .string ⟨#[114,101,103]⟩, .int .i32 174, .string ⟨#[99,101,110,116]⟩, .int .i32 162, .string ⟨#[112,111,117,110,100]⟩, .int .i32 163, .string ⟨#[121,101,110]⟩, .int .i32 165, .string ⟨#[115,101,99,116]⟩, .int .i32 167, .string ⟨#[100,101,103]⟩, .int .i32 176, .string ⟨#[112,108,117,115,109,110]⟩, .int .i32 177, .string ⟨#[112,97,114,97]⟩, .int .i32 182, .string ⟨#[109,105,100,100,111,116]⟩, .int .i32 183, .string ⟨#[108,97,113,117,111]⟩, .int .i32 171, .string ⟨#[114,97,113,117,111]⟩, .int .i32 187, .string ⟨#[102,114,97,99,49,50]⟩, .int .i32 189, .string ⟨#[116,105,109,101,115]⟩, .int .i32 215, .string ⟨#[100,105,118,105,100,101]⟩, .int .i32 247, .string ⟨#[97,103,114,97,118,101]⟩, .int .i32 224, .string ⟨#[97,97,99,117,116,101]⟩, .int .i32 225, .string ⟨#[97,99,105,114,99]⟩, .int .i32 226, .string ⟨#[97,117,109,108]⟩, .int .i32 228, .string ⟨#[97,114,105,110,103]⟩, .int .i32 229, .string ⟨#[97,101,108,105,103]⟩, .int .i32 230, .string ⟨#[99,99,101,100,105,108]⟩, .int .i32 231, .string ⟨#[101,103,114,97,118,101]⟩, .int .i32 232, .string ⟨#[101,97,99,117,116,101]⟩, .int .i32 233, .string ⟨#[101,99,105,114,99]⟩, .int .i32 234, .string ⟨#[105,97,99,117,116,101]⟩, .int .i32 237, .string ⟨#[110,116,105,108,100,101]⟩, .int .i32 241, .string ⟨#[111,97,99,117,116,101]⟩, .int .i32 243, .string ⟨#[111,117,109,108]⟩, .int .i32 246, .string ⟨#[111,115,108,97,115,104]⟩, .int .i32 248, .string ⟨#[117,97,99,117,116,101]⟩, .int .i32 250, .string ⟨#[117,117,109,108]⟩, .int .i32 252, .string ⟨#[115,122,108,105,103]⟩, .int .i32 223, .string ⟨#[65,117,109,108]⟩, .int .i32 196, .string ⟨#[79,117,109,108]⟩, .int .i32 214, .string ⟨#[85,117,109,108]⟩, .int .i32 220, .string ⟨#[69,97,99,117,116,101]⟩, .int .i32 201, .string ⟨#[110,100,97,115,104]⟩, .int .i32 8211, .string ⟨#[109,100,97,115,104]⟩, .int .i32 8212, .string ⟨#[108,115,113,117,111]⟩, .int .i32 8216, .string ⟨#[114,115,113,117,111]⟩, .int .i32 8217, .string ⟨#[108,100,113,117,111]⟩, .int .i32 8220, .string ⟨#[114,100,113,117,111]⟩, .int .i32 8221, .string ⟨#[98,117,108,108]⟩, .int .i32 8226, .string ⟨#[104,101,108,108,105,112]⟩, .int .i32 8230, .string ⟨#[101,117,114,111]⟩, .int .i32 8364, .string ⟨#[116,114,97,100,101]⟩, .int .i32 8482, .string ⟨#[108,97,114,114]⟩, .int .i32 8592, .string ⟨#[114,97,114,114]⟩, .int .i32 8594, .string ⟨#[104,101,97,114,116,115]⟩, .int .i32 9829] := by kernel_rfl
set_option maxHeartbeats 4000000 in
set_option maxRecDepth 100000 in
theorem names_any (w : World) :
    Calls Tryz.prog 112 #[] w fun e w' => ∃ b, e = .returned (.slice (some ⟨b, 0, none⟩) 56 56) ∧ ReadsTab w' b Rf.names ∧ Below w.heap.size w w' := by
  have h := readsTab_new w Rf.names 144
  rw [cells_names] at h
  have H : Hid (ReadsTab _ w.heap.size Rf.names) := h
  clear h
  go_enter Tryz.func112, Tryz.ntmps112
  go_wp2
  go_ret
  exact ⟨w.heap.size, rfl, H.out, (Below.refl _ w).alloc (Nat.le_refl _) _⟩
end Go.Proofs.YtiodaahncadodaaGreatDoor
/- Contracts of the reference's Name, windows and Number. -/
namespace Go.Proofs.YtiodaahncadodaaGreatDoor
open Go.RowKit
theorem look_next (T : Rf.Tab) (k : Nat) (p : List UInt8 × Int) (s : List UInt8) (h : T[k]? = some p) (hn : ¬ s = p.1) : Rf.look (T.drop (k + 1)) s = Rf.look (T.drop k) s := by
  obtain ⟨hlt, rfl⟩ := List.getElem?_eq_some_iff.1 h
  rw [List.drop_eq_getElem_cons hlt, Rf.look, if_neg hn]
theorem look_here (T : Rf.Tab) (k : Nat) (p : List UInt8 × Int) (s : List UInt8) (h : T[k]? = some p) (hn : s = p.1) : Rf.look (T.drop k) s = p.2 := by
  obtain ⟨hlt, rfl⟩ := List.getElem?_eq_some_iff.1 h
  rw [List.drop_eq_getElem_cons hlt, Rf.look, if_pos hn]
theorem names_at (k : Nat) (h : k < 56) : ∃ p, Rf.names[k]? = some p ∧ p.2 ≠ 0 ∧ p.1.length ≤ 20 := by
  have hl : Rf.names.length = 56 := by decide +kernel
  have hk : k < Rf.names.length := by omega
  have hb : ∀ p ∈ Rf.names, p.2 ≠ 0 ∧ p.1.length ≤ 20 := by decide +kernel
  exact ⟨Rf.names[k], List.getElem?_eq_getElem hk, hb _ (List.getElem_mem hk)⟩
theorem names_end (k : Nat) (h : 56 ≤ k) : Rf.names.drop k = [] := by
  have hl : Rf.names.length = 56 := by decide +kernel
  exact List.drop_eq_nil_of_le (by omega)
set_option maxHeartbeats 1000000 in
set_option maxRecDepth 100000 in
theorem RName_any (s : List UInt8) (w : World) :
    Calls Tryz.prog 114 #[.string (str s)] w fun e w' => e = .returned (.tuple #[.int .i32 (Rf.sgn s), .bool (Rf.sgn s != 0)]) ∧ Below w.heap.size w w' := by
  go_enter Tryz.func114, Tryz.ntmps114
  go_wp2_with (go_at_call 112; refine (names_any _).mono ?_; rintro e w1 ⟨b, rfl, ht, hb1⟩)
  have HT : Hid (ReadsTab w1 b Rf.names) := ht
  clear ht
  go_loop [5] (fun i => ∃ k : Nat, k ≤ 56 ∧ i = .int .i64 k ∧ Hid (Rf.look (Rf.names.drop k) s = Rf.sgn s)) (fun i => 56 - (intOf i).toNat)
  case atStart => exact ⟨0, by omega, rfl, rfl⟩
  case round =>
    obtain ⟨k, hk, rfl, HE⟩ := hrel
    by_cases hlt : k < 56
    · obtain ⟨p, hp, hnz, _⟩ := names_at k hlt
      obtain ⟨hc0, hc1⟩ := HT.out k p hp
      rw [Nat.mul_comm 2 k] at hc0 hc1
      by_cases hs : s = p.1
      · have HN : Hid (Rf.sgn s = p.2) := HE.out.symm.trans (look_here _ k p s hp hs)
        have q := str_beq_yes hs.symm
        have HZ : Hid (p.2 ≠ 0) := hnz
        clear hs hnz hp HE
        go_wp2
        go_ret2
        refine ⟨ret_pair (by rw [HN.out]; rfl) (by rw [HN.out, bne_iff_ne.2 HZ.out]; rfl), hb1⟩
      · have HN : Hid (Rf.look (Rf.names.drop (k + 1)) s = Rf.sgn s) := (look_next _ k p s hp hs).trans HE.out
        have q := str_beq_no (fun e : p.1 = s => hs e.symm)
        clear hs hnz hp HE
        go_wp2
        go_round
        case rel => exact ⟨k + 1, by omega, by go_num, HN⟩
        case measure => simp [intOf]; omega
    · have HN : Hid (Rf.sgn s = 0) := by
        show _ = _
        rw [← HE.out, names_end k (by omega)]
        rfl
      go_wp2
      go_ret2
      exact ⟨ret_pair (by rw [HN.out]; rfl) (by rw [HN.out]; rfl), hb1⟩
theorem win_cells (w : World) (t : Nat) (vs : Array Value) (h : vs = (Rf.windows.map fun z => Value.int .i32 z).toArray) (k : Nat) (hk : k < 32) : (w.alloc (.cells vs t)).cell? ⟨w.heap.size, k, none⟩ = some (.int .i32 (Rf.win k)) := by
  have hl : Rf.windows.length = 32 := by decide +kernel
  subst h
  rw [Lib.cell_of_heap (heap_new w _)]
  have e : Rf.windows[k]? = some (Rf.win k) := by
    unfold Rf.win
    rw [List.getD_eq_getElem?_getD, List.getElem?_eq_getElem (by omega)]
    rfl
  simp [e]
set_option maxHeartbeats 1000000 in
set_option maxRecDepth 100000 in
theorem windows_any (w : World) :
    Calls Tryz.prog 165 #[] w fun e w' => ∃ b, e = .returned (.slice (some ⟨b, 0, none⟩) 32 32) ∧ (∀ k, k < 32 → w'.cell? ⟨b, k, none⟩ = some (.int .i32 (Rf.win k))) ∧ Below w.heap.size w w' := by
  go_enter Tryz.func165, Tryz.ntmps165
  go_wp2
  go_ret
  exact ⟨w.heap.size, rfl, fun k hk => win_cells w _ _ (by kernel_rfl) k hk, (Below.refl _ w).alloc (Nat.le_refl _) _⟩
set_option maxHeartbeats 1000000 in
set_option maxRecDepth 100000 in
theorem RNumber11_any (n : Int) (w : World) (h0 : 0 ≤ n) (h1 : n ≤ 4294967295) :
    Calls Tryz.prog 139 #[.int .u32 n] w fun e w' => e = .returned (.int .i32 (Rf.numSign n)) ∧ Below w.heap.size w w' := by
  rcases sign_cases n h0 with ⟨hv, h⟩ | ⟨hv, h⟩ | ⟨k, rfl, hk⟩
  · rw [hv]
    clear hv
    rcases h with rfl | ⟨ha, hb⟩ | h
    all_goals
      go_enter Tryz.func139, Tryz.ntmps139
      go_wp2
      go_ret
      exact ⟨rfl, Below.refl _ _⟩
  · have HV : Hid (Rf.numSign n = n) := hv
    clear hv
    have hm : ¬ 1114111 < n := by omega
    have hm2 : decide (1114111 < n) = false := decide_eq_false hm
    have hm3 : (n == 0) = false := beq_eq_false_iff_ne.2 (by omega)
    rcases h with ⟨ha, hb⟩ | ⟨ha, hb⟩ | ⟨ha, hb⟩
    all_goals
      go_enter Tryz.func139, Tryz.ntmps139
      go_wp2
      go_ret
      exact ⟨ret_int (by rw [HV.out]), Below.refl _ _⟩
  · have hn1 : (128 : Int) ≤ (k : Int) + 128 := by omega
    have hn2 : (k : Int) + 128 ≤ 159 := by omega
    have hW : ∀ W, Calls Tryz.prog 165 #[] W fun e w' => ∃ b, e = .returned (.slice (some ⟨b, 0, none⟩) 32 32) ∧ w'.cell? ⟨b, ((k : Int) + 128 - 128).toNat, none⟩ = some (.int .i32 (Rf.win k)) ∧ Below W.heap.size W w' := by
      intro W
      refine (windows_any W).mono ?_
      rintro e w' ⟨b, rfl, hc, hb⟩
      refine ⟨b, rfl, ?_, hb⟩
      rw [show ((k : Int) + 128 - 128).toNat = k from by omega]
      exact hc k hk
    by_cases hz : Rf.win k = 0
    · rw [hz] at hW
      rw [sign_gap hk hz]
      clear hz
      generalize (k : Int) + 128 = n at *
      have hm : ¬ 1114111 < n := by omega
      have hm2 : decide (1114111 < n) = false := decide_eq_false hm
      have hm3 : (n == 0) = false := beq_eq_false_iff_ne.2 (by omega)
      go_enter Tryz.func139, Tryz.ntmps139
      go_wp2_with (go_at_call 165; refine (hW _).mono ?_; rintro e w1 ⟨b, rfl, hc, hb1⟩)
      go_ret
      exact ⟨ret_int (by first | rfl | omega), hb1⟩
    · rw [sign_win hk hz]
      have hz2 : (Rf.win k == 0) = false := beq_eq_false_iff_ne.2 hz
      generalize Rf.win k = x at hW hz hz2
      generalize (k : Int) + 128 = n at *
      have hm : ¬ 1114111 < n := by omega
      have hm2 : decide (1114111 < n) = false := decide_eq_false hm
      have hm3 : (n == 0) = false := beq_eq_false_iff_ne.2 (by omega)
      go_enter Tryz.func139, Tryz.ntmps139
      go_wp2_with (go_at_call 165; refine (hW _).mono ?_; rintro e w1 ⟨b, rfl, hc, hb1⟩)
      go_ret
      exact ⟨ret_int (by first | rfl | omega), hb1⟩
end Go.Proofs.YtiodaahncadodaaGreatDoor
/- The contract of the reference's number. -/
namespace Rf
open Asc
theorem foldCap_app (base : Int) : ∀ (l m : List UInt8) (n : Int), foldCap base n (l ++ m) = foldCap base (foldCap base n l) m
  | [], m, n => rfl
  | c :: l, m, n => by rw [List.cons_append, foldCap, foldCap, foldCap_app base l m]
theorem foldCap_snoc (base : Int) (D : List UInt8) (k : Nat) (h : k < D.length) : foldCap base 0 (D.take (k + 1)) = min (foldCap base 0 (D.take k) * base + hexV (bt D[k])) 4294967295 := by
  rw [List.take_succ_eq_append_getElem h, foldCap_app]
  rfl
end Rf
namespace Go.Proofs.YtiodaahncadodaaGreatDoor
open Go.RowKit
theorem RNibble_any (c : UInt8) (w : World) :
    Calls Tryz.prog 138 #[.int .u8 c.toNat] w fun e w' => e = .returned (.int .u32 (nibV (c.toNat : Int))) ∧ w' = w := by
  go_enter Tryz.func138, Tryz.ntmps138
  go_wp2_with (go_at_call 164; refine (Rnibble_any c _).mono ?_; rintro e w1 ⟨rfl, hw⟩; rw [hw]; clear hw)
  go_ret
  exact ⟨rfl, rfl⟩
theorem nib_yes' (b : Bool) (c : UInt8) (h : Rf.dOk b c = true) : nibV (c.toNat : Int) = Asc.hexV (Asc.bt c) ∧ 0 ≤ Asc.hexV (Asc.bt c) ∧ Asc.hexV (Asc.bt c) < Rf.baseOf b := by
  have hb := Asc.hexV_bd (Asc.bt c)
  cases b
  · have h' : 48 ≤ Asc.bt c ∧ Asc.bt c ≤ 57 := by
      have h2 : Rf.digB c = true := h
      simpa [Rf.digB, Asc.isDig] using h2
    have ho : Asc.hexOk (Asc.bt c) = true := by unfold Asc.hexOk; simp [h']
    refine ⟨nib_yes _ ho, hb.1, ?_⟩
    have := (Rf.hexV_dig c h)
    show Asc.hexV (Asc.bt c) < 10
    omega
  · exact ⟨nib_yes _ h, hb.1, by show Asc.hexV (Asc.bt c) < 16; omega⟩
theorem nib_no' (b : Bool) (c : UInt8) (h : Rf.dOk b c = false) : Rf.baseOf b ≤ nibV (c.toNat : Int) ∧ nibV (c.toNat : Int) ≤ 16 := by
  cases hx : Asc.hexOk (Asc.bt c)
  · have e : nibV (c.toNat : Int) = 16 := nib_no _ hx
    rw [e]
    cases b
    · exact ⟨by show (10 : Int) ≤ 16; omega, by omega⟩
    · exact ⟨by show (16 : Int) ≤ 16; omega, by omega⟩
  · cases b
    · have e : nibV (c.toNat : Int) = Asc.hexV (Asc.bt c) := nib_yes _ hx
      rw [e]
      have hb := Asc.hexV_bd (Asc.bt c)
      have h' : ¬ (48 ≤ Asc.bt c ∧ Asc.bt c ≤ 57) := by
        have h2 : Rf.digB c = false := h
        simpa [Rf.digB, Asc.isDig] using h2
      refine ⟨?_, by omega⟩
      show (10 : Int) ≤ _
      unfold Asc.hexV
      rw [if_neg h']
      unfold Asc.hexOk at hx
      simp only [Bool.or_eq_true, decide_eq_true_eq] at hx
      split
      · omega
      · split
        · omega
        · omega
    · have h2 : Rf.hexB c = false := h
      unfold Rf.hexB at h2
      rw [h2] at hx
      cases hx
theorem byte_ne' {c : UInt8} {k : Nat} (hk : k < 256) (h : c ≠ UInt8.ofNat k) : ¬ (c.toNat : Int) = (k : Int) := by
  intro e
  apply h
  apply UInt8.toNat_inj.1
  have : (UInt8.ofNat k).toNat = k := by rw [UInt8.toNat_ofNat']; omega
  omega
theorem mid_at (pre D rest : List UInt8) (i : Nat) (h1 : pre.length ≤ i) (h2 : i < pre.length + D.length) (h : i < (pre ++ (D ++ rest)).length) : (pre ++ (D ++ rest))[i] = D[i - pre.length] := by
  rw [List.getElem_append_right h1, List.getElem_append_left]
theorem end_at (pre D : List UInt8) (c : UInt8) (q : List UInt8) (h : pre.length + D.length < (pre ++ (D ++ c :: q)).length) : (pre ++ (D ++ c :: q))[pre.length + D.length] = c := by
  rw [List.getElem_append_right (by omega), List.getElem_append_right (by omega)]
  simp
def numR (b : Bool) (f1 : Nat) (D rest : List UInt8) : Int × Nat × Bool := if D = [] then (0, 0, false) else (Rf.numSign (Rf.foldCap (Rf.baseOf b) 0 D), f1 + D.length + Rf.semi rest, true)
set_option maxHeartbeats 2000000 in
set_option maxRecDepth 100000 in
theorem Rnumber_d (s pre D rest : List UInt8) (hs : s = pre ++ (D ++ rest)) (hpl : pre.length = 2) (hD : D.all (Rf.dOk false) = true) (hr : ∀ c ∈ rest.head?, Rf.dOk false c = false) (hz : s.length ≤ 1000000000) (w : World) (h2 : 2 < (str s).size) (q1 : ¬ ((str s)[2].toNat : Int) = 120) (q2 : ¬ ((str s)[2].toNat : Int) = 88) :
    Calls Tryz.prog 111 #[.string (str s)] w fun e w' => e = .returned (nxV (numR false 2 D rest)) ∧ Below w.heap.size w w' := by
  have hsz := str_size s
  have hsl : s.length = 2 + D.length + rest.length := by rw [hs]; simp only [List.length_append]; omega
  have h2i : (2 : Int) < (s.length : Int) := by omega
  have HS : Hid (s = pre ++ (D ++ rest)) := hs
  have HR0 : Hid (∀ c ∈ rest.head?, Rf.dOk false c = false) := hr
  have HD0 : Hid (D.all (Rf.dOk false) = true) := hD
  have HSL : Hid (s.length = 2 + D.length + rest.length) := hsl
  clear hs hr hD hsl
  have r1 : (((str s)[2].toNat : Int) == 120) = false := beq_eq_false_iff_ne.2 q1
  have r2 : (((str s)[2].toNat : Int) == 88) = false := beq_eq_false_iff_ne.2 q2
  go_enter Tryz.func111, Tryz.ntmps111
  go_wp2
  go_loop [6, 7] (fun i n => ∃ (k : Nat) (v : Int), 2 ≤ k ∧ k ≤ 2 + D.length ∧ i = .int .i64 k ∧ n = .int .u64 v ∧ 0 ≤ v ∧ v ≤ 4294967295 ∧ Hid (v = Rf.foldCap 10 0 (D.take (k - 2)))) (fun i _ => 2 + D.length - (intOf i).toNat)
  case atStart => exact ⟨2, 0, by omega, by omega, rfl, rfl, by omega, by omega, by show _ = _; simp [Rf.foldCap]⟩
  case round =>
    obtain ⟨k, v, hk0, hk1, rfl, rfl, hv0, hv1, HV⟩ := hrel
    by_cases hlt : k < 2 + D.length
    · have hks : k < (str s).size := by have := HSL.out; omega
      have hki : (k : Int) < (s.length : Int) := by omega
      have hkd : k - 2 < D.length := by omega
      have he : (str s)[k] = D[k - 2] := by
        show s[k]'(by omega) = _
        have := mid_at pre D rest k (by omega) (by omega) (by rw [← HS.out]; omega)
        simp only [hpl] at this
        simp only [HS.out]
        exact this
      have hok : Rf.dOk false (str s)[k] = true := by
        rw [he]
        exact List.all_eq_true.1 HD0.out _ (List.getElem_mem hkd)
      have hn := nib_yes' false (str s)[k] hok
      have HN : Hid (min (v * 10 + Asc.hexV (Asc.bt (str s)[k])) 4294967295 = Rf.foldCap 10 0 (D.take (k + 1 - 2))) := by
        show _ = _
        rw [show k + 1 - 2 = k - 2 + 1 from by omega, Rf.foldCap_snoc 10 D _ hkd, ← HV.out, he]
      have hNb := RNibble_any (str s)[k]
      rw [hn.1] at hNb
      obtain ⟨_, hn0, hn1⟩ := hn
      have hn1' : Asc.hexV (Asc.bt (str s)[k]) < 10 := hn1
      clear hn1 he hok
      generalize Asc.hexV (Asc.bt (str s)[k]) = d at *
      go_wp2_with (go_at_call 138; refine (hNb _).mono ?_; rintro e w1 ⟨rfl, hw⟩; rw [hw]; clear hw)
      go_round
      case rel => exact ⟨k + 1, min (v * 10 + d) 4294967295, by omega, by omega, by go_num, by first | rfl | go_num, by omega, by omega, HN.out⟩
      case measure => simp [intOf]; omega
    · have hkk : k = 2 + D.length := by omega
      have HV' : Hid (v = Rf.foldCap 10 0 D) := by
        show _ = _
        rw [HV.out, show k - 2 = D.length from by omega, List.take_length]
      have HK : Hid (k = 2 + D.length) := hkk
      clear HV hlt hkk hk0 hk1
      cases rest with
      | nil =>
        have hki : ¬ (k : Int) < (s.length : Int) := by have := HK.out; have hsl := HSL.out; simp at hsl; omega
        by_cases hd : D.length = 0
        · have hD0 : D = [] := List.eq_nil_of_length_eq_zero hd
          have HR : Hid (numR false 2 D [] = (0, 0, false)) := by show _ = _; unfold numR; rw [if_pos hD0]
          have hde : ((k : Int) == 2) = true := by have := HK.out; rw [beq_iff_eq]; omega
          clear hD0 hd
          go_wp2
          go_ret3
          rw [HR.out]
          exact ⟨rfl, Below.refl _ _⟩
        · have hD0 : D ≠ [] := by intro e; rw [e] at hd; exact hd rfl
          have HR : Hid (numR false 2 D [] = (Rf.numSign v, k, true)) := by show _ = _; unfold numR; rw [if_neg hD0, HV'.out, HK.out]; rfl
          have hde : ¬ (k : Int) = 2 := by have := HK.out; omega
          have hde2 : ((k : Int) == 2) = false := beq_eq_false_iff_ne.2 hde
          have hN := fun W => RNumber11_any v W hv0 hv1
          clear hD0 hd
          go_wp2_with (go_at_call 139; refine (hN _).mono ?_; rintro e w1 ⟨rfl, hb1⟩)
          go_ret3
          rw [HR.out]
          exact ⟨by simp [nxV], hb1⟩
      | cons c q =>
        have hki : (k : Int) < (s.length : Int) := by have := HK.out; have hsl := HSL.out; simp at hsl; omega
        have hks : k < (str s).size := by omega
        have he : (str s)[k] = c := by
          show s[k]'(by omega) = _
          have hk := HK.out
          have := end_at pre D c q (by rw [← HS.out, hpl]; omega)
          simp only [hpl] at this
          simp only [HS.out, hk]
          exact this
        have hno := HR0.out c (by simp)
        have hn := nib_no' false c hno
        have hNb := RNibble_any c
        have hnb : 10 ≤ nibV (c.toNat : Int) ∧ nibV (c.toNat : Int) ≤ 16 := hn
        clear hn hno
        generalize nibV (c.toNat : Int) = d at *
        obtain ⟨hnb0, hnb1⟩ := hnb
        by_cases hd : D.length = 0
        · have hD0 : D = [] := List.eq_nil_of_length_eq_zero hd
          have HR : Hid (numR false 2 D (c :: q) = (0, 0, false)) := by show _ = _; unfold numR; rw [if_pos hD0]
          have hde : ((k : Int) == 2) = true := by have := HK.out; rw [beq_iff_eq]; omega
          clear hD0 hd
          go_wp2_with (go_at_call 138; refine (hNb _).mono ?_; rintro e w1 ⟨rfl, hw⟩; rw [hw]; clear hw)
          go_ret3
          rw [HR.out]
          exact ⟨rfl, Below.refl _ _⟩
        · have hD0 : D ≠ [] := by intro e; rw [e] at hd; exact hd rfl
          have hde : ¬ (k : Int) = 2 := by have := HK.out; omega
          have hde2 : ((k : Int) == 2) = false := beq_eq_false_iff_ne.2 hde
          have hN := fun W => RNumber11_any v W hv0 hv1
          by_cases hc : c = 59
          · have HR : Hid (numR false 2 D (c :: q) = (Rf.numSign v, k + 1, true)) := by show _ = _; unfold numR; rw [if_neg hD0, HV'.out, hc, HK.out]; rfl
            have hq : ((c.toNat : Int) == 59) = true := by rw [hc]; rfl
            clear hD0 hc
            go_wp2_with (first
              | (go_at_call 138; refine (hNb _).mono ?_; rintro e w1 ⟨rfl, hw⟩; rw [hw]; clear hw)
              | (go_at_call 139; refine (hN _).mono ?_; rintro e w1 ⟨rfl, hb1⟩))
            go_ret3
            rw [HR.out]
            exact ⟨by simp [nxV], hb1⟩
          · have HR : Hid (numR false 2 D (c :: q) = (Rf.numSign v, k, true)) := by
              show _ = _
              unfold numR
              rw [if_neg hD0, HV'.out]
              have : Rf.semi (c :: q) = 0 := by
                unfold Rf.semi
                rw [if_neg]
                simp [List.isPrefixOf]
                exact fun e => hc e.symm
              rw [this, HK.out]
              rfl
            have hq : ¬ (c.toNat : Int) = 59 := byte_ne' (k := 59) (by omega) hc
            have hq2 : ((c.toNat : Int) == 59) = false := beq_eq_false_iff_ne.2 hq
            clear hD0 hc
            go_wp2_with (first
              | (go_at_call 138; refine (hNb _).mono ?_; rintro e w1 ⟨rfl, hw⟩; rw [hw]; clear hw)
              | (go_at_call 139; refine (hN _).mono ?_; rintro e w1 ⟨rfl, hb1⟩))
            go_ret3
            rw [HR.out]
            exact ⟨by simp [nxV], hb1⟩
set_option maxHeartbeats 2000000 in
set_option maxRecDepth 100000 in
theorem Rnumber_x (s pre D rest : List UInt8) (hs : s = pre ++ (D ++ rest)) (hpl : pre.length = 3) (hD : D.all (Rf.dOk true) = true) (hr : ∀ c ∈ rest.head?, Rf.dOk true c = false) (hz : s.length ≤ 1000000000) (w : World) (h2 : 2 < (str s).size) (q1 : ((str s)[2].toNat : Int) = 120) :
    Calls Tryz.prog 111 #[.string (str s)] w fun e w' => e = .returned (nxV (numR true 3 D rest)) ∧ Below w.heap.size w w' := by
  have hsz := str_size s
  have hsl : s.length = 3 + D.length + rest.length := by rw [hs]; simp only [List.length_append]; omega
  have h2i : (2 : Int) < (s.length : Int) := by omega
  have HS : Hid (s = pre ++ (D ++ rest)) := hs
  have HR0 : Hid (∀ c ∈ rest.head?, Rf.dOk true c = false) := hr
  have HD0 : Hid (D.all (Rf.dOk true) = true) := hD
  have HSL : Hid (s.length = 3 + D.length + rest.length) := hsl
  clear hs hr hD hsl
  have r1 : (((str s)[2].toNat : Int) == 120) = true := by rw [q1]; rfl
  go_enter Tryz.func111, Tryz.ntmps111
  go_wp2
  go_loop [6, 7] (fun i n => ∃ (k : Nat) (v : Int), 3 ≤ k ∧ k ≤ 3 + D.length ∧ i = .int .i64 k ∧ n = .int .u64 v ∧ 0 ≤ v ∧ v ≤ 4294967295 ∧ Hid (v = Rf.foldCap 16 0 (D.take (k - 3)))) (fun i _ => 3 + D.length - (intOf i).toNat)
  case atStart => exact ⟨3, 0, by omega, by omega, rfl, rfl, by omega, by omega, by show _ = _; simp [Rf.foldCap]⟩
  case round =>
    obtain ⟨k, v, hk0, hk1, rfl, rfl, hv0, hv1, HV⟩ := hrel
    by_cases hlt : k < 3 + D.length
    · have hks : k < (str s).size := by have := HSL.out; omega
      have hki : (k : Int) < (s.length : Int) := by omega
      have hkd : k - 3 < D.length := by omega
      have he : (str s)[k] = D[k - 3] := by
        show s[k]'(by omega) = _
        have := mid_at pre D rest k (by omega) (by omega) (by rw [← HS.out]; omega)
        simp only [hpl] at this
        simp only [HS.out]
        exact this
      have hok : Rf.dOk true (str s)[k] = true := by
        rw [he]
        exact List.all_eq_true.1 HD0.out _ (List.getElem_mem hkd)
      have hn := nib_yes' true (str s)[k] hok
      have HN : Hid (min (v * 16 + Asc.hexV (Asc.bt (str s)[k])) 4294967295 = Rf.foldCap 16 0 (D.take (k + 1 - 3))) := by
        show _ = _
        rw [show k + 1 - 3 = k - 3 + 1 from by omega, Rf.foldCap_snoc 16 D _ hkd, ← HV.out, he]
      have hNb := RNibble_any (str s)[k]
      rw [hn.1] at hNb
      obtain ⟨_, hn0, hn1⟩ := hn
      have hn1' : Asc.hexV (Asc.bt (str s)[k]) < 16 := hn1
      clear hn1 he hok
      generalize Asc.hexV (Asc.bt (str s)[k]) = d at *
      go_wp2_with (go_at_call 138; refine (hNb _).mono ?_; rintro e w1 ⟨rfl, hw⟩; rw [hw]; clear hw)
      go_round
      case rel => exact ⟨k + 1, min (v * 16 + d) 4294967295, by omega, by omega, by go_num, by first | rfl | go_num, by omega, by omega, HN.out⟩
      case measure => simp [intOf]; omega
    · have hkk : k = 3 + D.length := by omega
      have HV' : Hid (v = Rf.foldCap 16 0 D) := by
        show _ = _
        rw [HV.out, show k - 3 = D.length from by omega, List.take_length]
      have HK : Hid (k = 3 + D.length) := hkk
      clear HV hlt hkk hk0 hk1
      cases rest with
      | nil =>
        have hki : ¬ (k : Int) < (s.length : Int) := by have := HK.out; have hsl := HSL.out; simp at hsl; omega
        by_cases hd : D.length = 0
        · have hD0 : D = [] := List.eq_nil_of_length_eq_zero hd
          have HR : Hid (numR true 3 D [] = (0, 0, false)) := by show _ = _; unfold numR; rw [if_pos hD0]
          have hde : ((k : Int) == 3) = true := by have := HK.out; rw [beq_iff_eq]; omega
          clear hD0 hd
          go_wp2
          go_ret3
          rw [HR.out]
          exact ⟨rfl, Below.refl _ _⟩
        · have hD0 : D ≠ [] := by intro e; rw [e] at hd; exact hd rfl
          have HR : Hid (numR true 3 D [] = (Rf.numSign v, k, true)) := by show _ = _; unfold numR; rw [if_neg hD0, HV'.out, HK.out]; rfl
          have hde : ¬ (k : Int) = 3 := by have := HK.out; omega
          have hde2 : ((k : Int) == 3) = false := beq_eq_false_iff_ne.2 hde
          have hN := fun W => RNumber11_any v W hv0 hv1
          clear hD0 hd
          go_wp2_with (go_at_call 139; refine (hN _).mono ?_; rintro e w1 ⟨rfl, hb1⟩)
          go_ret3
          rw [HR.out]
          exact ⟨by simp [nxV], hb1⟩
      | cons c q =>
        have hki : (k : Int) < (s.length : Int) := by have := HK.out; have hsl := HSL.out; simp at hsl; omega
        have hks : k < (str s).size := by omega
        have he : (str s)[k] = c := by
          show s[k]'(by omega) = _
          have hk := HK.out
          have := end_at pre D c q (by rw [← HS.out, hpl]; omega)
          simp only [hpl] at this
          simp only [HS.out, hk]
          exact this
        have hno := HR0.out c (by simp)
        have hn := nib_no' true c hno
        have hNb := RNibble_any c
        have hnb : 16 ≤ nibV (c.toNat : Int) ∧ nibV (c.toNat : Int) ≤ 16 := hn
        clear hn hno
        generalize nibV (c.toNat : Int) = d at *
        obtain ⟨hnb0, hnb1⟩ := hnb
        by_cases hd : D.length = 0
        · have hD0 : D = [] := List.eq_nil_of_length_eq_zero hd
          have HR : Hid (numR true 3 D (c :: q) = (0, 0, false)) := by show _ = _; unfold numR; rw [if_pos hD0]
          have hde : ((k : Int) == 3) = true := by have := HK.out; rw [beq_iff_eq]; omega
          clear hD0 hd
          go_wp2_with (go_at_call 138; refine (hNb _).mono ?_; rintro e w1 ⟨rfl, hw⟩; rw [hw]; clear hw)
          go_ret3
          rw [HR.out]
          exact ⟨rfl, Below.refl _ _⟩
        · have hD0 : D ≠ [] := by intro e; rw [e] at hd; exact hd rfl
          have hde : ¬ (k : Int) = 3 := by have := HK.out; omega
          have hde2 : ((k : Int) == 3) = false := beq_eq_false_iff_ne.2 hde
          have hN := fun W => RNumber11_any v W hv0 hv1
          by_cases hc : c = 59
          · have HR : Hid (numR true 3 D (c :: q) = (Rf.numSign v, k + 1, true)) := by show _ = _; unfold numR; rw [if_neg hD0, HV'.out, hc, HK.out]; rfl
            have hq : ((c.toNat : Int) == 59) = true := by rw [hc]; rfl
            clear hD0 hc
            go_wp2_with (first
              | (go_at_call 138; refine (hNb _).mono ?_; rintro e w1 ⟨rfl, hw⟩; rw [hw]; clear hw)
              | (go_at_call 139; refine (hN _).mono ?_; rintro e w1 ⟨rfl, hb1⟩))
            go_ret3
            rw [HR.out]
            exact ⟨by simp [nxV], hb1⟩
          · have HR : Hid (numR true 3 D (c :: q) = (Rf.numSign v, k, true)) := by
              show _ = _
              unfold numR
              rw [if_neg hD0, HV'.out]
              have : Rf.semi (c :: q) = 0 := by
                unfold Rf.semi
                rw [if_neg]
                simp [List.isPrefixOf]
                exact fun e => hc e.symm
              rw [this, HK.out]
              rfl
            have hq : ¬ (c.toNat : Int) = 59 := byte_ne' (k := 59) (by omega) hc
            have hq2 : ((c.toNat : Int) == 59) = false := beq_eq_false_iff_ne.2 hq
            clear hD0 hc
            go_wp2_with (first
              | (go_at_call 138; refine (hNb _).mono ?_; rintro e w1 ⟨rfl, hw⟩; rw [hw]; clear hw)
              | (go_at_call 139; refine (hN _).mono ?_; rintro e w1 ⟨rfl, hb1⟩))
            go_ret3
            rw [HR.out]
            exact ⟨by simp [nxV], hb1⟩
set_option maxHeartbeats 2000000 in
set_option maxRecDepth 100000 in
theorem Rnumber_X (s pre D rest : List UInt8) (hs : s = pre ++ (D ++ rest)) (hpl : pre.length = 3) (hD : D.all (Rf.dOk true) = true) (hr : ∀ c ∈ rest.head?, Rf.dOk true c = false) (hz : s.length ≤ 1000000000) (w : World) (h2 : 2 < (str s).size) (q1 : ¬ ((str s)[2].toNat : Int) = 120) (q2 : ((str s)[2].toNat : Int) = 88) :
    Calls Tryz.prog 111 #[.string (str s)] w fun e w' => e = .returned (nxV (numR true 3 D rest)) ∧ Below w.heap.size w w' := by
  have hsz := str_size s
  have hsl : s.length = 3 + D.length + rest.length := by rw [hs]; simp only [List.length_append]; omega
  have h2i : (2 : Int) < (s.length : Int) := by omega
  have HS : Hid (s = pre ++ (D ++ rest)) := hs
  have HR0 : Hid (∀ c ∈ rest.head?, Rf.dOk true c = false) := hr
  have HD0 : Hid (D.all (Rf.dOk true) = true) := hD
  have HSL : Hid (s.length = 3 + D.length + rest.length) := hsl
  clear hs hr hD hsl
  have r1 : (((str s)[2].toNat : Int) == 120) = false := beq_eq_false_iff_ne.2 q1
  have r2 : (((str s)[2].toNat : Int) == 88) = true := by rw [q2]; rfl
  go_enter Tryz.func111, Tryz.ntmps111
  go_wp2
  go_loop [6, 7] (fun i n => ∃ (k : Nat) (v : Int), 3 ≤ k ∧ k ≤ 3 + D.length ∧ i = .int .i64 k ∧ n = .int .u64 v ∧ 0 ≤ v ∧ v ≤ 4294967295 ∧ Hid (v = Rf.foldCap 16 0 (D.take (k - 3)))) (fun i _ => 3 + D.length - (intOf i).toNat)
  case atStart => exact ⟨3, 0, by omega, by omega, rfl, rfl, by omega, by omega, by show _ = _; simp [Rf.foldCap]⟩
  case round =>
    obtain ⟨k, v, hk0, hk1, rfl, rfl, hv0, hv1, HV⟩ := hrel
    by_cases hlt : k < 3 + D.length
    · have hks : k < (str s).size := by have := HSL.out; omega
      have hki : (k : Int) < (s.length : Int) := by omega
      have hkd : k - 3 < D.length := by omega
      have he : (str s)[k] = D[k - 3] := by
        show s[k]'(by omega) = _
        have := mid_at pre D rest k (by omega) (by omega) (by rw [← HS.out]; omega)
        simp only [hpl] at this
        simp only [HS.out]
        exact this
      have hok : Rf.dOk true (str s)[k] = true := by
        rw [he]
        exact List.all_eq_true.1 HD0.out _ (List.getElem_mem hkd)
      have hn := nib_yes' true (str s)[k] hok
      have HN : Hid (min (v * 16 + Asc.hexV (Asc.bt (str s)[k])) 4294967295 = Rf.foldCap 16 0 (D.take (k + 1 - 3))) := by
        show _ = _
        rw [show k + 1 - 3 = k - 3 + 1 from by omega, Rf.foldCap_snoc 16 D _ hkd, ← HV.out, he]
      have hNb := RNibble_any (str s)[k]
      rw [hn.1] at hNb
      obtain ⟨_, hn0, hn1⟩ := hn
      have hn1' : Asc.hexV (Asc.bt (str s)[k]) < 16 := hn1
      clear hn1 he hok
      generalize Asc.hexV (Asc.bt (str s)[k]) = d at *
      go_wp2_with (go_at_call 138; refine (hNb _).mono ?_; rintro e w1 ⟨rfl, hw⟩; rw [hw]; clear hw)
      go_round
      case rel => exact ⟨k + 1, min (v * 16 + d) 4294967295, by omega, by omega, by go_num, by first | rfl | go_num, by omega, by omega, HN.out⟩
      case measure => simp [intOf]; omega
    · have hkk : k = 3 + D.length := by omega
      have HV' : Hid (v = Rf.foldCap 16 0 D) := by
        show _ = _
        rw [HV.out, show k - 3 = D.length from by omega, List.take_length]
      have HK : Hid (k = 3 + D.length) := hkk
      clear HV hlt hkk hk0 hk1
      cases rest with
      | nil =>
        have hki : ¬ (k : Int) < (s.length : Int) := by have := HK.out; have hsl := HSL.out; simp at hsl; omega
        by_cases hd : D.length = 0
        · have hD0 : D = [] := List.eq_nil_of_length_eq_zero hd
          have HR : Hid (numR true 3 D [] = (0, 0, false)) := by show _ = _; unfold numR; rw [if_pos hD0]
          have hde : ((k : Int) == 3) = true := by have := HK.out; rw [beq_iff_eq]; omega
          clear hD0 hd
          go_wp2
          go_ret3
          rw [HR.out]
          exact ⟨rfl, Below.refl _ _⟩
        · have hD0 : D ≠ [] := by intro e; rw [e] at hd; exact hd rfl
          have HR : Hid (numR true 3 D [] = (Rf.numSign v, k, true)) := by show _ = _; unfold numR; rw [if_neg hD0, HV'.out, HK.out]; rfl
          have hde : ¬ (k : Int) = 3 := by have := HK.out; omega
          have hde2 : ((k : Int) == 3) = false := beq_eq_false_iff_ne.2 hde
          have hN := fun W => RNumber11_any v W hv0 hv1
          clear hD0 hd
          go_wp2_with (go_at_call 139; refine (hN _).mono ?_; rintro e w1 ⟨rfl, hb1⟩)
          go_ret3
          rw [HR.out]
          exact ⟨by simp [nxV], hb1⟩
      | cons c q =>
        have hki : (k : Int) < (s.length : Int) := by have := HK.out; have hsl := HSL.out; simp at hsl; omega
        have hks : k < (str s).size := by omega
        have he : (str s)[k] = c := by
          show s[k]'(by omega) = _
          have hk := HK.out
          have := end_at pre D c q (by rw [← HS.out, hpl]; omega)
          simp only [hpl] at this
          simp only [HS.out, hk]
          exact this
        have hno := HR0.out c (by simp)
        have hn := nib_no' true c hno
        have hNb := RNibble_any c
        have hnb : 16 ≤ nibV (c.toNat : Int) ∧ nibV (c.toNat : Int) ≤ 16 := hn
        clear hn hno
        generalize nibV (c.toNat : Int) = d at *
        obtain ⟨hnb0, hnb1⟩ := hnb
        by_cases hd : D.length = 0
        · have hD0 : D = [] := List.eq_nil_of_length_eq_zero hd
          have HR : Hid (numR true 3 D (c :: q) = (0, 0, false)) := by show _ = _; unfold numR; rw [if_pos hD0]
          have hde : ((k : Int) == 3) = true := by have := HK.out; rw [beq_iff_eq]; omega
          clear hD0 hd
          go_wp2_with (go_at_call 138; refine (hNb _).mono ?_; rintro e w1 ⟨rfl, hw⟩; rw [hw]; clear hw)
          go_ret3
          rw [HR.out]
          exact ⟨rfl, Below.refl _ _⟩
        · have hD0 : D ≠ [] := by intro e; rw [e] at hd; exact hd rfl
          have hde : ¬ (k : Int) = 3 := by have := HK.out; omega
          have hde2 : ((k : Int) == 3) = false := beq_eq_false_iff_ne.2 hde
          have hN := fun W => RNumber11_any v W hv0 hv1
          by_cases hc : c = 59
          · have HR : Hid (numR true 3 D (c :: q) = (Rf.numSign v, k + 1, true)) := by show _ = _; unfold numR; rw [if_neg hD0, HV'.out, hc, HK.out]; rfl
            have hq : ((c.toNat : Int) == 59) = true := by rw [hc]; rfl
            clear hD0 hc
            go_wp2_with (first
              | (go_at_call 138; refine (hNb _).mono ?_; rintro e w1 ⟨rfl, hw⟩; rw [hw]; clear hw)
              | (go_at_call 139; refine (hN _).mono ?_; rintro e w1 ⟨rfl, hb1⟩))
            go_ret3
            rw [HR.out]
            exact ⟨by simp [nxV], hb1⟩
          · have HR : Hid (numR true 3 D (c :: q) = (Rf.numSign v, k, true)) := by
              show _ = _
              unfold numR
              rw [if_neg hD0, HV'.out]
              have : Rf.semi (c :: q) = 0 := by
                unfold Rf.semi
                rw [if_neg]
                simp [List.isPrefixOf]
                exact fun e => hc e.symm
              rw [this, HK.out]
              rfl
            have hq : ¬ (c.toNat : Int) = 59 := byte_ne' (k := 59) (by omega) hc
            have hq2 : ((c.toNat : Int) == 59) = false := beq_eq_false_iff_ne.2 hq
            clear hD0 hc
            go_wp2_with (first
              | (go_at_call 138; refine (hNb _).mono ?_; rintro e w1 ⟨rfl, hw⟩; rw [hw]; clear hw)
              | (go_at_call 139; refine (hN _).mono ?_; rintro e w1 ⟨rfl, hb1⟩))
            go_ret3
            rw [HR.out]
            exact ⟨by simp [nxV], hb1⟩
end Go.Proofs.YtiodaahncadodaaGreatDoor
/- The reference's number at a text that begins with &#, and starts at any texts. -/
namespace Rf
open Asc
theorem nx_hash (a : Bool) (r : List UInt8) : nx a (38 :: 35 :: r) = if digs (35 :: r) = [] then (0, 0, false) else (numSign (foldCap (baseOf (isHx (35 :: r))) 0 (digs (35 :: r))), 1 + fr (isHx (35 :: r)) + (digs (35 :: r)).length + semi ((35 :: r).drop (fr (isHx (35 :: r)) + (digs (35 :: r)).length)), true) := by
  rw [nx_amp]
  obtain ⟨h1, h2, h3⟩ := hash_none a r
  have hi : isNo (35 :: r) = !(digs (35 :: r)).isEmpty := by
    unfold isNo
    simp [List.isPrefixOf]
  by_cases hd : digs (35 :: r) = []
  · have : numSz (35 :: r) = 0 := by unfold numSz; rw [hi, hd]; rfl
    unfold next
    rw [this, h1, h3, hd]
    rfl
  · have hi' : isNo (35 :: r) = true := by
      rw [hi]
      cases h : digs (35 :: r) with
      | nil => exact absurd h hd
      | cons c q => rfl
    have hv := val_fold (35 :: r) hd
    have hf : 1 ≤ fr (isHx (35 :: r)) := by unfold fr; split <;> omega
    have e1 : numSz (35 :: r) = fr (isHx (35 :: r)) + (digs (35 :: r)).length + semi ((35 :: r).drop (fr (isHx (35 :: r)) + (digs (35 :: r)).length)) := by unfold numSz; rw [hi']; rfl
    have e2 : numSg (35 :: r) = numSign (foldCap (baseOf (isHx (35 :: r))) 0 (digs (35 :: r))) := by
      unfold numSg
      rw [hi', ← hv]
      rfl
    have hz : ¬ numSz (35 :: r) = 0 := by rw [e1]; omega
    have e3 : next a (35 :: r) = (numSg (35 :: r), numSz (35 :: r)) := by unfold next; rw [if_pos hz]
    rw [e3, if_neg hd]
    show (if numSz (35 :: r) = 0 then _ else (numSg (35 :: r), numSz (35 :: r) + 1, true)) = _
    rw [if_neg hz, e1, e2]
    congr 2
    omega
theorem dropWhile_head (p : UInt8 → Bool) : ∀ (l : List UInt8) (c : UInt8), c ∈ (l.drop (l.takeWhile p).length).head? → p c = false
  | [], c, h => by simp at h
  | x :: l, c, h => by
    rw [List.takeWhile_cons] at h
    cases hx : p x
    · rw [hx] at h
      simp at h
      subst h
      exact hx
    · rw [hx] at h
      simp at h
      exact dropWhile_head p l c (by simpa using h)
end Rf
namespace Go.Proofs.YtiodaahncadodaaGreatDoor
open Go.RowKit
set_option maxHeartbeats 1000000 in
set_option maxRecDepth 100000 in
theorem Rnumber_two (w : World) :
    Calls Tryz.prog 111 #[.string (str [38, 35])] w fun e w' => e = .returned (nxV (0, 0, false)) ∧ Below w.heap.size w w' := by
  have hsz : (str [38, 35]).size = 2 := rfl
  go_enter Tryz.func111, Tryz.ntmps111
  go_wp2
  go_loop [6, 7] (fun i n => i = .int .i64 2 ∧ n = .int .u64 0) (fun i _ => 0)
  case atStart => exact ⟨rfl, rfl⟩
  case round =>
    obtain ⟨rfl, rfl⟩ := hrel
    go_wp2
    go_ret3
    exact ⟨rfl, Below.refl _ _⟩
theorem Rnumber_any (a : Bool) (r : List UInt8) (w : World) (hz : r.length ≤ 100000000) :
    Calls Tryz.prog 111 #[.string (str (38 :: 35 :: r))] w fun e w' => e = .returned (nxV (Rf.nx a (38 :: 35 :: r))) ∧ Below w.heap.size w w' := by
  rw [Rf.nx_hash]
  cases r with
  | nil =>
    rw [if_pos (by decide +kernel)]
    exact Rnumber_two w
  | cons c q =>
    have h2 : 2 < (str (38 :: 35 :: c :: q)).size := by rw [str_size]; simp
    have hat : ((str (38 :: 35 :: c :: q))[2]) = c := rfl
    have hl : (38 :: 35 :: c :: q).length ≤ 1000000000 := by simp at hz ⊢; omega
    have key : ∀ (b : Bool) (pre : List UInt8), Rf.isHx (35 :: c :: q) = b → 38 :: 35 :: c :: q = pre ++ ((35 :: c :: q).drop (Rf.fr b)) → pre.length = 1 + Rf.fr b →
        38 :: 35 :: c :: q = pre ++ (Rf.digs (35 :: c :: q) ++ (35 :: c :: q).drop (Rf.fr b + (Rf.digs (35 :: c :: q)).length)) ∧ (Rf.digs (35 :: c :: q)).all (Rf.dOk b) = true ∧ (∀ x ∈ ((35 :: c :: q).drop (Rf.fr b + (Rf.digs (35 :: c :: q)).length)).head?, Rf.dOk b x = false) := by
      intro b pre hb he hp
      have hd : Rf.digs (35 :: c :: q) = ((35 :: c :: q).drop (Rf.fr b)).takeWhile (Rf.dOk b) := by unfold Rf.digs; rw [hb]
      rw [hd, ← List.drop_drop]
      refine ⟨?_, Rf.all_takeWhile _ _, Rf.dropWhile_head _ _⟩
      rw [← Rf.takeWhile_form]
      exact he
    by_cases h120 : c = 120
    · have hb : Rf.isHx (35 :: c :: q) = true := by rw [h120]; simp [Rf.isHx, List.isPrefixOf]
      obtain ⟨k1, k2, k3⟩ := key true [38, 35, c] hb rfl rfl
      have := Rnumber_x _ [38, 35, c] _ _ k1 rfl k2 k3 hl w h2 (by rw [hat, h120]; rfl)
      unfold numR at this
      rw [hb]
      exact this
    · have q1 : ¬ ((str (38 :: 35 :: c :: q))[2].toNat : Int) = 120 := by rw [hat]; exact byte_ne' (k := 120) (by omega) h120
      by_cases h88 : c = 88
      · have hb : Rf.isHx (35 :: c :: q) = true := by rw [h88]; simp [Rf.isHx, List.isPrefixOf]
        obtain ⟨k1, k2, k3⟩ := key true [38, 35, c] hb rfl rfl
        have := Rnumber_X _ [38, 35, c] _ _ k1 rfl k2 k3 hl w h2 q1 (by rw [hat, h88]; rfl)
        unfold numR at this
        rw [hb]
        exact this
      · have hb : Rf.isHx (35 :: c :: q) = false := by
          have e1 : ((120 : UInt8) == c) = false := beq_eq_false_iff_ne.2 (fun e => h120 e.symm)
          have e2 : ((88 : UInt8) == c) = false := beq_eq_false_iff_ne.2 (fun e => h88 e.symm)
          simp [Rf.isHx, List.isPrefixOf, e1, e2]
        obtain ⟨k1, k2, k3⟩ := key false [38, 35] hb rfl rfl
        have := Rnumber_d _ [38, 35] _ _ k1 rfl k2 k3 hl w h2 q1 (by rw [hat]; exact byte_ne' (k := 88) (by omega) h88)
        unfold numR at this
        rw [hb]
        exact this
theorem starts_b (s p : ByteArray) (w : World) :
    Calls Tryz.prog 110 #[.string s, .string p] w fun e w' => e = .returned (.bool (p.data.toList.isPrefixOf s.data.toList)) ∧ w' = w := by
  have := starts_any s.data.toList p.data.toList w
  rw [str_self, str_self] at this
  exact this
end Go.Proofs.YtiodaahncadodaaGreatDoor
