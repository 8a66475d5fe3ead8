/- Texts laid as one. -/
import Derived.Test.YtnmkhbelmdokmaaGreatDoorKRefB
import Derived.Test.YtnmkhbelmdokmaaGreatDoorKUrlB
/- The contract of the reference's Scheme. -/
namespace Go.Proofs.YtnmkhbelmdokmaaGreatDoor
open Go.RowKit
theorem take_step (p : UInt8 → Bool) : ∀ (r : List UInt8) (j : Nat) (hj : j < r.length), j ≤ (r.takeWhile p).length → ((p r[j] = true → j + 1 ≤ (r.takeWhile p).length) ∧ (p r[j] = false → (r.takeWhile p).length = j)) := by
  intro r
  induction r with
  | nil => intro j hj; cases hj
  | cons x t ih =>
    intro j hj h
    cases hx : p x
    · rw [List.takeWhile_cons_of_neg (by rw [hx]; decide)] at h ⊢
      have : j = 0 := Nat.le_zero.1 h
      subst this
      refine ⟨fun h => ?_, fun _ => rfl⟩
      rw [List.getElem_cons_zero, hx] at h
      cases h
    · rw [List.takeWhile_cons_of_pos hx] at h ⊢
      cases j with
      | zero =>
        refine ⟨fun _ => by simp, fun h => ?_⟩
        rw [List.getElem_cons_zero, hx] at h
        cases h
      | succ i =>
        have := ih i (by simpa using hj) (by simpa using h)
        rw [List.getElem_cons_succ]
        exact ⟨fun h => by have := this.1 h; simpa using this, fun h => by have := this.2 h; simpa using this⟩
theorem scN_step (l : List UInt8) (k : Nat) (hk : k < l.length) (h : k ≤ Url.scN l) (h0 : k ≠ 0) : (Url.schB l[k] = true → k + 1 ≤ Url.scN l) ∧ (Url.schB l[k] = false → Url.scN l = k) := by
  cases l with
  | nil => cases hk
  | cons a r =>
    cases k with
    | zero => exact absurd rfl h0
    | succ j =>
      unfold Url.scN at h ⊢
      simp only at h ⊢
      by_cases ha : Url.isLet a = true
      · rw [if_pos ha] at h ⊢
        have := take_step Url.schB r j (by simpa using hk) (by omega)
        rw [List.getElem_cons_succ]
        exact ⟨fun h => by have := this.1 h; omega, fun h => by have := this.2 h; omega⟩
      · rw [if_neg ha] at h
        omega
theorem scN_first (l : List UInt8) (hk : 0 < l.length) : (Url.isLet l[0] = true → 1 ≤ Url.scN l) ∧ (Url.isLet l[0] = false → Url.scN l = 0) := by
  cases l with
  | nil => cases hk
  | cons a r =>
    unfold Url.scN
    simp only [List.getElem_cons_zero]
    exact ⟨fun h => by rw [if_pos h]; omega, fun h => by rw [h]; rfl⟩
theorem Rin_sch (c : UInt8) (w : World) :
    Calls Tryz.prog 70 #[.int .u8 c.toNat, .string ⟨#[43, 45, 46]⟩] w fun e w' => e = .returned (.bool (([43, 45, 46] : List UInt8).contains c)) ∧ w' = w := Rin_any c [43, 45, 46] w (by decide)
set_option maxHeartbeats 2000000 in
theorem RScheme_any (l : List UInt8) (w : World) (hz : l.length ≤ 1000000000) :
    Calls Tryz.prog 36 #[.string (str l)] w fun e w' => e = .returned (.int .i64 (Url.schemeN l : Nat)) ∧ w' = w := by
  have hsz := str_size l
  have hle := Url.scN_le l
  have HS : Hid (Url.schemeN l = if Url.scN l = 0 ∨ Url.scN l = l.length ∨ l.getD (Url.scN l) 0 ≠ 58 then 0 else Url.scN l + 1) := rfl
  go_enter Tryz.func36, Tryz.ntmps36
  go_wp2
  go_loopw [3] (fun i wr => ∃ k : Nat, k ≤ l.length ∧ i = .int .i64 k ∧ Hid (k ≤ Url.scN l) ∧ wr = w) (fun i _ => l.length - (intOf i).toNat)
  case atStart => exact ⟨0, Nat.zero_le _, rfl, Nat.zero_le _, rfl⟩
  case round =>
    obtain ⟨k, hk, rfl, HA, rfl⟩ := hrel
    by_cases hlt : k < l.length
    · have hat : ∀ h : k < (str l).size, (str l)[k]'h = l[k] := fun _ => rfl
      have HG : Hid (l.getD k 0 = l[k]) := by
        show _ = _
        rw [List.getD_eq_getElem?_getD, List.getElem?_eq_getElem hlt]
        rfl
      have HF : Hid (k = 0 → (Url.isLet l[k] = true → k + 1 ≤ Url.scN l) ∧ (Url.isLet l[k] = false → Url.scN l = k)) := by
        rintro rfl
        exact scN_first l hlt
      have HT : Hid (k ≠ 0 → (Url.schB l[k] = true → k + 1 ≤ Url.scN l) ∧ (Url.schB l[k] = false → Url.scN l = k)) := scN_step l k hlt HA.out
      obtain ⟨c, hcc⟩ : ∃ c, l[k] = c := ⟨_, rfl⟩
      rw [hcc] at HF HT HG
      have hat2 : ∀ h : k < (str l).size, (str l)[k]'h = c := fun h => (hat h).trans hcc
      clear hat hcc
      have HB : Hid (Url.schB c = (Url.isLet c || (Url.isDig c || ([43, 45, 46] : List UInt8).contains c))) := Url.schB_parts c
      cases hl : Url.isLet c
      · by_cases h0 : k = 0
        · have HN : Hid (Url.schemeN l = 0) := by
            show _ = _
            rw [HS.out, (HF.out h0).2 hl, if_pos (.inl h0)]
          have h1 : ((k : Int) == 0) = true := by rw [beq_iff_eq]; omega
          have h2 : ¬ (0 : Int) < (k : Int) := by omega
          clear h0
          go_wp2_with (go_at_call 68; refine (RIsLetter_b c _).mono ?_; rintro e w1 ⟨rfl, hw1⟩; rw [hw1, hl]; clear hw1)
          go_ret
          exact ⟨by rw [HN.out]; rfl, rfl⟩
        · have h1 : ((k : Int) == 0) = false := by rw [beq_eq_false_iff_ne]; omega
          have h2 : (0 : Int) < (k : Int) := by omega
          cases hd : Url.isDig c
          · cases hin : ([43, 45, 46] : List UInt8).contains c
            · have HK : Hid (Url.scN l = k) := (HT.out h0).2 (by rw [HB.out, hl, hd, hin]; rfl)
              have h3 : ((k : Int) == (l.length : Int)) = false := by rw [beq_eq_false_iff_ne]; omega
              cases hcl : ((c.toNat : Int) != 58)
              · have HN : Hid (Url.schemeN l = k + 1) := by
                  show _ = _
                  rw [HS.out, HK.out, HG.out, if_neg]
                  have : c = 58 := byte_is c 58 (by have := hcl; rw [bne_eq_false_iff_eq] at this; exact this)
                  rintro (h | h | h)
                  · exact h0 h
                  · omega
                  · exact h this
                clear h0
                go_wp2_with (first
                  | (go_at_call 68; refine (RIsLetter_b c _).mono ?_; rintro e w1 ⟨rfl, hw1⟩; rw [hw1, hl]; clear hw1)
                  | (go_at_call 69; refine (RIsDigit_b c _).mono ?_; rintro e w1 ⟨rfl, hw1⟩; rw [hw1, hd]; clear hw1)
                  | (go_at_call 70; refine (Rin_sch c _).mono ?_; rintro e w1 ⟨rfl, hw1⟩; rw [hw1, hin]; clear hw1))
                go_ret
                exact ⟨by rw [HN.out]; rfl, rfl⟩
              · have HN : Hid (Url.schemeN l = 0) := by
                  show _ = _
                  rw [HS.out, HK.out, HG.out, if_pos]
                  refine .inr (.inr ?_)
                  rintro rfl
                  cases hcl
                clear h0
                go_wp2_with (first
                  | (go_at_call 68; refine (RIsLetter_b c _).mono ?_; rintro e w1 ⟨rfl, hw1⟩; rw [hw1, hl]; clear hw1)
                  | (go_at_call 69; refine (RIsDigit_b c _).mono ?_; rintro e w1 ⟨rfl, hw1⟩; rw [hw1, hd]; clear hw1)
                  | (go_at_call 70; refine (Rin_sch c _).mono ?_; rintro e w1 ⟨rfl, hw1⟩; rw [hw1, hin]; clear hw1))
                go_ret
                exact ⟨by rw [HN.out]; rfl, rfl⟩
            · have HN : Hid (k + 1 ≤ Url.scN l) := (HT.out h0).1 (by rw [HB.out, hl, hd, hin]; rfl)
              clear h0
              go_wp2_with (first
                | (go_at_call 68; refine (RIsLetter_b c _).mono ?_; rintro e w1 ⟨rfl, hw1⟩; rw [hw1, hl]; clear hw1)
                | (go_at_call 69; refine (RIsDigit_b c _).mono ?_; rintro e w1 ⟨rfl, hw1⟩; rw [hw1, hd]; clear hw1)
                | (go_at_call 70; refine (Rin_sch c _).mono ?_; rintro e w1 ⟨rfl, hw1⟩; rw [hw1, hin]; clear hw1))
              go_roundw
              case rel => exact ⟨k + 1, by omega, by go_num, HN, by trivial⟩
              case measure => simp [intOf]; omega
          · have HN : Hid (k + 1 ≤ Url.scN l) := (HT.out h0).1 (by rw [HB.out, hl, hd]; rfl)
            clear h0
            go_wp2_with (first
              | (go_at_call 68; refine (RIsLetter_b c _).mono ?_; rintro e w1 ⟨rfl, hw1⟩; rw [hw1, hl]; clear hw1)
              | (go_at_call 69; refine (RIsDigit_b c _).mono ?_; rintro e w1 ⟨rfl, hw1⟩; rw [hw1, hd]; clear hw1))
            go_roundw
            case rel => exact ⟨k + 1, by omega, by go_num, HN, by trivial⟩
            case measure => simp [intOf]; omega
      · have HN : Hid (k + 1 ≤ Url.scN l) := by
          by_cases h0 : k = 0
          · exact (HF.out h0).1 hl
          · exact (HT.out h0).1 (by rw [HB.out, hl]; rfl)
        go_wp2_with (first
          | (go_at_call 68; refine (RIsLetter_b c _).mono ?_; rintro e w1 ⟨rfl, hw1⟩; rw [hw1, hl]; clear hw1))
        go_roundw
        case rel => exact ⟨k + 1, by omega, by go_num, HN, by trivial⟩
        case measure => simp [intOf]; omega
    · have HN : Hid (Url.schemeN l = 0) := by
        show _ = _
        have := HA.out
        rw [HS.out, if_pos (.inr (.inl (by omega)))]
      by_cases h0 : k = 0
      · have h1 : ((k : Int) == 0) = true := by rw [beq_iff_eq]; omega
        clear h0
        go_wp2
        go_ret
        exact ⟨by rw [HN.out]; rfl, rfl⟩
      · have h1 : ((k : Int) == 0) = false := by rw [beq_eq_false_iff_ne]; omega
        have h3 : ((k : Int) == (l.length : Int)) = true := by rw [beq_iff_eq]; omega
        clear h0
        go_wp2
        go_ret
        exact ⟨by rw [HN.out]; rfl, rfl⟩
end Go.Proofs.YtnmkhbelmdokmaaGreatDoor
/- The contract of the reference's String. -/
namespace Go.Proofs.YtnmkhbelmdokmaaGreatDoor
open Go.RowKit
set_option maxHeartbeats 4000000 in
set_option maxRecDepth 100000 in
theorem RString_any (u : Url.U) (w : World) (hu : Fits u) :
    Calls Tryz.prog 13 #[uVal u] w fun e w' => e = .returned (.string (str (Url.str u))) ∧ Below w.heap.size w w' := by
  obtain ⟨us, uh, up, upa, uq, uf, uhq, uhf⟩ := u
  obtain ⟨h1, h2, h3, h4, h5, h6, h7⟩ := hu
  simp only at h1 h2 h3 h4 h5 h6 h7
  have hU : UAt (w.alloc (.cells (uCells ⟨us, uh, up, upa, uq, uf, uhq, uhf⟩) 25)) w.heap.size ⟨us, uh, up, upa, uq, uf, uhq, uhf⟩ := heap_alloc_last _ _
  have hb0 : Below w.heap.size w (w.alloc (.cells (uCells ⟨us, uh, up, upa, uq, uf, uhq, uhf⟩) 25)) := (Below.refl _ w).alloc (Nat.le_refl _) _
  unfold uVal
  unfold uCells at hb0 hU ⊢
  simp only at hb0 hU ⊢
  have z1 : (str us).size ≤ 140737488351232 := by rw [str_size]; exact h1
  have z2 : (str uh).size ≤ 140737488351232 := by rw [str_size]; exact h2
  have z3 : (str upa).size ≤ 140737488351232 := by rw [str_size]; exact h3
  have z4 : (str uq).size ≤ 140737488351232 := by rw [str_size]; exact h4
  have z5 : (str uf).size ≤ 140737488351232 := by rw [str_size]; exact h5
  have z58 : (⟨#[58, 47, 47]⟩ : ByteArray).size = 3 := rfl
  obtain ⟨l1, hl1⟩ : ∃ l1, us ++ [58, 47, 47] = l1 := ⟨_, rfl⟩
  have hc1 : str us ++ (⟨#[58, 47, 47]⟩ : ByteArray) = str l1 := by rw [← hl1]; exact str_add us [58, 47, 47]
  have hs1 : (str l1).size ≤ 140737488351235 := by rw [← hc1, ByteArray.size_append, z58]; omega
  obtain ⟨l2, hl2⟩ : ∃ l2, l1 ++ uh = l2 := ⟨_, rfl⟩
  have hc2 : str l1 ++ str uh = str l2 := by rw [str_add, hl2]
  have hs2 : (str l2).size ≤ 281474976702467 := by rw [← hc2, ByteArray.size_append]; omega
  have HL2 : Hid (us ++ [58, 47, 47] ++ uh = l2) := by rw [hl1]; exact hl2
  clear hl1 hl2
  by_cases hport : up = 0
  · have hp0 : (up != 0) = false := by rw [hport]; rfl
    have HP : Hid ((if up ≠ 0 then 58 :: Lib.itoa up else []) = []) := if_neg (fun h => h hport)
    have HL3 : Hid (l2 ++ (if up ≠ 0 then 58 :: Lib.itoa up else []) = l2) := by rw [HP.out, List.append_nil]; rfl
    obtain ⟨l4, hl4⟩ : ∃ l4, l2 ++ upa = l4 := ⟨_, rfl⟩
    have hc4 : str l2 ++ str upa = str l4 := by rw [str_add, hl4]
    have hs4 : (str l4).size ≤ 422212465054000 := by rw [← hc4, ByteArray.size_append]; omega
    have HL4 : Hid (l2 ++ upa = l4) := hl4
    clear hl4
    clear hport
    cases uhq
    · have HQ : Hid ((if false = true then 63 :: uq else []) = []) := rfl
      have HL5 : Hid (l4 ++ [] = l4) := List.append_nil _
      cases uhf
      · have HL6 : Hid (Url.str ⟨us, uh, up, upa, uq, uf, false, false⟩ = l4) := by
          show us ++ [58, 47, 47] ++ uh ++ (if up ≠ 0 then 58 :: Lib.itoa up else []) ++ upa ++ [] ++ [] = l4
          rw [HL2.out, HL3.out, HL4.out, List.append_nil]
          exact HL5.out
        go_enter Tryz.func13, Tryz.ntmps13
        go_wp2
        go_ret
        exact ⟨by rw [HL6.out]; rfl, hb0⟩
      · have hc35 : (⟨#[35]⟩ : ByteArray) ++ str uf = str (35 :: uf) := str_add [35] _
        have hs35 : (str (35 :: uf)).size ≤ 140737488351233 := by rw [str_size, List.length_cons]; omega
        have hz35 : (⟨#[35]⟩ : ByteArray).size = 1 := rfl
        obtain ⟨l6, hl6⟩ : ∃ l6, l4 ++ 35 :: uf = l6 := ⟨_, rfl⟩
        have hc6 : str l4 ++ str (35 :: uf) = str l6 := by rw [str_add, hl6]
        have HL6 : Hid (Url.str ⟨us, uh, up, upa, uq, uf, false, true⟩ = l6) := by
          show us ++ [58, 47, 47] ++ uh ++ (if up ≠ 0 then 58 :: Lib.itoa up else []) ++ upa ++ [] ++ (35 :: uf) = l6
          rw [HL2.out, HL3.out, HL4.out, HL5.out]
          exact hl6
        clear hl6
        go_enter Tryz.func13, Tryz.ntmps13
        go_wp2
        go_ret
        exact ⟨by rw [HL6.out]; rfl, hb0⟩
    · have HQ : Hid ((if true = true then 63 :: uq else []) = 63 :: uq) := rfl
      have hc63 : (⟨#[63]⟩ : ByteArray) ++ str uq = str (63 :: uq) := str_add [63] _
      have hs63 : (str (63 :: uq)).size ≤ 140737488351233 := by rw [str_size, List.length_cons]; omega
      have hz63 : (⟨#[63]⟩ : ByteArray).size = 1 := rfl
      obtain ⟨l5, hl5⟩ : ∃ l5, l4 ++ 63 :: uq = l5 := ⟨_, rfl⟩
      have hc5 : str l4 ++ str (63 :: uq) = str l5 := by rw [str_add, hl5]
      have hs5 : (str l5).size ≤ 562949953406000 := by rw [← hc5, ByteArray.size_append]; omega
      have HL5 : Hid (l4 ++ 63 :: uq = l5) := hl5
      clear hl5
      cases uhf
      · have HL6 : Hid (Url.str ⟨us, uh, up, upa, uq, uf, true, false⟩ = l5) := by
          show us ++ [58, 47, 47] ++ uh ++ (if up ≠ 0 then 58 :: Lib.itoa up else []) ++ upa ++ (63 :: uq) ++ [] = l5
          rw [HL2.out, HL3.out, HL4.out, List.append_nil]
          exact HL5.out
        go_enter Tryz.func13, Tryz.ntmps13
        go_wp2
        go_ret
        exact ⟨by rw [HL6.out]; rfl, hb0⟩
      · have hc35 : (⟨#[35]⟩ : ByteArray) ++ str uf = str (35 :: uf) := str_add [35] _
        have hs35 : (str (35 :: uf)).size ≤ 140737488351233 := by rw [str_size, List.length_cons]; omega
        have hz35 : (⟨#[35]⟩ : ByteArray).size = 1 := rfl
        obtain ⟨l6, hl6⟩ : ∃ l6, l5 ++ 35 :: uf = l6 := ⟨_, rfl⟩
        have hc6 : str l5 ++ str (35 :: uf) = str l6 := by rw [str_add, hl6]
        have HL6 : Hid (Url.str ⟨us, uh, up, upa, uq, uf, true, true⟩ = l6) := by
          show us ++ [58, 47, 47] ++ uh ++ (if up ≠ 0 then 58 :: Lib.itoa up else []) ++ upa ++ (63 :: uq) ++ (35 :: uf) = l6
          rw [HL2.out, HL3.out, HL4.out, HL5.out]
          exact hl6
        clear hl6
        go_enter Tryz.func13, Tryz.ntmps13
        go_wp2
        go_ret
        exact ⟨by rw [HL6.out]; rfl, hb0⟩
  · have hp0 : (up != 0) = true := by rw [bne_iff_ne]; exact hport
    have HP : Hid ((if up ≠ 0 then 58 :: Lib.itoa up else []) = 58 :: Lib.itoa up) := if_pos hport
    have hil := itoa_len up h6 h7
    have hsi : (str (Lib.itoa up)).size ≤ 100 := by rw [str_size]; exact hil
    have hc58 : (⟨#[58]⟩ : ByteArray) ++ str (Lib.itoa up) = str (58 :: Lib.itoa up) := str_add [58] _
    have hs58 : (str (58 :: Lib.itoa up)).size ≤ 101 := by rw [str_size, List.length_cons]; omega
    have hz58 : (⟨#[58]⟩ : ByteArray).size = 1 := rfl
    obtain ⟨l3, hl3⟩ : ∃ l3, l2 ++ 58 :: Lib.itoa up = l3 := ⟨_, rfl⟩
    have hc3 : str l2 ++ str (58 :: Lib.itoa up) = str l3 := by rw [str_add, hl3]
    have hs3 : (str l3).size ≤ 281474976702700 := by rw [← hc3, ByteArray.size_append]; omega
    have HL3 : Hid (l2 ++ (if up ≠ 0 then 58 :: Lib.itoa up else []) = l3) := by rw [HP.out]; exact hl3
    clear hl3
    obtain ⟨l4, hl4⟩ : ∃ l4, l3 ++ upa = l4 := ⟨_, rfl⟩
    have hc4 : str l3 ++ str upa = str l4 := by rw [str_add, hl4]
    have hs4 : (str l4).size ≤ 422212465054000 := by rw [← hc4, ByteArray.size_append]; omega
    have HL4 : Hid (l3 ++ upa = l4) := hl4
    clear hl4
    clear hport
    cases uhq
    · have HQ : Hid ((if false = true then 63 :: uq else []) = []) := rfl
      have HL5 : Hid (l4 ++ [] = l4) := List.append_nil _
      cases uhf
      · have HL6 : Hid (Url.str ⟨us, uh, up, upa, uq, uf, false, false⟩ = l4) := by
          show us ++ [58, 47, 47] ++ uh ++ (if up ≠ 0 then 58 :: Lib.itoa up else []) ++ upa ++ [] ++ [] = l4
          rw [HL2.out, HL3.out, HL4.out, List.append_nil]
          exact HL5.out
        go_enter Tryz.func13, Tryz.ntmps13
        go_wp2_with (go_at_call 42; refine (RText_str up _ h6 h7).mono ?_; rintro e w2 ⟨rfl, hb2⟩; have hb3 := bel hb0 hb2; have hU2 := UAt.below hU hb2; have d0 := hU2.cell 0; have d1 := hU2.cell 1; have d2 := hU2.cell 2; have d3 := hU2.cell 3; have d4 := hU2.cell 4; have d5 := hU2.cell 5; have d6 := hU2.cell 6; have d7 := hU2.cell 7; simp only [uCells] at d0 d1 d2 d3 d4 d5 d6 d7)
        go_ret
        exact ⟨by rw [HL6.out]; rfl, hb3⟩
      · have hc35 : (⟨#[35]⟩ : ByteArray) ++ str uf = str (35 :: uf) := str_add [35] _
        have hs35 : (str (35 :: uf)).size ≤ 140737488351233 := by rw [str_size, List.length_cons]; omega
        have hz35 : (⟨#[35]⟩ : ByteArray).size = 1 := rfl
        obtain ⟨l6, hl6⟩ : ∃ l6, l4 ++ 35 :: uf = l6 := ⟨_, rfl⟩
        have hc6 : str l4 ++ str (35 :: uf) = str l6 := by rw [str_add, hl6]
        have HL6 : Hid (Url.str ⟨us, uh, up, upa, uq, uf, false, true⟩ = l6) := by
          show us ++ [58, 47, 47] ++ uh ++ (if up ≠ 0 then 58 :: Lib.itoa up else []) ++ upa ++ [] ++ (35 :: uf) = l6
          rw [HL2.out, HL3.out, HL4.out, HL5.out]
          exact hl6
        clear hl6
        go_enter Tryz.func13, Tryz.ntmps13
        go_wp2_with (go_at_call 42; refine (RText_str up _ h6 h7).mono ?_; rintro e w2 ⟨rfl, hb2⟩; have hb3 := bel hb0 hb2; have hU2 := UAt.below hU hb2; have d0 := hU2.cell 0; have d1 := hU2.cell 1; have d2 := hU2.cell 2; have d3 := hU2.cell 3; have d4 := hU2.cell 4; have d5 := hU2.cell 5; have d6 := hU2.cell 6; have d7 := hU2.cell 7; simp only [uCells] at d0 d1 d2 d3 d4 d5 d6 d7)
        go_ret
        exact ⟨by rw [HL6.out]; rfl, hb3⟩
    · have HQ : Hid ((if true = true then 63 :: uq else []) = 63 :: uq) := rfl
      have hc63 : (⟨#[63]⟩ : ByteArray) ++ str uq = str (63 :: uq) := str_add [63] _
      have hs63 : (str (63 :: uq)).size ≤ 140737488351233 := by rw [str_size, List.length_cons]; omega
      have hz63 : (⟨#[63]⟩ : ByteArray).size = 1 := rfl
      obtain ⟨l5, hl5⟩ : ∃ l5, l4 ++ 63 :: uq = l5 := ⟨_, rfl⟩
      have hc5 : str l4 ++ str (63 :: uq) = str l5 := by rw [str_add, hl5]
      have hs5 : (str l5).size ≤ 562949953406000 := by rw [← hc5, ByteArray.size_append]; omega
      have HL5 : Hid (l4 ++ 63 :: uq = l5) := hl5
      clear hl5
      cases uhf
      · have HL6 : Hid (Url.str ⟨us, uh, up, upa, uq, uf, true, false⟩ = l5) := by
          show us ++ [58, 47, 47] ++ uh ++ (if up ≠ 0 then 58 :: Lib.itoa up else []) ++ upa ++ (63 :: uq) ++ [] = l5
          rw [HL2.out, HL3.out, HL4.out, List.append_nil]
          exact HL5.out
        go_enter Tryz.func13, Tryz.ntmps13
        go_wp2_with (go_at_call 42; refine (RText_str up _ h6 h7).mono ?_; rintro e w2 ⟨rfl, hb2⟩; have hb3 := bel hb0 hb2; have hU2 := UAt.below hU hb2; have d0 := hU2.cell 0; have d1 := hU2.cell 1; have d2 := hU2.cell 2; have d3 := hU2.cell 3; have d4 := hU2.cell 4; have d5 := hU2.cell 5; have d6 := hU2.cell 6; have d7 := hU2.cell 7; simp only [uCells] at d0 d1 d2 d3 d4 d5 d6 d7)
        go_ret
        exact ⟨by rw [HL6.out]; rfl, hb3⟩
      · have hc35 : (⟨#[35]⟩ : ByteArray) ++ str uf = str (35 :: uf) := str_add [35] _
        have hs35 : (str (35 :: uf)).size ≤ 140737488351233 := by rw [str_size, List.length_cons]; omega
        have hz35 : (⟨#[35]⟩ : ByteArray).size = 1 := rfl
        obtain ⟨l6, hl6⟩ : ∃ l6, l5 ++ 35 :: uf = l6 := ⟨_, rfl⟩
        have hc6 : str l5 ++ str (35 :: uf) = str l6 := by rw [str_add, hl6]
        have HL6 : Hid (Url.str ⟨us, uh, up, upa, uq, uf, true, true⟩ = l6) := by
          show us ++ [58, 47, 47] ++ uh ++ (if up ≠ 0 then 58 :: Lib.itoa up else []) ++ upa ++ (63 :: uq) ++ (35 :: uf) = l6
          rw [HL2.out, HL3.out, HL4.out, HL5.out]
          exact hl6
        clear hl6
        go_enter Tryz.func13, Tryz.ntmps13
        go_wp2_with (go_at_call 42; refine (RText_str up _ h6 h7).mono ?_; rintro e w2 ⟨rfl, hb2⟩; have hb3 := bel hb0 hb2; have hU2 := UAt.below hU hb2; have d0 := hU2.cell 0; have d1 := hU2.cell 1; have d2 := hU2.cell 2; have d3 := hU2.cell 3; have d4 := hU2.cell 4; have d5 := hU2.cell 5; have d6 := hU2.cell 6; have d7 := hU2.cell 7; simp only [uCells] at d0 d1 d2 d3 d4 d5 d6 d7)
        go_ret
        exact ⟨by rw [HL6.out]; rfl, hb3⟩
end Go.Proofs.YtnmkhbelmdokmaaGreatDoor
/- The contract of the reference's Tail. -/
namespace Go.Proofs.YtnmkhbelmdokmaaGreatDoor
open Go.RowKit
theorem loadAt_U {w : World} {b : Nat} {u : Url.U} (h : UAt w b u) : (Instr.loadAt 25 (.pointer (some ⟨b, 0, none⟩))).run Tryz.prog w = .ok (uVal u) w := by
  simp only [Instr.loadAt, Instr.sureAddr, Sem.run_bind, Sem.run_pure, Result.andThen]
  exact load_U h
theorem wpList_load_U {ops : Array Oper} {rest : List Oper} {o : Oper} {a : Act} {w : World} {Q : Exit → Act → World → Prop} (x : Operand) (ho : o.op = .load 25 x) (hg : o.guard = none) (b : Nat) (u : Url.U) (hx : a.eval x = .pointer (some ⟨b, 0, none⟩)) (h : UAt w b u)
    (hn : wpList Tryz.prog ops Q rest (a.put o.dst (uVal u)) w) : wpList Tryz.prog ops Q (o :: rest) a w := by
  refine wpList_plain hg fun K hK => ?_
  unfold Oper.wp
  have e : (execOp a.eval o).run Tryz.prog w = .ok (.value (uVal u)) w := by
    unfold execOp
    rw [ho]
    simp only [hx, Sem.run_bind, loadAt_U h, Result.andThen, Sem.run_pure]
  rw [e, Oper.upon_value]
  exact hK _ _ hn
theorem UAt.host {w : World} {b : Nat} {u : Url.U} (h : UAt w b u) (s : List UInt8) : UAt (w.setCell ⟨b, 1, none⟩ (.string (str s))) b { u with host := s } := Go.Joins.block_setCell h _
theorem UAt.port {w : World} {b : Nat} {u : Url.U} (h : UAt w b u) (n : Int) : UAt (w.setCell ⟨b, 2, none⟩ (.int .i64 n)) b { u with port := n } := Go.Joins.block_setCell h _
theorem UAt.path {w : World} {b : Nat} {u : Url.U} (h : UAt w b u) (s : List UInt8) : UAt (w.setCell ⟨b, 3, none⟩ (.string (str s))) b { u with path := s } := Go.Joins.block_setCell h _
theorem UAt.query {w : World} {b : Nat} {u : Url.U} (h : UAt w b u) (s : List UInt8) : UAt (w.setCell ⟨b, 4, none⟩ (.string (str s))) b { u with query := s } := Go.Joins.block_setCell h _
theorem UAt.frag {w : World} {b : Nat} {u : Url.U} (h : UAt w b u) (s : List UInt8) : UAt (w.setCell ⟨b, 5, none⟩ (.string (str s))) b { u with frag := s } := Go.Joins.block_setCell h _
theorem UAt.hq {w : World} {b : Nat} {u : Url.U} (h : UAt w b u) (x : Bool) : UAt (w.setCell ⟨b, 6, none⟩ (.bool x)) b { u with hq := x } := Go.Joins.block_setCell h _
theorem UAt.hf {w : World} {b : Nat} {u : Url.U} (h : UAt w b u) (x : Bool) : UAt (w.setCell ⟨b, 7, none⟩ (.bool x)) b { u with hf := x } := Go.Joins.block_setCell h _
theorem UAt.frozen {w : World} {b : Nat} {u : Url.U} (h : UAt w b u) (i : Nat) : w.frozen? ⟨b, i, none⟩ = false := Lib.frozen_of_heap h i
theorem UAt.other {w : World} {b c i : Nat} {u : Url.U} (h : UAt w b u) (hne : b ≠ c) (v : Value) : UAt (w.setCell ⟨c, i, none⟩ v) b u := (heap_setCell_other w ⟨c, i, none⟩ b v hne).trans h
theorem UAt.lt {w : World} {b : Nat} {u : Url.U} (h : UAt w b u) : b < w.heap.size := (Array.getElem?_eq_some_iff.1 h).1
/-- A URL's block and the result's, behind it. -/
structure TU (b : Nat) (w W : World) (u : Url.U) : Prop where
  at_ : UAt W b u
  res : UAt W (b + 1) Url.zero
  bel : Below b w W
theorem TU.step {b : Nat} {w W W' : World} {u : Url.U} (h : TU b w W u) (hb : Below W.heap.size W W') : TU b w W' u := ⟨h.at_.below hb, h.res.below hb, h.bel.trans (belowP hb h.at_.lt)⟩
theorem TU.host {b : Nat} {w W : World} {u : Url.U} (h : TU b w W u) (s : List UInt8) : TU b w (W.setCell ⟨b, 1, none⟩ (.string (str s))) { u with host := s } := ⟨h.at_.host s, h.res.other (by omega) _, h.bel.setCell (p := ⟨b, 1, none⟩) (Nat.le_refl _) _⟩
theorem TU.port {b : Nat} {w W : World} {u : Url.U} (h : TU b w W u) (n : Int) : TU b w (W.setCell ⟨b, 2, none⟩ (.int .i64 n)) { u with port := n } := ⟨h.at_.port n, h.res.other (by omega) _, h.bel.setCell (p := ⟨b, 2, none⟩) (Nat.le_refl _) _⟩
theorem TU.path {b : Nat} {w W : World} {u : Url.U} (h : TU b w W u) (s : List UInt8) : TU b w (W.setCell ⟨b, 3, none⟩ (.string (str s))) { u with path := s } := ⟨h.at_.path s, h.res.other (by omega) _, h.bel.setCell (p := ⟨b, 3, none⟩) (Nat.le_refl _) _⟩
theorem TU.query {b : Nat} {w W : World} {u : Url.U} (h : TU b w W u) (s : List UInt8) : TU b w (W.setCell ⟨b, 4, none⟩ (.string (str s))) { u with query := s } := ⟨h.at_.query s, h.res.other (by omega) _, h.bel.setCell (p := ⟨b, 4, none⟩) (Nat.le_refl _) _⟩
theorem TU.frag {b : Nat} {w W : World} {u : Url.U} (h : TU b w W u) (s : List UInt8) : TU b w (W.setCell ⟨b, 5, none⟩ (.string (str s))) { u with frag := s } := ⟨h.at_.frag s, h.res.other (by omega) _, h.bel.setCell (p := ⟨b, 5, none⟩) (Nat.le_refl _) _⟩
theorem TU.hq {b : Nat} {w W : World} {u : Url.U} (h : TU b w W u) (x : Bool) : TU b w (W.setCell ⟨b, 6, none⟩ (.bool x)) { u with hq := x } := ⟨h.at_.hq x, h.res.other (by omega) _, h.bel.setCell (p := ⟨b, 6, none⟩) (Nat.le_refl _) _⟩
theorem TU.hf {b : Nat} {w W : World} {u : Url.U} (h : TU b w W u) (x : Bool) : TU b w (W.setCell ⟨b, 7, none⟩ (.bool x)) { u with hf := x } := ⟨h.at_.hf x, h.res.other (by omega) _, h.bel.setCell (p := ⟨b, 7, none⟩) (Nat.le_refl _) _⟩
theorem upto_take (e l : List UInt8) : l.take (Url.upto e l).length = Url.upto e l ∧ l.drop (Url.upto e l).length = Url.rest e l := by
  have hs := Url.upto_rest e l
  constructor
  · conv => lhs; arg 2; rw [← hs]
    simp
  · conv => lhs; arg 2; rw [← hs]
    simp
theorem Runtil63 (l : List UInt8) (hz : l.length ≤ 1000000000) (w : World) :
    Calls Tryz.prog 39 #[.string (str l), .string ⟨#[63, 35]⟩] w fun r w' => r = .returned (.int .i64 ((Url.upto [63, 35] l).length : Nat)) ∧ w' = w := Runtil_any l [63, 35] w hz (by decide)
theorem Runtil35 (l : List UInt8) (hz : l.length ≤ 1000000000) (w : World) :
    Calls Tryz.prog 39 #[.string (str l), .string ⟨#[35]⟩] w fun r w' => r = .returned (.int .i64 ((Url.upto [35] l).length : Nat)) ∧ w' = w := Runtil_any l [35] w hz (by decide)
set_option maxHeartbeats 2000000 in
set_option maxRecDepth 100000 in
theorem RTail_any (u : Url.U) (l : List UInt8) (w : World) (hz : l.length ≤ 10000000) :
    Calls Tryz.prog 41 #[uVal u, .string (str l)] w fun e w' => e = .returned (uVal (Url.tail u l)) ∧ Below w.heap.size w w' := by
  have hzu := (zero_of_info zeroURL).1
  have hT0 : TU w.heap.size w ((w.alloc (.cells (uCells (placeU u)) 25)).alloc (.cells (uCells Url.zero) 25)) (placeU u) :=
    ⟨UAt.below (heap_alloc_last _ _) ((Below.refl _ _).alloc (Nat.le_refl _) _), alloc_two _ _ _, ((Below.refl _ w).alloc (Nat.le_refl _) _).alloc (by simp) _⟩
  have hut := upto_take [63, 35] l
  have hul := Url.upto_len [63, 35] l
  have hrl := Url.rest_len [63, 35] l
  have hrh := Url.rest_head [63, 35] l
  have uc := Runtil63 l (by omega)
  have HT : Hid (Url.tail u l = { placeU u with path := Url.path (Url.upto [63, 35] l), query := if Url.hasB 63 (Url.rest [63, 35] l) = true then Pct.mark Url.freeQ (Url.upto [35] ((Url.rest [63, 35] l).drop 1)) else [], frag := if Url.hasB 35 (Url.behind l) = true then Pct.mark Url.freeF ((Url.behind l).drop 1) else [], hq := Url.hasB 63 (Url.rest [63, 35] l), hf := Url.hasB 35 (Url.behind l) }) := rfl
  have HB : Hid (Url.behind l = if Url.hasB 63 (Url.rest [63, 35] l) = true then Url.rest [35] ((Url.rest [63, 35] l).drop 1) else Url.rest [63, 35] l) := rfl
  generalize Url.rest [63, 35] l = r at hrl hut hrh HT HB
  generalize Url.upto [63, 35] l = a at hul uc hut HT
  generalize Url.behind l = bh at HT HB
  generalize Url.tail u l = v at HT ⊢
  obtain ⟨n, hn⟩ : ∃ n, a.length = n := ⟨_, rfl⟩
  rw [hn] at hut uc hul
  have x1 : (str l).extract 0 n = str a := by rw [str_to, hut.1]
  have x2 : (str l).extract n l.length = str r := by rw [str_from, hut.2]
  have hrn : r.length = l.length - n := by rw [← hut.2, List.length_drop]
  have hsz := str_size l
  clear hut
  unfold uVal at hzu
  unfold uVal
  unfold uCells at hzu hT0 ⊢
  cases r with
  | nil =>
    have hbh : bh = [] := HB.out
    subst hbh
    have he := empty_is (l := []) rfl
    clear HB hrh
    go_enter Tryz.func41, Tryz.ntmps41
    go_wp2_with (first
      | (go_at_call 39; refine (uc _).mono ?_; rintro e w1 ⟨rfl, hw1⟩; rw [hw1]; clear hw1 uc)
      | (go_at_call 73; refine (RPath_any a _ (by omega)).mono ?_; rintro e w2 ⟨rfl, hb2⟩; have hT2 := hT0.step hb2; have c2 : w2.cell? ⟨w.heap.size, 3, none⟩ = some (.string (str (placeU u).path)) := hT2.at_.cell 3; have f2 := hT2.at_.frozen 3; have hT3 := hT2.path (Url.path a))
      | (refine wpList_load_U _ rfl rfl w.heap.size _ rfl hT3.at_ ?_)
      | (refine wpList_store_U _ _ rfl rfl (w.heap.size + 1) _ Url.zero rfl rfl hT3.res ?_))
    exact ret_U rfl rfl rfl (setRow_U hT3.res) ⟨by rw [HT.out]; rfl, below_setRow hT3.bel (by omega) _⟩
  | cons c r =>
    have hc := hrh c rfl
    clear hrh
    have hsr : (str (c :: r)).size = r.length + 1 := str_size _
    have he := empty_isnt (l := c :: r) (by simp)
    rw [List.length_cons] at hrl
    clear hrn
    have hx1 : (str (c :: r)).extract 1 (r.length + 1) = str r := str_from (c :: r) 1
    have hs1 : (1 : Int) ≤ ((r.length + 1 : Nat) : Int) := by omega
    by_cases h63 : c = 63
    · subst h63
      have hh : Url.hasB 63 (63 :: r) = true := rfl
      rw [hh] at HT HB
      clear hh
      have hbh : bh = Url.rest [35] r := HB.out
      clear HB hc
      have hat : ∀ h : 0 < (str (63 :: r)).size, (str (63 :: r))[0]'h = 63 := fun _ => rfl
      have hq1 := Url.upto_len [35] r
      have hq2 := Url.rest_len [35] r
      have hqt := upto_take [35] r
      have hqh := Url.rest_head [35] r
      replace HT : Hid (v = { placeU u with path := Url.path a, query := Pct.mark Url.freeQ (Url.upto [35] r), frag := if Url.hasB 35 bh = true then Pct.mark Url.freeF (bh.drop 1) else [], hq := true, hf := Url.hasB 35 bh }) := HT
      have uc2 : ∀ W : World, Calls Tryz.prog 39 #[.string (str (63 :: r)), .string ⟨#[35]⟩] W fun e w' => e = .returned (.int .i64 ((Url.upto [35] r).length + 1 : Nat)) ∧ w' = W := Runtil35 (63 :: r) (by simp; omega)
      rw [← hbh] at hq2 hqt hqh
      clear hbh
      generalize Url.upto [35] r = q at hq1 hqt uc2 HT
      obtain ⟨m, hm⟩ : ∃ m, q.length = m := ⟨_, rfl⟩
      rw [hm] at hqt uc2 hq1
      have y1 : (str (63 :: r)).extract 1 (m + 1) = str q := by
        rw [show str q = str ((r.take m)) by rw [hqt.1]]
        apply str_eq
        rw [data_cut, str_data]
        simp
      have y2 : (str (63 :: r)).extract (m + 1) (r.length + 1) = str bh := by
        have := str_from (63 :: r) (m + 1)
        rw [List.length_cons] at this
        rw [this, List.drop_succ_cons, hqt.2]
      have hbl : bh.length = r.length - m := by rw [← hqt.2, List.length_drop]
      clear hqt
      obtain ⟨k, hk⟩ : ∃ k, m + 1 = k := ⟨_, rfl⟩
      rw [hk] at y1 y2 uc2
      have hk1 : 1 ≤ k := by omega
      have hk2 : k ≤ r.length + 1 := by omega
      replace hbl : bh.length = r.length + 1 - k := by omega
      have hql : q.length ≤ r.length := by omega
      clear hk hm hq1 hbl
      cases bh with
      | nil =>
        have he2 := empty_is (l := []) rfl
        clear hqh
        replace HT : Hid (v = { placeU u with path := Url.path a, query := Pct.mark Url.freeQ q, frag := [], hq := true, hf := false }) := HT
        go_enter Tryz.func41, Tryz.ntmps41
        go_wp2_with (first
          | (go_at_call 39; refine (uc _).mono ?_; rintro e w1 ⟨rfl, hw1⟩; rw [hw1]; clear hw1 uc)
          | (go_at_call 73; refine (RPath_any a _ (by omega)).mono ?_; rintro e w2 ⟨rfl, hb2⟩; have hT2 := hT0.step hb2; have c2 : w2.cell? ⟨w.heap.size, 3, none⟩ = some (.string (str (placeU u).path)) := hT2.at_.cell 3; have f2 := hT2.at_.frozen 3; have hT3 := hT2.path (Url.path a))
          | (go_at_call 39; refine (uc2 _).mono ?_; rintro e w1 ⟨rfl, hw1⟩; rw [hw1]; clear hw1))
        clear c2 f2 hT2 hb2
        generalize w2.setCell ⟨w.heap.size, 3, none⟩ (.string (str (Url.path a))) = w3 at hT3 ⊢
        go_at_call 74
        refine (RMarkedQ q _ (by omega)).mono ?_
        rintro e w4 ⟨rfl, hb4⟩
        have hT4 := hT3.step hb4
        have c46 : w4.cell? ⟨w.heap.size, 6, none⟩ = some (.bool false) := hT4.at_.cell 6
        have f46 := hT4.at_.frozen 6
        have c44 : w4.cell? ⟨w.heap.size, 4, none⟩ = some (.string (str [])) := hT4.at_.cell 4
        have f44 := hT4.at_.frozen 4
        have hTq := (hT4.hq true).query (Pct.mark Url.freeQ q)
        go_wp2_with (first
          | (refine wpList_load_U _ rfl rfl w.heap.size _ rfl hTq.at_ ?_)
          | (refine wpList_store_U _ _ rfl rfl (w.heap.size + 1) _ Url.zero rfl rfl hTq.res ?_))
        exact ret_U rfl rfl rfl (setRow_U hTq.res) ⟨by rw [HT.out]; rfl, below_setRow hTq.bel (by omega) _⟩
      | cons d f =>
        have hd : d = 35 := by
          have := hqh d rfl
          simpa using this
        subst hd
        clear hqh
        have he2 := empty_isnt (l := 35 :: f) (by simp)
        rw [List.length_cons] at hq2
        have hsf : (str (35 :: f)).size = f.length + 1 := str_size _
        have hx2 : (str (35 :: f)).extract 1 (f.length + 1) = str f := str_from (35 :: f) 1
        have hs2 : (1 : Int) ≤ ((f.length + 1 : Nat) : Int) := by omega
        replace HT : Hid (v = { placeU u with path := Url.path a, query := Pct.mark Url.freeQ q, frag := Pct.mark Url.freeF f, hq := true, hf := true }) := HT
        go_enter Tryz.func41, Tryz.ntmps41
        go_wp2_with (first
          | (go_at_call 39; refine (uc _).mono ?_; rintro e w1 ⟨rfl, hw1⟩; rw [hw1]; clear hw1 uc)
          | (go_at_call 73; refine (RPath_any a _ (by omega)).mono ?_; rintro e w2 ⟨rfl, hb2⟩; have hT2 := hT0.step hb2; have c2 : w2.cell? ⟨w.heap.size, 3, none⟩ = some (.string (str (placeU u).path)) := hT2.at_.cell 3; have f2 := hT2.at_.frozen 3; have hT3 := hT2.path (Url.path a))
          | (go_at_call 39; refine (uc2 _).mono ?_; rintro e w1 ⟨rfl, hw1⟩; rw [hw1]; clear hw1))
        clear c2 f2 hT2 hb2
        generalize w2.setCell ⟨w.heap.size, 3, none⟩ (.string (str (Url.path a))) = w3 at hT3 ⊢
        go_at_call 74
        refine (RMarkedQ q _ (by omega)).mono ?_
        rintro e w4 ⟨rfl, hb4⟩
        have hT4 := hT3.step hb4
        have c46 : w4.cell? ⟨w.heap.size, 6, none⟩ = some (.bool false) := hT4.at_.cell 6
        have f46 := hT4.at_.frozen 6
        have c44 : w4.cell? ⟨w.heap.size, 4, none⟩ = some (.string (str [])) := hT4.at_.cell 4
        have f44 := hT4.at_.frozen 4
        have hTq := (hT4.hq true).query (Pct.mark Url.freeQ q)
        go_wp2_with (fail)
        clear c46 f46 c44 f44 hT4 hb4
        generalize (w4.setCell ⟨w.heap.size, 6, none⟩ (.bool true)).setCell ⟨w.heap.size, 4, none⟩ (.string (str (Pct.mark Url.freeQ q))) = w6 at hTq ⊢
        go_at_call 74
        refine (RMarkedF f _ (by omega)).mono ?_
        rintro e w5 ⟨rfl, hb5⟩
        have hT5 := hTq.step hb5
        have c57 : w5.cell? ⟨w.heap.size, 7, none⟩ = some (.bool false) := hT5.at_.cell 7
        have f57 := hT5.at_.frozen 7
        have c55 : w5.cell? ⟨w.heap.size, 5, none⟩ = some (.string (str [])) := hT5.at_.cell 5
        have f55 := hT5.at_.frozen 5
        have hT6 := (hT5.hf true).frag (Pct.mark Url.freeF f)
        go_wp2_with (first
          | (refine wpList_load_U _ rfl rfl w.heap.size _ rfl hT6.at_ ?_)
          | (refine wpList_store_U _ _ rfl rfl (w.heap.size + 1) _ Url.zero rfl rfl hT6.res ?_))
        exact ret_U rfl rfl rfl (setRow_U hT6.res) ⟨by rw [HT.out]; rfl, below_setRow hT6.bel (by omega) _⟩
    · have h35 : c = 35 := by
        have : c = 63 ∨ c = 35 := by simpa using hc
        exact this.resolve_left h63
      subst h35
      have hh : Url.hasB 63 (35 :: r) = false := rfl
      rw [hh] at HT HB
      have hbh : bh = 35 :: r := HB.out
      subst hbh
      clear HB hh hc h63
      have hat : ∀ h : 0 < (str (35 :: r)).size, (str (35 :: r))[0]'h = 35 := fun _ => rfl
      obtain ⟨f, hf⟩ : ∃ f, r = f := ⟨_, rfl⟩
      subst hf
      replace HT : Hid (v = { placeU u with path := Url.path a, query := [], frag := Pct.mark Url.freeF r, hq := false, hf := true }) := HT
      go_enter Tryz.func41, Tryz.ntmps41
      go_wp2_with (first
        | (go_at_call 39; refine (uc _).mono ?_; rintro e w1 ⟨rfl, hw1⟩; rw [hw1]; clear hw1 uc)
        | (go_at_call 73; refine (RPath_any a _ (by omega)).mono ?_; rintro e w2 ⟨rfl, hb2⟩; have hT2 := hT0.step hb2; have c2 : w2.cell? ⟨w.heap.size, 3, none⟩ = some (.string (str (placeU u).path)) := hT2.at_.cell 3; have f2 := hT2.at_.frozen 3; have hT3 := hT2.path (Url.path a)))
      clear c2 f2 hT2 hb2
      generalize w2.setCell ⟨w.heap.size, 3, none⟩ (.string (str (Url.path a))) = w3 at hT3 ⊢
      go_at_call 74
      refine (RMarkedF r _ (by omega)).mono ?_
      rintro e w5 ⟨rfl, hb5⟩
      have hT5 := hT3.step hb5
      have c57 : w5.cell? ⟨w.heap.size, 7, none⟩ = some (.bool false) := hT5.at_.cell 7
      have f57 := hT5.at_.frozen 7
      have c55 : w5.cell? ⟨w.heap.size, 5, none⟩ = some (.string (str [])) := hT5.at_.cell 5
      have f55 := hT5.at_.frozen 5
      have hT6 := (hT5.hf true).frag (Pct.mark Url.freeF r)
      go_wp2_with (first
        | (refine wpList_load_U _ rfl rfl w.heap.size _ rfl hT6.at_ ?_)
        | (refine wpList_store_U _ _ rfl rfl (w.heap.size + 1) _ Url.zero rfl rfl hT6.res ?_))
      exact ret_U rfl rfl rfl (setRow_U hT6.res) ⟨by rw [HT.out]; rfl, below_setRow hT6.bel (by omega) _⟩
end Go.Proofs.YtnmkhbelmdokmaaGreatDoor
