/- Contracts of the reference's blanks and split. -/
import Derived.Test.YtnklbeldheocmaaDoorKDR4
namespace Go.Proofs.YtnklbeldheocmaaDoor
open Go.RowKit
set_option maxRecDepth 100000 in
set_option maxHeartbeats 1000000 in
theorem Rblanks_any (l : List UInt8) (w : World) (_hz0 : l.length ≤ 100000) :
    Calls Tryd.prog 32 #[.string (str l)] w fun e w' => e = .returned (.string (str (l.dropWhile Dat.sp))) ∧ w' = w := by
  go_enter Tryd.func32, Tryd.ntmps32
  go_wp2
  go_loop [0] (fun s => ∃ r : List UInt8, s = .string (str r) ∧ r.length ≤ l.length ∧ Hid (r.dropWhile Dat.sp = l.dropWhile Dat.sp)) (fun s => match s with | .string x => x.size | _ => 0)
  case atStart => exact ⟨l, rfl, Nat.le_refl _, rfl⟩
  case round =>
    obtain ⟨r, rfl, hr, HR⟩ := hrel
    have hz : (str r).size = r.length := str_size r
    cases r with
    | nil =>
      have h0 := left_no (l := ([] : List UInt8)) rfl
      have HE : Hid (l.dropWhile Dat.sp = []) := HR.out.symm
      go_wp2
      go_ret
      exact ⟨by rw [HE.out]; rfl, rfl⟩
    | cons c t =>
      have h0 := left_some (l := c :: t) (by simp)
      have hat := str_at (l := c :: t) (k := 0) (x := c) rfl
      have h1 : 0 < (str (c :: t)).size := by rw [hz]; simp
      have h2 : (0 : Int) < ((str (c :: t)).size : Int) := by omega
      have h3 : (1 : Int) ≤ ((str (c :: t)).size : Int) := by omega
      have hx : (str (c :: t)).extract 1 (str (c :: t)).size = str t := drop_str (c :: t) 1 _ hz
      have hx2 : (str (c :: t)).extract 1 (t.length + 1) = str t := drop_str (c :: t) 1 _ rfl
      by_cases hc : c = 32
      · subst hc
        have HN : Hid (t.dropWhile Dat.sp = l.dropWhile Dat.sp) := by
          show _ = _
          rw [← HR.out, List.dropWhile_cons_of_pos (by decide)]
        have HL : Hid (t.length ≤ l.length) := by show _ ≤ _; simp at hr; omega
        go_wp2
        go_round
        case rel => exact ⟨t, rfl, HL.out, HN⟩
        case measure => show (str t).size < (str (32 :: t)).size; rw [str_size, str_size]; simp
      · have HE : Hid (l.dropWhile Dat.sp = c :: t) := by
          show _ = _
          rw [← HR.out, List.dropWhile_cons_of_neg (by simpa [Dat.sp] using hc)]
        have hn : ¬ (c.toNat : Int) = 32 := byte_n (k := 32) hc (by omega)
        have hn2 : ((c.toNat : Int) == 32) = false := by simpa using hn
        clear hc
        go_wp2
        go_ret
        exact ⟨by rw [HE.out]; rfl, rfl⟩
/-- So many signs of a kind ahead. -/
theorem take_len (f : UInt8 → Bool) (l : List UInt8) (k : Nat) (h : (l.take k).all f = true) (hs : ∀ x, l[k]? = some x → f x = false) : l.takeWhile f = l.take k ∧ l.dropWhile f = l.drop k := by
  have h2 := Dat.span_stop f (l.take k) (l.drop k) h (by
    intro x hx
    apply hs x
    rw [← hx, List.head?_drop])
  rw [List.take_append_drop] at h2
  exact h2
theorem all_next {f : UInt8 → Bool} {l : List UInt8} {k : Nat} {x : UInt8} (h : (l.take k).all f = true) (hx : l[k]? = some x) (hf : f x = true) : (l.take (k + 1)).all f = true := by
  have hk := (List.getElem?_eq_some_iff.1 hx)
  obtain ⟨hk1, hk2⟩ := hk
  rw [List.take_succ_eq_append_getElem hk1, List.all_append, h, hk2]
  simp [hf]
set_option maxRecDepth 100000 in
set_option maxHeartbeats 1000000 in
theorem Rsplit_any (l : List UInt8) (w : World) (hz0 : l.length ≤ 100000) :
    Calls Tryd.prog 33 #[.string (str l)] w fun e w' => e = .returned (.tuple #[.string (str (l.takeWhile Dat.clkC)), .string (str (l.dropWhile Dat.clkC))]) ∧ ∃ n, w' = w.drewN n := by
  have hz : (str l).size = l.length := str_size l
  go_enter Tryd.func33, Tryd.ntmps33
  go_wp2
  go_loop [4] (fun i => ∃ k : Nat, k ≤ l.length ∧ i = .int .i64 k ∧ Hid ((l.take k).all Dat.clkC = true)) (fun i => l.length - (intOf i).toNat)
  case atStart => exact ⟨0, by omega, rfl, rfl⟩
  case round =>
    obtain ⟨k, hk, rfl, HA⟩ := hrel
    by_cases hlt : k < l.length
    · obtain ⟨x, hx⟩ := some_at l k hlt
      have hat := str_at hx
      have hk2 : k < (str l).size := by omega
      cases hf : Dat.clkC x
      · have HT : Hid _ := take_len Dat.clkC l k HA.out (fun y hy => by rw [← Option.some.inj (hx.symm.trans hy)]; exact hf)
        have e1 : (str l).extract 0 k = str (l.take k) := str_to l k
        have e2 : (str l).extract k l.length = str (l.drop k) := str_from l k
        have hI : Asc.isDig (Asc.bt x) = false := by
          cases hd : Asc.isDig (Asc.bt x)
          · rfl
          · have : Dat.clkC x = true := Dat.dgB_clk hd
            rw [hf] at this; cases this
        have hn1 : ¬ (x.toNat : Int) = 58 := byte_n (k := 58) (by rintro rfl; cases hf) (by omega)
        have hn2 : ¬ (x.toNat : Int) = 46 := byte_n (k := 46) (by rintro rfl; cases hf) (by omega)
        have hb1 : ((x.toNat : Int) == 58) = false := by simpa using hn1
        have hb2 : ((x.toNat : Int) == 46) = false := by simpa using hn2
        have hI2 := RIsDigit_any x
        rw [hI] at hI2
        have E : Hid _ := And.intro e1 e2
        have kI : (k : Int) ≤ (l.length : Int) := by omega
        have kI2 : (k : Int) < (l.length : Int) := by omega
        clear hI e1 e2 hf hx
        go_wp2_with (first
          | (go_at_call 30; refine (hI2 _).mono ?_; rintro e w1 ⟨rfl, hw⟩; rw [hw]; clear hw))
        go_quiet (fail)
        go_wp2
        go_ret2
        refine ⟨?_, nq, rfl⟩
        rw [HT.out.1, HT.out.2]
        show Ending.returned (.tuple #[.string ((str l).extract 0 k), .string ((str l).extract k l.length)]) = _
        rw [E.out.1, E.out.2]
      · have HN : Hid _ := all_next HA.out hx hf
        have hI2 := RIsDigit_any x
        have kI2 : (k : Int) < (l.length : Int) := by omega
        cases hd : Asc.isDig (Asc.bt x)
        · rw [hd] at hI2
          by_cases h58 : x = 58
          · subst h58
            clear hd hf hx
            go_wp2_with (first
              | (go_at_call 30; refine (hI2 _).mono ?_; rintro e w1 ⟨rfl, hw⟩; rw [hw]; clear hw))
            go_round
            case rel => exact ⟨k + 1, by omega, by go_num, HN⟩
            case measure => simp [intOf]; omega
          · have h46 : x = 46 := by
              have hf2 := hf
              unfold Dat.clkC Dat.dgB at hf2
              rw [hd] at hf2
              simpa [h58] using hf2
            subst h46
            clear hd hf hx h58
            go_wp2_with (first
              | (go_at_call 30; refine (hI2 _).mono ?_; rintro e w1 ⟨rfl, hw⟩; rw [hw]; clear hw))
            go_round
            case rel => exact ⟨k + 1, by omega, by go_num, HN⟩
            case measure => simp [intOf]; omega
        · rw [hd] at hI2
          clear hd hf hx
          go_wp2_with (first
            | (go_at_call 30; refine (hI2 _).mono ?_; rintro e w1 ⟨rfl, hw⟩; rw [hw]; clear hw))
          go_round
          case rel => exact ⟨k + 1, by omega, by go_num, HN⟩
          case measure => simp [intOf]; omega
    · have HT : Hid _ := take_len Dat.clkC l k HA.out (fun y hy => by have := (List.getElem?_eq_some_iff.1 hy).1; omega)
      have e1 : (str l).extract 0 k = str (l.take k) := str_to l k
      have e2 : (str l).extract k l.length = str (l.drop k) := str_from l k
      have E : Hid _ := And.intro e1 e2
      have kI : (k : Int) ≤ (l.length : Int) := by omega
      have kI2 : ¬ (k : Int) < (l.length : Int) := by omega
      clear e1 e2
      go_wp2
      go_quiet (fail)
      go_wp2
      go_ret2
      refine ⟨?_, nq, rfl⟩
      rw [HT.out.1, HT.out.2]
      show Ending.returned (.tuple #[.string ((str l).extract 0 k), .string ((str l).extract k l.length)]) = _
      rw [E.out.1, E.out.2]
end Go.Proofs.YtnklbeldheocmaaDoor
