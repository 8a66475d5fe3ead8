/- Contracts of the reference's two and Day. -/
import Derived.Test.YtnklbeldheocmaaGreatDoorKDR1
import Derived.Test.YtnklbeldheocmaaGreatDoorKDateE
import Derived.Deep.QuietTactic
namespace Go.Proofs.YtnklbeldheocmaaGreatDoor
open Go.RowKit
/-- The document's number of a text of just so many digits. -/
def twoI (l : List UInt8) (d : Int) : Int := if Asc.numErr l 9999 ≠ 0 ∨ (l.length : Int) ≠ d then -1 else Asc.numNum l 9999
theorem twoI_nat (l : List UInt8) (k : Nat) : twoI l (k : Int) = Dat.two l k := by
  unfold twoI Dat.two
  by_cases h : l.length = k
  · have : (l.length : Int) = (k : Int) := by omega
    simp [h]
  · have : ¬ (l.length : Int) = (k : Int) := by omega
    simp [h, this]
theorem numNum_bd {l : List UInt8} (e0 : Asc.numErr l 9999 = 0) : 0 ≤ Asc.numNum l 9999 ∧ Asc.numNum l 9999 ≤ 9999 := by
  cases hd : Asc.digForm l
  · exact absurd e0 (Dat.num_bad hd)
  · have gg := Dat.num_good (hi := 9999) (by omega) hd
    have h1 := gg.1.1 e0
    have h2 := gg.2 h1
    have := Dat.val_ge l 0 (by omega) (Asc.digForm_all l hd)
    omega
theorem twoI_bd (l : List UInt8) (d : Int) : -1 ≤ twoI l d ∧ twoI l d ≤ 9999 := by
  unfold twoI
  by_cases h : Asc.numErr l 9999 ≠ 0 ∨ (l.length : Int) ≠ d
  · rw [if_pos h]; omega
  · rw [if_neg h]
    have e0 : Asc.numErr l 9999 = 0 := by
      by_cases hy : Asc.numErr l 9999 = 0
      · exact hy
      · exact absurd (.inl hy) h
    have := numNum_bd e0
    omega
theorem two_bd (l : List UInt8) (k : Nat) : -1 ≤ Dat.two l k ∧ Dat.two l k ≤ 9999 := by
  rw [← twoI_nat]
  exact twoI_bd _ _
theorem ext_size (s : ByteArray) (a b : Nat) (h : s.size ≤ 1000000000) : (s.extract a b).size ≤ 1000000000 := by
  rw [ByteArray.size_extract]
  omega
set_option maxHeartbeats 400000 in
theorem Rtwo_any (s : ByteArray) (d : Int) (w : World) (hs : s.size ≤ 1000000000) :
    Calls Tryz.prog 15 #[.string s, .int .i64 d] w fun e w' => e = .returned (.int .i64 (twoI s.data.toList d)) ∧ w' = w := by
  have hl : (s.size : Int) = (s.data.toList.length : Int) := by rw [size_data]
  have hN := RNumber_any s 9999 w hs (by omega) (by omega)
  have HV : Hid (twoI s.data.toList d = if Asc.numErr s.data.toList 9999 ≠ 0 ∨ (s.data.toList.length : Int) ≠ d then -1 else Asc.numNum s.data.toList 9999) := rfl
  generalize twoI s.data.toList d = v at HV
  by_cases h1 : Asc.numErr s.data.toList 9999 = 0
  · by_cases h2 : (s.size : Int) = d
    · have hv : v = Asc.numNum s.data.toList 9999 := by rw [HV.out, if_neg (by rintro (h | h); exact h h1; exact h (hl.symm.trans h2))]
      rw [h1, ← hv] at hN
      clear HV hv hl h1
      go_enter Tryz.func15, Tryz.ntmps15
      go_wp2_with (first
        | (go_at_call 35; refine hN.mono ?_; rintro e w1 ⟨rfl, hw⟩; rw [hw]; clear hw))
      go_ret
      exact ⟨rfl, rfl⟩
    · have hv : v = -1 := by rw [HV.out, if_pos (.inr (fun h => h2 (hl.trans h)))]
      rw [h1] at hN
      subst hv
      clear HV hl h1
      go_enter Tryz.func15, Tryz.ntmps15
      go_wp2_with (first
        | (go_at_call 35; refine hN.mono ?_; rintro e w1 ⟨rfl, hw⟩; rw [hw]; clear hw))
      go_ret
      exact ⟨rfl, rfl⟩
  · have hv : v = -1 := by rw [HV.out, if_pos (.inl h1)]
    subst hv
    clear HV hl
    generalize Asc.numErr s.data.toList 9999 = er at hN h1
    go_enter Tryz.func15, Tryz.ntmps15
    go_wp2_with (first
      | (go_at_call 35; refine hN.mono ?_; rintro e w1 ⟨rfl, hw⟩; rw [hw]; clear hw))
    go_ret
    exact ⟨rfl, rfl⟩
theorem Rtwo_str (l : List UInt8) (d : Int) (k : Nat) (hd : d = (k : Int)) (w : World) (hs : l.length ≤ 1000000000) :
    Calls Tryz.prog 15 #[.string (str l), .int .i64 d] w fun e w' => e = .returned (.int .i64 (Dat.two l k)) ∧ w' = w := by
  have h := Rtwo_any (str l) d w (by rw [str_size]; exact hs)
  rw [str_data, hd, twoI_nat] at h
  rw [hd]
  exact h
theorem RDays_two (y m : Int) (l : List UInt8) (k : Int) (w : World) :
    Calls Tryz.prog 16 #[.int .i64 y, .int .i64 m, .int .i64 (twoI l k)] w fun e w' => e = .returned (.tuple #[.int .i64 (daysV y m (twoI l k)), .int .i64 (daysE y m (twoI l k))]) ∧ w' = w :=
  RDays_any y m _ w (by have := twoI_bd l k; omega) (by have := twoI_bd l k; omega)
theorem str_cut (l : List UInt8) (a b : Nat) : (str l).extract a b = str ((l.take b).drop a) := by
  apply str_eq
  rw [data_cut, str_data]
theorem days_opt (y m d : Int) : (Dat.days y m d).getD 0 = daysV y m d ∧ optE (Dat.days y m d) = daysE y m d := by
  unfold Dat.days daysV daysE
  by_cases h : Dat.Valid y m d
  · rw [if_pos h, if_pos h, if_pos h]; exact ⟨rfl, rfl⟩
  · rw [if_neg h, if_neg h, if_neg h]; exact ⟨rfl, rfl⟩
theorem byte_n {c : UInt8} {k : Nat} (h : ¬ c = UInt8.ofNat k) (hk : k < 256) : ¬ (c.toNat : Int) = (k : Int) := by
  intro e
  apply h
  apply UInt8.toNat_inj.1
  rw [UInt8.toNat_ofNat']
  omega
theorem str_at {l : List UInt8} {k : Nat} {x : UInt8} (hx : l[k]? = some x) : ∀ h : k < (str l).size, (str l)[k]'h = x := fun h => by
  have e : (str l)[k]'h = l[k]'(by rw [str_size] at h; exact h) := rfl
  rw [e]
  exact (List.getElem?_eq_some_iff.1 hx).2
theorem some_at (l : List UInt8) (k : Nat) (h : k < l.length) : ∃ x, l[k]? = some x := ⟨l[k], List.getElem?_eq_getElem h⟩
set_option maxRecDepth 100000 in
set_option maxHeartbeats 1000000 in
theorem RDay_any (l : List UInt8) (w : World) (_hz0 : l.length ≤ 100000) :
    Calls Tryz.prog 6 #[.string (str l)] w fun e w' => e = .returned (.tuple #[.int .i64 ((Dat.dayR l).getD 0), .int .i64 (optE (Dat.dayR l))]) ∧ ∃ n, w' = w.drewN n := by
  have hz : (str l).size = l.length := str_size l
  by_cases h8 : l.length = 8
  · rw [h8] at hz
    obtain ⟨x, h4x⟩ := some_at l 4 (by omega)
    have hat := str_at h4x
    by_cases h4 : x = 45
    · have hx : l.length = 8 ∧ l[4]? = some 45 := ⟨h8, by rw [h4x, h4]⟩
      have hd : Dat.dayR l = if Dat.Valid (Dat.two (l.take 4) 4) 1 1 ∧ 1 ≤ Dat.two (l.drop 5) 3 ∧ Dat.two (l.drop 5) 3 ≤ Dat.yearN (Dat.two (l.take 4) 4) then some (Dat.num (Dat.two (l.take 4) 4) 1 1 + Dat.two (l.drop 5) 3 - 1) else none := by
        unfold Dat.dayR
        rw [if_pos hx]
      have e1 : (str l).extract 5 8 = str (l.drop 5) := by rw [str_cut, List.take_of_length_le (by omega)]
      have e2 : (str l).extract 0 4 = str (l.take 4) := str_to l 4
      have c1 := fun w => Rtwo_str (l.drop 5) 3 3 rfl w (by simp; omega)
      have c2 := fun w => Rtwo_str (l.take 4) 4 4 rfl w (by simp; omega)
      have bn := two_bd (l.drop 5) 3
      have by_ := two_bd (l.take 4) 4
      rw [h4] at hat
      rw [hd]
      clear hd hx h4 h4x
      generalize Dat.two (l.drop 5) 3 = n at *
      generalize Dat.two (l.take 4) 4 = y at *
      obtain ⟨bn1, bn2⟩ := bn
      obtain ⟨by1, by2⟩ := by_
      have c3 := fun w => RDays_any y 1 1 w (by omega) (by omega)
      by_cases hv : Dat.Valid y 1 1
      · have hyb := (Dat.valid_one y).1 hv
        have hdy := days_yes hv
        rw [hdy.1, hdy.2, num_one] at c3
        have bY := newY_bd y hyb.1 (by omega)
        obtain ⟨bY1, bY2⟩ := bY
        have hN := num_one y
        clear hdy
        by_cases hn1 : n < 1
        · rw [if_neg (by omega)]
          clear hv hyb hN
          go_enter Tryz.func6, Tryz.ntmps6
          go_wp2_with (first
            | (go_at_call_of 15 (Value.int .i64 3); refine (c1 _).mono ?_; rintro e w1 ⟨rfl, hw⟩; rw [hw]; clear hw)
            | (go_at_call_of 15 (Value.int .i64 4); refine (c2 _).mono ?_; rintro e w1 ⟨rfl, hw⟩; rw [hw]; clear hw)
            | (go_at_call 16; refine (c3 _).mono ?_; rintro e w1 ⟨rfl, hw⟩; rw [hw]; clear hw))
          go_ret2
          exact ⟨rfl, 0, rfl⟩
        · by_cases hn2 : Dat.yearN y < n
          · rw [if_neg (by omega)]
            clear hv hyb hN
            go_enter Tryz.func6, Tryz.ntmps6
            go_wp2_with (first
              | (go_at_call_of 15 (Value.int .i64 3); refine (c1 _).mono ?_; rintro e w1 ⟨rfl, hw⟩; rw [hw]; clear hw)
              | (go_at_call_of 15 (Value.int .i64 4); refine (c2 _).mono ?_; rintro e w1 ⟨rfl, hw⟩; rw [hw]; clear hw)
              | (go_at_call 16; refine (c3 _).mono ?_; rintro e w1 ⟨rfl, hw⟩; rw [hw]; clear hw)
              | (go_at_call 17; refine (Ryear_any _ _).mono ?_; rintro e w1 ⟨rfl, hw⟩; rw [hw]; clear hw))
            go_ret2
            exact ⟨rfl, 0, rfl⟩
          · rw [if_pos ⟨hv, by omega, by omega⟩, hN]
            clear hv hyb hN
            go_enter Tryz.func6, Tryz.ntmps6
            go_wp2_with (first
              | (go_at_call_of 15 (Value.int .i64 3); refine (c1 _).mono ?_; rintro e w1 ⟨rfl, hw⟩; rw [hw]; clear hw)
              | (go_at_call_of 15 (Value.int .i64 4); refine (c2 _).mono ?_; rintro e w1 ⟨rfl, hw⟩; rw [hw]; clear hw)
              | (go_at_call 16; refine (c3 _).mono ?_; rintro e w1 ⟨rfl, hw⟩; rw [hw]; clear hw)
              | (go_at_call 17; refine (Ryear_any _ _).mono ?_; rintro e w1 ⟨rfl, hw⟩; rw [hw]; clear hw))
            go_ret2
            exact ⟨rfl, 0, rfl⟩
      · have hdy := days_no hv
        rw [hdy.1, hdy.2] at c3
        rw [if_neg (fun h => hv h.1)]
        clear hdy hv
        go_enter Tryz.func6, Tryz.ntmps6
        go_wp2_with (first
          | (go_at_call_of 15 (Value.int .i64 3); refine (c1 _).mono ?_; rintro e w1 ⟨rfl, hw⟩; rw [hw]; clear hw)
          | (go_at_call_of 15 (Value.int .i64 4); refine (c2 _).mono ?_; rintro e w1 ⟨rfl, hw⟩; rw [hw]; clear hw)
          | (go_at_call 16; refine (c3 _).mono ?_; rintro e w1 ⟨rfl, hw⟩; rw [hw]; clear hw))
        go_ret2
        exact ⟨rfl, 0, rfl⟩
    · have hd : Dat.dayR l = none := by
        unfold Dat.dayR
        rw [if_neg (by rintro ⟨_, h⟩; rw [h4x] at h; exact h4 (Option.some.inj h)), if_neg (by rintro ⟨h, _⟩; omega)]
      rw [hd]
      have hn : ¬ (x.toNat : Int) = 45 := byte_n (k := 45) h4 (by omega)
      clear h4 hd h4x
      go_enter Tryz.func6, Tryz.ntmps6
      go_wp2
      go_ret2
      exact ⟨rfl, 0, rfl⟩
  · by_cases h10 : l.length = 10
    · rw [h10] at hz
      obtain ⟨x, h4x⟩ := some_at l 4 (by omega)
      obtain ⟨z, h7x⟩ := some_at l 7 (by omega)
      have hat := str_at h4x
      have hat7 := str_at h7x
      by_cases h4 : x = 45
      · by_cases h7 : z = 45
        · have hd : Dat.dayR l = Dat.days (Dat.two (l.take 4) 4) (Dat.two ((l.take 7).drop 5) 2) (Dat.two (l.drop 8) 2) := by
            unfold Dat.dayR
            rw [if_neg (by rintro ⟨h, _⟩; exact h8 h), if_pos ⟨h10, by rw [h4x, h4], by rw [h7x, h7]⟩]
          have o := days_opt (Dat.two (l.take 4) 4) (Dat.two ((l.take 7).drop 5) 2) (Dat.two (l.drop 8) 2)
          rw [hd, o.1, o.2]
          have t1 : twoI (List.take 4 (str l).data.toList) 4 = Dat.two (l.take 4) 4 := by rw [str_data]; exact twoI_nat _ 4
          have t2 : twoI (List.take 2 (List.drop 5 (str l).data.toList)) 2 = Dat.two ((l.take 7).drop 5) 2 := by rw [str_data, List.drop_take]; exact twoI_nat _ 2
          have t3 : twoI (List.take 2 (List.drop 8 (str l).data.toList)) 2 = Dat.two (l.drop 8) 2 := by rw [str_data, List.take_of_length_le (by simp; omega)]; exact twoI_nat _ 2
          have T : Hid _ := And.intro t1 (And.intro t2 t3)
          have hsz : (str l).size ≤ 1000000000 := by omega
          rw [h4] at hat
          rw [h7] at hat7
          clear hd o t1 t2 t3 h4 h7 h4x h7x
          go_enter Tryz.func6, Tryz.ntmps6
          go_wp2_with (fail)
          go_quiet ((first
            | (go_at_call 15; exact Calls.quiet_of_same (Rtwo_any _ _ _ (ext_size _ _ _ hsz)))
            | (go_at_call 16; exact Calls.quiet_of_same (RDays_two _ _ _ _ _))))
          go_wp2
          go_ret2
          refine ⟨?_, nq, rfl⟩
          show Ending.returned (.tuple #[.int .i64 (daysV (twoI (List.take 4 (str l).data.toList) 4) (twoI (List.take 2 (List.drop 5 (str l).data.toList)) 2) (twoI (List.take 2 (List.drop 8 (str l).data.toList)) 2)), .int .i64 (daysE (twoI (List.take 4 (str l).data.toList) 4) (twoI (List.take 2 (List.drop 5 (str l).data.toList)) 2) (twoI (List.take 2 (List.drop 8 (str l).data.toList)) 2))]) = _
          rw [T.out.1, T.out.2.1, T.out.2.2]
        · have hd : Dat.dayR l = none := by
            unfold Dat.dayR
            rw [if_neg (by rintro ⟨h, _⟩; exact h8 h), if_neg (by rintro ⟨_, _, h⟩; rw [h7x] at h; exact h7 (Option.some.inj h))]
          rw [hd]
          have hn : ¬ (z.toNat : Int) = 45 := byte_n (k := 45) h7 (by omega)
          rw [h4] at hat
          clear h4 h7 h4x h7x hd
          go_enter Tryz.func6, Tryz.ntmps6
          go_wp2
          go_ret2
          exact ⟨rfl, 0, rfl⟩
      · have hd : Dat.dayR l = none := by
          unfold Dat.dayR
          rw [if_neg (by rintro ⟨h, _⟩; exact h8 h), if_neg (by rintro ⟨_, h, _⟩; rw [h4x] at h; exact h4 (Option.some.inj h))]
        rw [hd]
        have hn : ¬ (x.toNat : Int) = 45 := byte_n (k := 45) h4 (by omega)
        clear h4 hd hat7 h4x h7x
        go_enter Tryz.func6, Tryz.ntmps6
        go_wp2
        go_ret2
        exact ⟨rfl, 0, rfl⟩
    · have hd : Dat.dayR l = none := by
        unfold Dat.dayR
        rw [if_neg (by rintro ⟨h, _⟩; exact h8 h), if_neg (by rintro ⟨h, _⟩; exact h10 h)]
      rw [hd]
      have k1 : ¬ (l.length : Int) = 8 := by omega
      have k2 : ¬ (l.length : Int) = 10 := by omega
      go_enter Tryz.func6, Tryz.ntmps6
      go_wp2
      go_ret2
      exact ⟨rfl, 0, rfl⟩
end Go.Proofs.YtnklbeldheocmaaGreatDoor
