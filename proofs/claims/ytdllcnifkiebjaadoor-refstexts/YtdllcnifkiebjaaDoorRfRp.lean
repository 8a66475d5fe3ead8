/- The contract of the reference's number. -/
import Derived.Test.YtdllcnifkiebjaaDoorRfRo
import Derived.Test.YtdllcnifkiebjaaDoorRfI
set_option linter.unusedVariables false
set_option linter.unusedSimpArgs false
namespace Rf
open Asc
theorem foldCap_app (base : Int) : ∀ (l m : List UInt8) (n : Int), foldCap base n (l ++ m) = foldCap base (foldCap base n l) m
  | [], m, n => rfl
  | c :: l, m, n => by rw [List.cons_append, foldCap, foldCap, foldCap_app base l m]
theorem foldCap_snoc (base : Int) (D : List UInt8) (k : Nat) (h : k < D.length) : foldCap base 0 (D.take (k + 1)) = min (foldCap base 0 (D.take k) * base + hexV (bt D[k])) 4294967295 := by
  rw [List.take_succ_eq_append_getElem h, foldCap_app]
  rfl
end Rf
namespace Go.Proofs.YtdllcnifkiebjaaDoor
open Go.RowKit
theorem RNibble_any (c : UInt8) (w : World) :
    Calls Tryd.prog 57 #[.int .u8 c.toNat] w fun e w' => e = .returned (.int .u32 (nibV (c.toNat : Int))) ∧ w' = w := by
  go_enter Tryd.func57, Tryd.ntmps57
  go_wp2_with (go_at_call 68; refine (Rnibble_any c _).mono ?_; rintro e w1 ⟨rfl, hw⟩; rw [hw]; clear hw)
  go_ret
  exact ⟨rfl, rfl⟩
theorem nib_yes' (b : Bool) (c : UInt8) (h : Rf.dOk b c = true) : nibV (c.toNat : Int) = Asc.hexV (Asc.bt c) ∧ 0 ≤ Asc.hexV (Asc.bt c) ∧ Asc.hexV (Asc.bt c) < Rf.baseOf b := by
  have hb := Asc.hexV_bd (Asc.bt c)
  cases b
  · have h' : 48 ≤ Asc.bt c ∧ Asc.bt c ≤ 57 := by
      have h2 : Rf.digB c = true := h
      simpa [Rf.digB, Asc.isDig] using h2
    have ho : Asc.hexOk (Asc.bt c) = true := by unfold Asc.hexOk; simp [h']
    refine ⟨nib_yes _ ho, hb.1, ?_⟩
    have := (Rf.hexV_dig c h)
    show Asc.hexV (Asc.bt c) < 10
    omega
  · exact ⟨nib_yes _ h, hb.1, by show Asc.hexV (Asc.bt c) < 16; omega⟩
theorem nib_no' (b : Bool) (c : UInt8) (h : Rf.dOk b c = false) : Rf.baseOf b ≤ nibV (c.toNat : Int) ∧ nibV (c.toNat : Int) ≤ 16 := by
  cases hx : Asc.hexOk (Asc.bt c)
  · have e : nibV (c.toNat : Int) = 16 := nib_no _ hx
    rw [e]
    cases b
    · exact ⟨by show (10 : Int) ≤ 16; omega, by omega⟩
    · exact ⟨by show (16 : Int) ≤ 16; omega, by omega⟩
  · cases b
    · have e : nibV (c.toNat : Int) = Asc.hexV (Asc.bt c) := nib_yes _ hx
      rw [e]
      have hb := Asc.hexV_bd (Asc.bt c)
      have h' : ¬ (48 ≤ Asc.bt c ∧ Asc.bt c ≤ 57) := by
        have h2 : Rf.digB c = false := h
        simpa [Rf.digB, Asc.isDig] using h2
      refine ⟨?_, by omega⟩
      show (10 : Int) ≤ _
      unfold Asc.hexV
      rw [if_neg h']
      unfold Asc.hexOk at hx
      simp only [Bool.or_eq_true, decide_eq_true_eq] at hx
      split
      · omega
      · split
        · omega
        · omega
    · have h2 : Rf.hexB c = false := h
      unfold Rf.hexB at h2
      rw [h2] at hx
      cases hx
theorem byte_ne' {c : UInt8} {k : Nat} (hk : k < 256) (h : c ≠ UInt8.ofNat k) : ¬ (c.toNat : Int) = (k : Int) := by
  intro e
  apply h
  apply UInt8.toNat_inj.1
  have : (UInt8.ofNat k).toNat = k := by rw [UInt8.toNat_ofNat']; omega
  omega
theorem mid_at (pre D rest : List UInt8) (i : Nat) (h1 : pre.length ≤ i) (h2 : i < pre.length + D.length) (h : i < (pre ++ (D ++ rest)).length) : (pre ++ (D ++ rest))[i] = D[i - pre.length] := by
  rw [List.getElem_append_right h1, List.getElem_append_left]
theorem end_at (pre D : List UInt8) (c : UInt8) (q : List UInt8) (h : pre.length + D.length < (pre ++ (D ++ c :: q)).length) : (pre ++ (D ++ c :: q))[pre.length + D.length] = c := by
  rw [List.getElem_append_right (by omega), List.getElem_append_right (by omega)]
  simp
def numR (b : Bool) (f1 : Nat) (D rest : List UInt8) : Int × Nat × Bool := if D = [] then (0, 0, false) else (Rf.numSign (Rf.foldCap (Rf.baseOf b) 0 D), f1 + D.length + Rf.semi rest, true)
set_option maxHeartbeats 2000000 in
set_option maxRecDepth 100000 in
theorem Rnumber_d (s pre D rest : List UInt8) (hs : s = pre ++ (D ++ rest)) (hpl : pre.length = 2) (hD : D.all (Rf.dOk false) = true) (hr : ∀ c ∈ rest.head?, Rf.dOk false c = false) (hz : s.length ≤ 1000000000) (w : World) (h2 : 2 < (str s).size) (q1 : ¬ ((str s)[2].toNat : Int) = 120) (q2 : ¬ ((str s)[2].toNat : Int) = 88) :
    Calls Tryd.prog 32 #[.string (str s)] w fun e w' => e = .returned (nxV (numR false 2 D rest)) ∧ Below w.heap.size w w' := by
  have hsz := str_size s
  have hsl : s.length = 2 + D.length + rest.length := by rw [hs]; simp only [List.length_append]; omega
  have h2i : (2 : Int) < (s.length : Int) := by omega
  have HS : Hid (s = pre ++ (D ++ rest)) := hs
  have HR0 : Hid (∀ c ∈ rest.head?, Rf.dOk false c = false) := hr
  have HD0 : Hid (D.all (Rf.dOk false) = true) := hD
  have HSL : Hid (s.length = 2 + D.length + rest.length) := hsl
  clear hs hr hD hsl
  have r1 : (((str s)[2].toNat : Int) == 120) = false := beq_eq_false_iff_ne.2 q1
  have r2 : (((str s)[2].toNat : Int) == 88) = false := beq_eq_false_iff_ne.2 q2
  go_enter Tryd.func32, Tryd.ntmps32
  go_wp2
  go_loop [6, 7] (fun i n => ∃ (k : Nat) (v : Int), 2 ≤ k ∧ k ≤ 2 + D.length ∧ i = .int .i64 k ∧ n = .int .u64 v ∧ 0 ≤ v ∧ v ≤ 4294967295 ∧ Hid (v = Rf.foldCap 10 0 (D.take (k - 2)))) (fun i _ => 2 + D.length - (intOf i).toNat)
  case atStart => exact ⟨2, 0, by omega, by omega, rfl, rfl, by omega, by omega, by show _ = _; simp [Rf.foldCap]⟩
  case round =>
    obtain ⟨k, v, hk0, hk1, rfl, rfl, hv0, hv1, HV⟩ := hrel
    by_cases hlt : k < 2 + D.length
    · have hks : k < (str s).size := by have := HSL.out; omega
      have hki : (k : Int) < (s.length : Int) := by omega
      have hkd : k - 2 < D.length := by omega
      have he : (str s)[k] = D[k - 2] := by
        show s[k]'(by omega) = _
        have := mid_at pre D rest k (by omega) (by omega) (by rw [← HS.out]; omega)
        simp only [hpl] at this
        simp only [HS.out]
        exact this
      have hok : Rf.dOk false (str s)[k] = true := by
        rw [he]
        exact List.all_eq_true.1 HD0.out _ (List.getElem_mem hkd)
      have hn := nib_yes' false (str s)[k] hok
      have HN : Hid (min (v * 10 + Asc.hexV (Asc.bt (str s)[k])) 4294967295 = Rf.foldCap 10 0 (D.take (k + 1 - 2))) := by
        show _ = _
        rw [show k + 1 - 2 = k - 2 + 1 from by omega, Rf.foldCap_snoc 10 D _ hkd, ← HV.out, he]
      have hNb := RNibble_any (str s)[k]
      rw [hn.1] at hNb
      obtain ⟨_, hn0, hn1⟩ := hn
      have hn1' : Asc.hexV (Asc.bt (str s)[k]) < 10 := hn1
      clear hn1 he hok
      generalize Asc.hexV (Asc.bt (str s)[k]) = d at *
      go_wp2_with (go_at_call 57; refine (hNb _).mono ?_; rintro e w1 ⟨rfl, hw⟩; rw [hw]; clear hw)
      go_round
      case rel => exact ⟨k + 1, min (v * 10 + d) 4294967295, by omega, by omega, by go_num, by first | rfl | go_num, by omega, by omega, HN.out⟩
      case measure => simp [intOf]; omega
    · have hkk : k = 2 + D.length := by omega
      have HV' : Hid (v = Rf.foldCap 10 0 D) := by
        show _ = _
        rw [HV.out, show k - 2 = D.length from by omega, List.take_length]
      have HK : Hid (k = 2 + D.length) := hkk
      clear HV hlt hkk hk0 hk1
      cases rest with
      | nil =>
        have hki : ¬ (k : Int) < (s.length : Int) := by have := HK.out; have hsl := HSL.out; simp at hsl; omega
        by_cases hd : D.length = 0
        · have hD0 : D = [] := List.eq_nil_of_length_eq_zero hd
          have HR : Hid (numR false 2 D [] = (0, 0, false)) := by show _ = _; unfold numR; rw [if_pos hD0]
          have hde : ((k : Int) == 2) = true := by have := HK.out; rw [beq_iff_eq]; omega
          clear hD0 hd
          go_wp2
          go_ret3
          rw [HR.out]
          exact ⟨rfl, Below.refl _ _⟩
        · have hD0 : D ≠ [] := by intro e; rw [e] at hd; exact hd rfl
          have HR : Hid (numR false 2 D [] = (Rf.numSign v, k, true)) := by show _ = _; unfold numR; rw [if_neg hD0, HV'.out, HK.out]; rfl
          have hde : ¬ (k : Int) = 2 := by have := HK.out; omega
          have hde2 : ((k : Int) == 2) = false := beq_eq_false_iff_ne.2 hde
          have hN := fun W => RNumber11_any v W hv0 hv1
          clear hD0 hd
          go_wp2_with (go_at_call 12; refine (hN _).mono ?_; rintro e w1 ⟨rfl, hb1⟩)
          go_ret3
          rw [HR.out]
          exact ⟨by simp [nxV], hb1⟩
      | cons c q =>
        have hki : (k : Int) < (s.length : Int) := by have := HK.out; have hsl := HSL.out; simp at hsl; omega
        have hks : k < (str s).size := by omega
        have he : (str s)[k] = c := by
          show s[k]'(by omega) = _
          have hk := HK.out
          have := end_at pre D c q (by rw [← HS.out, hpl]; omega)
          simp only [hpl] at this
          simp only [HS.out, hk]
          exact this
        have hno := HR0.out c (by simp)
        have hn := nib_no' false c hno
        have hNb := RNibble_any c
        have hnb : 10 ≤ nibV (c.toNat : Int) ∧ nibV (c.toNat : Int) ≤ 16 := hn
        clear hn hno
        generalize nibV (c.toNat : Int) = d at *
        obtain ⟨hnb0, hnb1⟩ := hnb
        by_cases hd : D.length = 0
        · have hD0 : D = [] := List.eq_nil_of_length_eq_zero hd
          have HR : Hid (numR false 2 D (c :: q) = (0, 0, false)) := by show _ = _; unfold numR; rw [if_pos hD0]
          have hde : ((k : Int) == 2) = true := by have := HK.out; rw [beq_iff_eq]; omega
          clear hD0 hd
          go_wp2_with (go_at_call 57; refine (hNb _).mono ?_; rintro e w1 ⟨rfl, hw⟩; rw [hw]; clear hw)
          go_ret3
          rw [HR.out]
          exact ⟨rfl, Below.refl _ _⟩
        · have hD0 : D ≠ [] := by intro e; rw [e] at hd; exact hd rfl
          have hde : ¬ (k : Int) = 2 := by have := HK.out; omega
          have hde2 : ((k : Int) == 2) = false := beq_eq_false_iff_ne.2 hde
          have hN := fun W => RNumber11_any v W hv0 hv1
          by_cases hc : c = 59
          · have HR : Hid (numR false 2 D (c :: q) = (Rf.numSign v, k + 1, true)) := by show _ = _; unfold numR; rw [if_neg hD0, HV'.out, hc, HK.out]; rfl
            have hq : ((c.toNat : Int) == 59) = true := by rw [hc]; rfl
            clear hD0 hc
            go_wp2_with (first
              | (go_at_call 57; refine (hNb _).mono ?_; rintro e w1 ⟨rfl, hw⟩; rw [hw]; clear hw)
              | (go_at_call 12; refine (hN _).mono ?_; rintro e w1 ⟨rfl, hb1⟩))
            go_ret3
            rw [HR.out]
            exact ⟨by simp [nxV], hb1⟩
          · have HR : Hid (numR false 2 D (c :: q) = (Rf.numSign v, k, true)) := by
              show _ = _
              unfold numR
              rw [if_neg hD0, HV'.out]
              have : Rf.semi (c :: q) = 0 := by
                unfold Rf.semi
                rw [if_neg]
                simp [List.isPrefixOf]
                exact fun e => hc e.symm
              rw [this, HK.out]
              rfl
            have hq : ¬ (c.toNat : Int) = 59 := byte_ne' (k := 59) (by omega) hc
            have hq2 : ((c.toNat : Int) == 59) = false := beq_eq_false_iff_ne.2 hq
            clear hD0 hc
            go_wp2_with (first
              | (go_at_call 57; refine (hNb _).mono ?_; rintro e w1 ⟨rfl, hw⟩; rw [hw]; clear hw)
              | (go_at_call 12; refine (hN _).mono ?_; rintro e w1 ⟨rfl, hb1⟩))
            go_ret3
            rw [HR.out]
            exact ⟨by simp [nxV], hb1⟩
set_option maxHeartbeats 2000000 in
set_option maxRecDepth 100000 in
theorem Rnumber_x (s pre D rest : List UInt8) (hs : s = pre ++ (D ++ rest)) (hpl : pre.length = 3) (hD : D.all (Rf.dOk true) = true) (hr : ∀ c ∈ rest.head?, Rf.dOk true c = false) (hz : s.length ≤ 1000000000) (w : World) (h2 : 2 < (str s).size) (q1 : ((str s)[2].toNat : Int) = 120) :
    Calls Tryd.prog 32 #[.string (str s)] w fun e w' => e = .returned (nxV (numR true 3 D rest)) ∧ Below w.heap.size w w' := by
  have hsz := str_size s
  have hsl : s.length = 3 + D.length + rest.length := by rw [hs]; simp only [List.length_append]; omega
  have h2i : (2 : Int) < (s.length : Int) := by omega
  have HS : Hid (s = pre ++ (D ++ rest)) := hs
  have HR0 : Hid (∀ c ∈ rest.head?, Rf.dOk true c = false) := hr
  have HD0 : Hid (D.all (Rf.dOk true) = true) := hD
  have HSL : Hid (s.length = 3 + D.length + rest.length) := hsl
  clear hs hr hD hsl
  have r1 : (((str s)[2].toNat : Int) == 120) = true := by rw [q1]; rfl
  go_enter Tryd.func32, Tryd.ntmps32
  go_wp2
  go_loop [6, 7] (fun i n => ∃ (k : Nat) (v : Int), 3 ≤ k ∧ k ≤ 3 + D.length ∧ i = .int .i64 k ∧ n = .int .u64 v ∧ 0 ≤ v ∧ v ≤ 4294967295 ∧ Hid (v = Rf.foldCap 16 0 (D.take (k - 3)))) (fun i _ => 3 + D.length - (intOf i).toNat)
  case atStart => exact ⟨3, 0, by omega, by omega, rfl, rfl, by omega, by omega, by show _ = _; simp [Rf.foldCap]⟩
  case round =>
    obtain ⟨k, v, hk0, hk1, rfl, rfl, hv0, hv1, HV⟩ := hrel
    by_cases hlt : k < 3 + D.length
    · have hks : k < (str s).size := by have := HSL.out; omega
      have hki : (k : Int) < (s.length : Int) := by omega
      have hkd : k - 3 < D.length := by omega
      have he : (str s)[k] = D[k - 3] := by
        show s[k]'(by omega) = _
        have := mid_at pre D rest k (by omega) (by omega) (by rw [← HS.out]; omega)
        simp only [hpl] at this
        simp only [HS.out]
        exact this
      have hok : Rf.dOk true (str s)[k] = true := by
        rw [he]
        exact List.all_eq_true.1 HD0.out _ (List.getElem_mem hkd)
      have hn := nib_yes' true (str s)[k] hok
      have HN : Hid (min (v * 16 + Asc.hexV (Asc.bt (str s)[k])) 4294967295 = Rf.foldCap 16 0 (D.take (k + 1 - 3))) := by
        show _ = _
        rw [show k + 1 - 3 = k - 3 + 1 from by omega, Rf.foldCap_snoc 16 D _ hkd, ← HV.out, he]
      have hNb := RNibble_any (str s)[k]
      rw [hn.1] at hNb
      obtain ⟨_, hn0, hn1⟩ := hn
      have hn1' : Asc.hexV (Asc.bt (str s)[k]) < 16 := hn1
      clear hn1 he hok
      generalize Asc.hexV (Asc.bt (str s)[k]) = d at *
      go_wp2_with (go_at_call 57; refine (hNb _).mono ?_; rintro e w1 ⟨rfl, hw⟩; rw [hw]; clear hw)
      go_round
      case rel => exact ⟨k + 1, min (v * 16 + d) 4294967295, by omega, by omega, by go_num, by first | rfl | go_num, by omega, by omega, HN.out⟩
      case measure => simp [intOf]; omega
    · have hkk : k = 3 + D.length := by omega
      have HV' : Hid (v = Rf.foldCap 16 0 D) := by
        show _ = _
        rw [HV.out, show k - 3 = D.length from by omega, List.take_length]
      have HK : Hid (k = 3 + D.length) := hkk
      clear HV hlt hkk hk0 hk1
      cases rest with
      | nil =>
        have hki : ¬ (k : Int) < (s.length : Int) := by have := HK.out; have hsl := HSL.out; simp at hsl; omega
        by_cases hd : D.length = 0
        · have hD0 : D = [] := List.eq_nil_of_length_eq_zero hd
          have HR : Hid (numR true 3 D [] = (0, 0, false)) := by show _ = _; unfold numR; rw [if_pos hD0]
          have hde : ((k : Int) == 3) = true := by have := HK.out; rw [beq_iff_eq]; omega
          clear hD0 hd
          go_wp2
          go_ret3
          rw [HR.out]
          exact ⟨rfl, Below.refl _ _⟩
        · have hD0 : D ≠ [] := by intro e; rw [e] at hd; exact hd rfl
          have HR : Hid (numR true 3 D [] = (Rf.numSign v, k, true)) := by show _ = _; unfold numR; rw [if_neg hD0, HV'.out, HK.out]; rfl
          have hde : ¬ (k : Int) = 3 := by have := HK.out; omega
          have hde2 : ((k : Int) == 3) = false := beq_eq_false_iff_ne.2 hde
          have hN := fun W => RNumber11_any v W hv0 hv1
          clear hD0 hd
          go_wp2_with (go_at_call 12; refine (hN _).mono ?_; rintro e w1 ⟨rfl, hb1⟩)
          go_ret3
          rw [HR.out]
          exact ⟨by simp [nxV], hb1⟩
      | cons c q =>
        have hki : (k : Int) < (s.length : Int) := by have := HK.out; have hsl := HSL.out; simp at hsl; omega
        have hks : k < (str s).size := by omega
        have he : (str s)[k] = c := by
          show s[k]'(by omega) = _
          have hk := HK.out
          have := end_at pre D c q (by rw [← HS.out, hpl]; omega)
          simp only [hpl] at this
          simp only [HS.out, hk]
          exact this
        have hno := HR0.out c (by simp)
        have hn := nib_no' true c hno
        have hNb := RNibble_any c
        have hnb : 16 ≤ nibV (c.toNat : Int) ∧ nibV (c.toNat : Int) ≤ 16 := hn
        clear hn hno
        generalize nibV (c.toNat : Int) = d at *
        obtain ⟨hnb0, hnb1⟩ := hnb
        by_cases hd : D.length = 0
        · have hD0 : D = [] := List.eq_nil_of_length_eq_zero hd
          have HR : Hid (numR true 3 D (c :: q) = (0, 0, false)) := by show _ = _; unfold numR; rw [if_pos hD0]
          have hde : ((k : Int) == 3) = true := by have := HK.out; rw [beq_iff_eq]; omega
          clear hD0 hd
          go_wp2_with (go_at_call 57; refine (hNb _).mono ?_; rintro e w1 ⟨rfl, hw⟩; rw [hw]; clear hw)
          go_ret3
          rw [HR.out]
          exact ⟨rfl, Below.refl _ _⟩
        · have hD0 : D ≠ [] := by intro e; rw [e] at hd; exact hd rfl
          have hde : ¬ (k : Int) = 3 := by have := HK.out; omega
          have hde2 : ((k : Int) == 3) = false := beq_eq_false_iff_ne.2 hde
          have hN := fun W => RNumber11_any v W hv0 hv1
          by_cases hc : c = 59
          · have HR : Hid (numR true 3 D (c :: q) = (Rf.numSign v, k + 1, true)) := by show _ = _; unfold numR; rw [if_neg hD0, HV'.out, hc, HK.out]; rfl
            have hq : ((c.toNat : Int) == 59) = true := by rw [hc]; rfl
            clear hD0 hc
            go_wp2_with (first
              | (go_at_call 57; refine (hNb _).mono ?_; rintro e w1 ⟨rfl, hw⟩; rw [hw]; clear hw)
              | (go_at_call 12; refine (hN _).mono ?_; rintro e w1 ⟨rfl, hb1⟩))
            go_ret3
            rw [HR.out]
            exact ⟨by simp [nxV], hb1⟩
          · have HR : Hid (numR true 3 D (c :: q) = (Rf.numSign v, k, true)) := by
              show _ = _
              unfold numR
              rw [if_neg hD0, HV'.out]
              have : Rf.semi (c :: q) = 0 := by
                unfold Rf.semi
                rw [if_neg]
                simp [List.isPrefixOf]
                exact fun e => hc e.symm
              rw [this, HK.out]
              rfl
            have hq : ¬ (c.toNat : Int) = 59 := byte_ne' (k := 59) (by omega) hc
            have hq2 : ((c.toNat : Int) == 59) = false := beq_eq_false_iff_ne.2 hq
            clear hD0 hc
            go_wp2_with (first
              | (go_at_call 57; refine (hNb _).mono ?_; rintro e w1 ⟨rfl, hw⟩; rw [hw]; clear hw)
              | (go_at_call 12; refine (hN _).mono ?_; rintro e w1 ⟨rfl, hb1⟩))
            go_ret3
            rw [HR.out]
            exact ⟨by simp [nxV], hb1⟩
set_option maxHeartbeats 2000000 in
set_option maxRecDepth 100000 in
theorem Rnumber_X (s pre D rest : List UInt8) (hs : s = pre ++ (D ++ rest)) (hpl : pre.length = 3) (hD : D.all (Rf.dOk true) = true) (hr : ∀ c ∈ rest.head?, Rf.dOk true c = false) (hz : s.length ≤ 1000000000) (w : World) (h2 : 2 < (str s).size) (q1 : ¬ ((str s)[2].toNat : Int) = 120) (q2 : ((str s)[2].toNat : Int) = 88) :
    Calls Tryd.prog 32 #[.string (str s)] w fun e w' => e = .returned (nxV (numR true 3 D rest)) ∧ Below w.heap.size w w' := by
  have hsz := str_size s
  have hsl : s.length = 3 + D.length + rest.length := by rw [hs]; simp only [List.length_append]; omega
  have h2i : (2 : Int) < (s.length : Int) := by omega
  have HS : Hid (s = pre ++ (D ++ rest)) := hs
  have HR0 : Hid (∀ c ∈ rest.head?, Rf.dOk true c = false) := hr
  have HD0 : Hid (D.all (Rf.dOk true) = true) := hD
  have HSL : Hid (s.length = 3 + D.length + rest.length) := hsl
  clear hs hr hD hsl
  have r1 : (((str s)[2].toNat : Int) == 120) = false := beq_eq_false_iff_ne.2 q1
  have r2 : (((str s)[2].toNat : Int) == 88) = true := by rw [q2]; rfl
  go_enter Tryd.func32, Tryd.ntmps32
  go_wp2
  go_loop [6, 7] (fun i n => ∃ (k : Nat) (v : Int), 3 ≤ k ∧ k ≤ 3 + D.length ∧ i = .int .i64 k ∧ n = .int .u64 v ∧ 0 ≤ v ∧ v ≤ 4294967295 ∧ Hid (v = Rf.foldCap 16 0 (D.take (k - 3)))) (fun i _ => 3 + D.length - (intOf i).toNat)
  case atStart => exact ⟨3, 0, by omega, by omega, rfl, rfl, by omega, by omega, by show _ = _; simp [Rf.foldCap]⟩
  case round =>
    obtain ⟨k, v, hk0, hk1, rfl, rfl, hv0, hv1, HV⟩ := hrel
    by_cases hlt : k < 3 + D.length
    · have hks : k < (str s).size := by have := HSL.out; omega
      have hki : (k : Int) < (s.length : Int) := by omega
      have hkd : k - 3 < D.length := by omega
      have he : (str s)[k] = D[k - 3] := by
        show s[k]'(by omega) = _
        have := mid_at pre D rest k (by omega) (by omega) (by rw [← HS.out]; omega)
        simp only [hpl] at this
        simp only [HS.out]
        exact this
      have hok : Rf.dOk true (str s)[k] = true := by
        rw [he]
        exact List.all_eq_true.1 HD0.out _ (List.getElem_mem hkd)
      have hn := nib_yes' true (str s)[k] hok
      have HN : Hid (min (v * 16 + Asc.hexV (Asc.bt (str s)[k])) 4294967295 = Rf.foldCap 16 0 (D.take (k + 1 - 3))) := by
        show _ = _
        rw [show k + 1 - 3 = k - 3 + 1 from by omega, Rf.foldCap_snoc 16 D _ hkd, ← HV.out, he]
      have hNb := RNibble_any (str s)[k]
      rw [hn.1] at hNb
      obtain ⟨_, hn0, hn1⟩ := hn
      have hn1' : Asc.hexV (Asc.bt (str s)[k]) < 16 := hn1
      clear hn1 he hok
      generalize Asc.hexV (Asc.bt (str s)[k]) = d at *
      go_wp2_with (go_at_call 57; refine (hNb _).mono ?_; rintro e w1 ⟨rfl, hw⟩; rw [hw]; clear hw)
      go_round
      case rel => exact ⟨k + 1, min (v * 16 + d) 4294967295, by omega, by omega, by go_num, by first | rfl | go_num, by omega, by omega, HN.out⟩
      case measure => simp [intOf]; omega
    · have hkk : k = 3 + D.length := by omega
      have HV' : Hid (v = Rf.foldCap 16 0 D) := by
        show _ = _
        rw [HV.out, show k - 3 = D.length from by omega, List.take_length]
      have HK : Hid (k = 3 + D.length) := hkk
      clear HV hlt hkk hk0 hk1
      cases rest with
      | nil =>
        have hki : ¬ (k : Int) < (s.length : Int) := by have := HK.out; have hsl := HSL.out; simp at hsl; omega
        by_cases hd : D.length = 0
        · have hD0 : D = [] := List.eq_nil_of_length_eq_zero hd
          have HR : Hid (numR true 3 D [] = (0, 0, false)) := by show _ = _; unfold numR; rw [if_pos hD0]
          have hde : ((k : Int) == 3) = true := by have := HK.out; rw [beq_iff_eq]; omega
          clear hD0 hd
          go_wp2
          go_ret3
          rw [HR.out]
          exact ⟨rfl, Below.refl _ _⟩
        · have hD0 : D ≠ [] := by intro e; rw [e] at hd; exact hd rfl
          have HR : Hid (numR true 3 D [] = (Rf.numSign v, k, true)) := by show _ = _; unfold numR; rw [if_neg hD0, HV'.out, HK.out]; rfl
          have hde : ¬ (k : Int) = 3 := by have := HK.out; omega
          have hde2 : ((k : Int) == 3) = false := beq_eq_false_iff_ne.2 hde
          have hN := fun W => RNumber11_any v W hv0 hv1
          clear hD0 hd
          go_wp2_with (go_at_call 12; refine (hN _).mono ?_; rintro e w1 ⟨rfl, hb1⟩)
          go_ret3
          rw [HR.out]
          exact ⟨by simp [nxV], hb1⟩
      | cons c q =>
        have hki : (k : Int) < (s.length : Int) := by have := HK.out; have hsl := HSL.out; simp at hsl; omega
        have hks : k < (str s).size := by omega
        have he : (str s)[k] = c := by
          show s[k]'(by omega) = _
          have hk := HK.out
          have := end_at pre D c q (by rw [← HS.out, hpl]; omega)
          simp only [hpl] at this
          simp only [HS.out, hk]
          exact this
        have hno := HR0.out c (by simp)
        have hn := nib_no' true c hno
        have hNb := RNibble_any c
        have hnb : 16 ≤ nibV (c.toNat : Int) ∧ nibV (c.toNat : Int) ≤ 16 := hn
        clear hn hno
        generalize nibV (c.toNat : Int) = d at *
        obtain ⟨hnb0, hnb1⟩ := hnb
        by_cases hd : D.length = 0
        · have hD0 : D = [] := List.eq_nil_of_length_eq_zero hd
          have HR : Hid (numR true 3 D (c :: q) = (0, 0, false)) := by show _ = _; unfold numR; rw [if_pos hD0]
          have hde : ((k : Int) == 3) = true := by have := HK.out; rw [beq_iff_eq]; omega
          clear hD0 hd
          go_wp2_with (go_at_call 57; refine (hNb _).mono ?_; rintro e w1 ⟨rfl, hw⟩; rw [hw]; clear hw)
          go_ret3
          rw [HR.out]
          exact ⟨rfl, Below.refl _ _⟩
        · have hD0 : D ≠ [] := by intro e; rw [e] at hd; exact hd rfl
          have hde : ¬ (k : Int) = 3 := by have := HK.out; omega
          have hde2 : ((k : Int) == 3) = false := beq_eq_false_iff_ne.2 hde
          have hN := fun W => RNumber11_any v W hv0 hv1
          by_cases hc : c = 59
          · have HR : Hid (numR true 3 D (c :: q) = (Rf.numSign v, k + 1, true)) := by show _ = _; unfold numR; rw [if_neg hD0, HV'.out, hc, HK.out]; rfl
            have hq : ((c.toNat : Int) == 59) = true := by rw [hc]; rfl
            clear hD0 hc
            go_wp2_with (first
              | (go_at_call 57; refine (hNb _).mono ?_; rintro e w1 ⟨rfl, hw⟩; rw [hw]; clear hw)
              | (go_at_call 12; refine (hN _).mono ?_; rintro e w1 ⟨rfl, hb1⟩))
            go_ret3
            rw [HR.out]
            exact ⟨by simp [nxV], hb1⟩
          · have HR : Hid (numR true 3 D (c :: q) = (Rf.numSign v, k, true)) := by
              show _ = _
              unfold numR
              rw [if_neg hD0, HV'.out]
              have : Rf.semi (c :: q) = 0 := by
                unfold Rf.semi
                rw [if_neg]
                simp [List.isPrefixOf]
                exact fun e => hc e.symm
              rw [this, HK.out]
              rfl
            have hq : ¬ (c.toNat : Int) = 59 := byte_ne' (k := 59) (by omega) hc
            have hq2 : ((c.toNat : Int) == 59) = false := beq_eq_false_iff_ne.2 hq
            clear hD0 hc
            go_wp2_with (first
              | (go_at_call 57; refine (hNb _).mono ?_; rintro e w1 ⟨rfl, hw⟩; rw [hw]; clear hw)
              | (go_at_call 12; refine (hN _).mono ?_; rintro e w1 ⟨rfl, hb1⟩))
            go_ret3
            rw [HR.out]
            exact ⟨by simp [nxV], hb1⟩
end Go.Proofs.YtdllcnifkiebjaaDoor
