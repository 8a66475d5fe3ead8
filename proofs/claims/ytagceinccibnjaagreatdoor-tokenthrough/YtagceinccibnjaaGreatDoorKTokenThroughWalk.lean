/- The walk of the law TokenThrough, out of the contracts. -/
import Derived.Test.YtagceinccibnjaaGreatDoorKTkV
set_option linter.unusedVariables false
set_option linter.unusedSimpArgs false
namespace Go.Proofs.YtagceinccibnjaaGreatDoor.tokenThrough
open Go.RowKit
set_option maxHeartbeats 2000000 in
set_option maxRecDepth 100000 in
theorem walk (a0 : ByteArray) (w : World) (h0 : a0.size ≤ 140737488351232) (hT : EnvT w) :
    Calls Tryz.prog 6 #[.string a0] w fun e w' => e = .returned (.bool true) ∧ Below w.heap.size w w' := by
  have HT : Hid (EnvT w) := hT
  clear hT
  obtain ⟨l, rfl⟩ : ∃ l, a0 = str l := ⟨_, (str_self a0).symm⟩
  have hsz := str_size l
  have hB : Below w.heap.size w w := Below.refl _ _
  by_cases hl : 1500 < l.length
  · have hI : (1500 : Int) < (l.length : Int) := by omega
    go_enter Tryz.func6, Tryz.ntmps6
    go_wp2_with (go_at_call 10; refine (alive12_any _ HT.out).mono ?_; rintro e w2 ⟨rfl, hb2⟩)
    go_ret
    exact ⟨rfl, hb2⟩
  · have hI : ¬ (1500 : Int) < (l.length : Int) := by omega
    go_enter Tryz.func6, Tryz.ntmps6
    go_wp2
    go_loopw [3, 13] (fun y x wr => ∃ (k j : Nat), y = .int .i64 k ∧ x = .int .i64 j ∧ j ≤ k ∧ k ≤ l.length ∧ Below w.heap.size w wr) (fun _ x _ => l.length + 1 - (intOf x).toNat)
    case atStart => exact ⟨0, 0, rfl, rfl, Nat.le_refl _, Nat.zero_le _, Below.refl _ _⟩
    case round =>
      obtain ⟨k, j, rfl, rfl, hjk, hk, hB1⟩ := hrel
      have hj : (j : Int) < (l.length : Int) + 1 := by omega
      have he : (str l).extract k l.length = str (l.drop k) := str_from l k
      have hN := NextT_any (l.drop k) wr (HT.out.below hB1) (by rw [List.length_drop]; omega)
      by_cases hkl : k = l.length
      · have hd : l.drop k = [] := List.drop_eq_nil_of_le (by omega)
        rw [hd, show Tk.next [] = (Tk.zero, 0) from rfl] at hN
        rw [hd] at he
        subst hkl
        have q1 : ((l.length : Int) == (l.length : Int)) = true := by simp
        clear hd
        have hN0 : Calls Tryz.prog 17 #[.string ByteArray.empty] wr (NextPost wr Tk.zero 0) := hN
        clear hN
        go_wp2_with fail
        go_at_call 17
        refine hN0.mono ?_
        rintro e w1 ⟨ad, ln, cp, rfl, o1, hb1⟩
        have HB := hideQ (bel hB1 hb1)
        have hb2 : Below w1.heap.size w1 (w1.alloc (.cells (kCells 0 [] (.slice ad ln cp) false []) 37)) := (Below.refl _ _).alloc (Nat.le_refl _) _
        have HB2 := hideQ (bel HB.out hb2)
        have HA := hideQ (alive12_any _ (HT.out.below HB2.out))
        clear hN0 o1 hb1 hb2 hB1
        go_wp2_with (go_at_call 10; refine HA.out.mono ?_; rintro e w2 ⟨rfl, hb3⟩)
        go_ret
        exact ⟨rfl, bel HB2.out hb3⟩
      · have hne : l.drop k ≠ [] := fun e => by
          have := congrArg List.length e
          rw [List.length_drop, List.length_nil] at this
          omega
        obtain ⟨n1, n2, n3, n4⟩ := Tk.next_len (l.drop k) hne
        rw [List.length_drop] at n2 n4
        have qk : ((k : Int) == (l.length : Int)) = false := by rw [beq_eq_false_iff_ne]; omega
        generalize (Tk.next (l.drop k)).2 = n at *
        generalize (Tk.next (l.drop k)).1 = t at *
        obtain ⟨kk, kn, ka, ks, kx⟩ := t
        simp only at n3 n4
        clear hne
        generalize l.drop k = r at *
        have i1 : ¬ (n : Int) < 1 := by omega
        have i2 : ¬ (l.length : Int) - (k : Int) < (n : Int) := by omega
        have i3 : ¬ (kk : Int) < 0 := by omega
        have i4 : ¬ (5 : Int) < (kk : Int) := by omega
        have hkn : k + n ≤ l.length := by omega
        by_cases h0 : kk = 0
        · subst h0
          have n5 := n4 rfl
          have q2 : ((n : Int) != (l.length : Int) - (k : Int)) = false := by
            unfold bne
            rw [Bool.not_eq_false', beq_iff_eq]
            omega
          clear n4 n5 n3
          go_wp2_with fail
          go_at_call 17
          refine hN.mono ?_
          rintro e w1 ⟨ad, ln, cp, rfl, o1, hb1⟩
          have HB := hideQ (bel hB1 hb1)
          have hb2 : Below w1.heap.size w1 (w1.alloc (.cells (kCells 0 kn (.slice ad ln cp) ks kx) 37)) := (Below.refl _ _).alloc (Nat.le_refl _) _
          have HB2 := hideQ (bel HB.out hb2)
          clear hN o1 hb1 hb2 hB1
          go_wp2
          go_roundw
          case rel => exact ⟨k + n, j + 1, by go_num, by go_num, by omega, by omega, HB2.out⟩
          case measure => simp [intOf]; omega
        · have q2 : ((kk : Int) == 0) = false := kind_no h0
          clear n4 n3 h0
          go_wp2_with fail
          go_at_call 17
          refine hN.mono ?_
          rintro e w1 ⟨ad, ln, cp, rfl, o1, hb1⟩
          have HB := hideQ (bel hB1 hb1)
          have hb2 : Below w1.heap.size w1 (w1.alloc (.cells (kCells kk kn (.slice ad ln cp) ks kx) 37)) := (Below.refl _ _).alloc (Nat.le_refl _) _
          have HB2 := hideQ (bel HB.out hb2)
          clear hN o1 hb1 hb2 hB1
          go_wp2
          go_roundw
          case rel => exact ⟨k + n, j + 1, by go_num, by go_num, by omega, by omega, HB2.out⟩
          case measure => simp [intOf]; omega
end Go.Proofs.YtagceinccibnjaaGreatDoor.tokenThrough
