/- Contracts of the reference's spoken and Clock. -/
import Derived.Test.YtnklbeldheocmaaGreatDoorKDR8
import Derived.Test.YtnklbeldheocmaaGreatDoorKDT
namespace Go.Proofs.YtnklbeldheocmaaGreatDoor
open Go.RowKit
/-- What comes of a spoken time's parts, from the second on, and from the third on. -/
def cont2 (ps : List (List UInt8)) (t : Int) : Option Int := match Dat.partR ps 2 with
  | none => none
  | some s => some (t * 60 + s)
def cont1 (ps : List (List UInt8)) (t : Int) : Option Int := match Dat.partR ps 1 with
  | none => none
  | some m => cont2 ps (t * 60 + m)
theorem parts_cont {p : List UInt8} {qs : List (List UInt8)} {more : Int} (h3 : ¬ 3 < (p :: qs).length) (h2 : ¬ 2 < p.length) (h1 : ¬ Dat.two p p.length < 1) (h12 : ¬ 12 < Dat.two p p.length) :
    Dat.partsR (p :: qs) more = cont1 (p :: qs) (Dat.two p p.length % 12 + more) := by
  unfold Dat.partsR
  show (if 3 < (p :: qs).length ∨ 2 < p.length then none else if Dat.two p p.length < 1 ∨ 12 < Dat.two p p.length then none else _) = _
  rw [if_neg (by rintro (h | h); exact h3 h; exact h2 h), if_neg (by rintro (h | h); exact h1 h; exact h12 h)]
  unfold cont1
  cases Dat.partR (p :: qs) 1 with
  | none => rfl
  | some m =>
    unfold cont2
    rfl
theorem parts_bad {p : List UInt8} {qs : List (List UInt8)} {more : Int} (h : (3 < (p :: qs).length ∨ 2 < p.length) ∨ (Dat.two p p.length < 1 ∨ 12 < Dat.two p p.length)) : Dat.partsR (p :: qs) more = none := by
  unfold Dat.partsR
  show (if 3 < (p :: qs).length ∨ 2 < p.length then none else if Dat.two p p.length < 1 ∨ 12 < Dat.two p p.length then none else _) = _
  by_cases h0 : 3 < (p :: qs).length ∨ 2 < p.length
  · rw [if_pos h0]
  · rw [if_neg h0]
    rcases h with h | h
    · exact absurd h h0
    · rw [if_pos h]
theorem halfR_bd {l : List UInt8} {k : Int} {n : Nat} (h : Dat.halfR l = some (k, n)) : (k = 0 ∨ k = 12) ∧ n ≤ l.length := by
  have hb := Dat.half_back h
  have := hb.2
  refine ⟨?_, hb.1⟩
  unfold Dat.halfN at this
  split at this
  · exact .inl (Option.some.inj this).symm
  · split at this
    · exact .inr (Option.some.inj this).symm
    · cases this
theorem part_none {ps : List (List UInt8)} {i : Nat} (h : ps.length ≤ i) : Dat.partR ps i = some 0 := by
  unfold Dat.partR
  rw [List.getElem?_eq_none h]
theorem part_some {ps : List (List UInt8)} {i : Nat} {p : List UInt8} (h : ps[i]? = some p) : Dat.partR ps i = if Dat.two p 2 < 0 ∨ 59 < Dat.two p 2 then none else some (Dat.two p 2) := by
  unfold Dat.partR
  rw [h]
theorem reads_open {w : World} {v : Value} {ps : List (List UInt8)} (h : ReadsTexts w v ps) (hp : 0 < ps.length) : ∃ b o c, v = .slice (some ⟨b, o, none⟩) ps.length c ∧ ps.length ≤ c ∧ ∀ (j : Nat) t, ps[j]? = some t → w.cell? ⟨b, o + j, none⟩ = some (.string (str t)) := by
  rcases h with ⟨a, c, _, rfl⟩ | ⟨b, o, c, h1, h2, h3⟩
  · simp at hp
  · exact ⟨b, o, c, h1, h2, h3⟩
theorem some_part (ps : List (List UInt8)) (k : Nat) (h : k < ps.length) : ∃ x, ps[k]? = some x := ⟨ps[k], List.getElem?_eq_getElem h⟩
set_option maxRecDepth 100000 in
set_option maxHeartbeats 1000000 in
theorem Rspoken_any (l : List UInt8) (w : World) (hz0 : l.length ≤ 100000) :
    Calls Tryz.prog 22 #[.string (str l)] w fun e w' => e = .returned (timeV (Dat.spokenR l)) ∧ Below w.heap.size w w' := by
  have hz : (str l).size = l.length := str_size l
  have hH := Rhalf_any l w hz0
  cases hh : Dat.halfR l with
  | none =>
    have hd : Dat.spokenR l = none := by unfold Dat.spokenR; rw [hh]
    rw [hd]
    rw [hh] at hH
    unfold halfV at hH
    clear hd hh
    go_enter Tryz.func22, Tryz.ntmps22
    go_wp2_with (first
      | (go_at_call 41; refine hH.mono ?_; rintro e w1 ⟨rfl, hb⟩))
    go_ret2
    exact ⟨rfl, hb⟩
  | some x =>
    obtain ⟨more, n⟩ := x
    obtain ⟨hk, hn⟩ := halfR_bd hh
    have hd : Dat.spokenR l = Dat.partsR (Asc.split (l.take (l.length - n)) 58) more := by unfold Dat.spokenR; rw [hh]
    rw [hh] at hH
    unfold halfV at hH
    have m0 : 0 ≤ more := by omega
    have m1 : more ≤ 12 := by omega
    have hu : (l.take (l.length - n)).length ≤ 100000 := by simp; omega
    have hs := fun w => RSplit_any (str (l.take (l.length - n))) 58 w (by rw [str_size]; omega)
    simp only [str_data] at hs
    have w1 : IntKind.i64.wrap ((l.length : Int) - (n : Int)) = (l.length : Int) - (n : Int) := by rw [IntKind.wrap_i64]; omega
    have e1 : (str l).extract 0 (l.length - n) = str (l.take (l.length - n)) := str_to l _
    have eI : (l.length : Int) - (n : Int) = ((l.length - n : Nat) : Int) := by omega
    have hps := Asc.split_pos 58 (l.take (l.length - n))
    generalize Dat.spokenR l = X at hd
    have HX : Hid _ := hd
    have hlen := Asc.split_part 58 (l.take (l.length - n))
    generalize Asc.split (l.take (l.length - n)) 58 = ps at *
    obtain ⟨p, qs, rfl⟩ : ∃ p qs, ps = p :: qs := by
      cases ps with
      | nil => simp at hps
      | cons p qs => exact ⟨p, qs, rfl⟩
    have nI : (n : Int) ≤ (l.length : Int) := by omega
    have HPS : Hid (∀ x ∈ (p :: qs), x.length ≤ 100000) := fun x hx => by have := hlen x hx; omega
    clear hd hh hk hlen
    have hs2 : ∀ w, Calls Tryz.prog 42 #[.string (str (l.take (l.length - n))), .int .u8 58] w fun e w' => ∃ v, e = .returned v ∧ OwnsTexts w' w.heap.size v (p :: qs) ∧ Below w.heap.size w w' := hs
    clear hs
    generalize l.take (l.length - n) = u at *
    have b0 := two_bd p p.length
    have hpl : p.length ≤ 100000 := HPS.out p (by simp)
    obtain ⟨N, hN⟩ : ∃ N, (p :: qs).length = N := ⟨_, rfl⟩
    have hN1 : 1 ≤ N := by rw [← hN]; simp
    have hzp : (str p).size = p.length := str_size p
    by_cases h3 : 3 < N
    · have HE : Hid (X = none) := by show _ = _; rw [HX.out, parts_bad (.inl (.inl (by rw [hN]; exact h3)))]
      have h3I : (3 : Int) < (N : Int) := by omega
      clear HX
      go_enter Tryz.func22, Tryz.ntmps22
      go_wp2_with (first
        | (go_at_call 41; refine hH.mono ?_; rintro e w1 ⟨rfl, hb⟩)
        | (go_at_call 42; refine (hs2 _).mono ?_; rintro e w2 ⟨v, rfl, hown, hb2⟩; obtain ⟨b, o, c, rfl, hc, hr⟩ := reads_open hown.reads (by simp); have hB2 := hb.trans (hb2.mono hb.size); have c0 : w2.cell? ⟨b, o, none⟩ = some (.string (str p)) := hr 0 p rfl; have HR : Hid (∀ (j : Nat) x, (p :: qs)[j]? = some x → w2.cell? ⟨b, o + j, none⟩ = some (.string (str x))) := hr; clear hr hown hs2 hb2 hb; rw [hN] at hc; rw [hN]))
      go_ret2
      exact ⟨by rw [HE.out]; rfl, hB2⟩
    have h3I : ¬ (3 : Int) < (N : Int) := by omega
    by_cases hp2 : 2 < p.length
    · have HE : Hid (X = none) := by show _ = _; rw [HX.out, parts_bad (.inl (.inr hp2))]
      have h2I : (2 : Int) < (p.length : Int) := by omega
      have nI0 : (0 : Int) < (N : Int) := by omega
      clear HX
      go_enter Tryz.func22, Tryz.ntmps22
      go_wp2_with (first
        | (go_at_call 41; refine hH.mono ?_; rintro e w1 ⟨rfl, hb⟩)
        | (go_at_call 42; refine (hs2 _).mono ?_; rintro e w2 ⟨v, rfl, hown, hb2⟩; obtain ⟨b, o, c, rfl, hc, hr⟩ := reads_open hown.reads (by simp); have hB2 := hb.trans (hb2.mono hb.size); have c0 : w2.cell? ⟨b, o, none⟩ = some (.string (str p)) := hr 0 p rfl; have HR : Hid (∀ (j : Nat) x, (p :: qs)[j]? = some x → w2.cell? ⟨b, o + j, none⟩ = some (.string (str x))) := hr; clear hr hown hs2 hb2 hb; rw [hN] at hc; rw [hN]))
      go_ret2
      exact ⟨by rw [HE.out]; rfl, hB2⟩
    have h2I : ¬ (2 : Int) < (p.length : Int) := by omega
    have nI0 : (0 : Int) < (N : Int) := by omega
    go_enter Tryz.func22, Tryz.ntmps22
    go_wp2_with (first
      | (go_at_call 41; refine hH.mono ?_; rintro e w1 ⟨rfl, hb⟩)
      | (go_at_call 42; refine (hs2 _).mono ?_; rintro e w2 ⟨v, rfl, hown, hb2⟩; obtain ⟨b, o, c, rfl, hc, hr⟩ := reads_open hown.reads (by simp); have hB2 := hb.trans (hb2.mono hb.size); have c0 : w2.cell? ⟨b, o, none⟩ = some (.string (str p)) := hr 0 p rfl; have HR : Hid (∀ (j : Nat) x, (p :: qs)[j]? = some x → w2.cell? ⟨b, o + j, none⟩ = some (.string (str x))) := hr; clear hr hown hs2 hb2 hb; rw [hN] at hc; rw [hN]))
    go_loopw [7, 8] (fun t7 i8 wr => ∃ (k : Nat) (t : Int), k ≤ 3 ∧ i8 = .int .i64 k ∧ t7 = .int .i64 t ∧ 0 ≤ t ∧ t ≤ 100000 ∧ Hid (∀ (j : Nat) x, (p :: qs)[j]? = some x → wr.cell? ⟨b, o + j, none⟩ = some (.string (str x))) ∧ Hid (Below w.heap.size w wr) ∧ Hid ((k = 0 → t = 0) ∧ (k = 1 → X = cont1 (p :: qs) t ∧ t ≤ 24) ∧ (k = 2 → X = cont2 (p :: qs) t ∧ t ≤ 1500) ∧ (k = 3 → X = some t))) (fun _ i _ => 3 - (intOf i).toNat)
    case atStart => exact ⟨0, 0, by omega, rfl, rfl, by omega, by omega, HR, hB2, ⟨fun _ => rfl, fun h => by omega, fun h => by omega, fun h => by omega⟩⟩
    case round =>
    obtain ⟨k, t, hk, rfl, rfl, t0, t1, HRr, HBr, HK⟩ := hrel
    clear HR hB2 c0
    match k, hk with
    | 0, _ =>
      obtain rfl : t = 0 := HK.out.1 rfl
      have c0 : wr.cell? ⟨b, o, none⟩ = some (.string (str p)) := HRr.out 0 p rfl
      have cX := fun w => Rtwo_str p (p.length : Int) p.length rfl w (by omega)
      have HC := fun (h1 : ¬ Dat.two p p.length < 1) (h12 : ¬ 12 < Dat.two p p.length) => parts_cont (p := p) (qs := qs) (more := more) (by rw [hN]; exact h3) hp2 h1 h12
      have HD := fun (h : Dat.two p p.length < 1 ∨ 12 < Dat.two p p.length) => parts_bad (p := p) (qs := qs) (more := more) (.inr h)
      have HC2 : Hid _ := HC
      have HD2 : Hid _ := HD
      clear HC HD
      generalize Dat.two p p.length = x at *
      by_cases hbad : x < 1 ∨ 12 < x
      · have HE : Hid (X = none) := by show _ = _; rw [HX.out, HD2.out hbad]
        clear HX HC2 HD2
        go_wp2
        go_quiet ((go_at_call 15; exact Calls.quiet_of_same (cX _)))
        go_wp2
        all_goals go_ret2
        all_goals exact ⟨by rw [HE.out]; rfl, below_drewN HBr.out nq⟩
      · have HE : Hid (X = cont1 (p :: qs) (x % 12 + more)) := by show _ = _; rw [HX.out, HC2.out (by omega) (by omega)]
        have x1 : ¬ x < 1 := by omega
        have x12 : ¬ 12 < x := by omega
        clear HX HC2 HD2
        go_wp2
        go_quiet ((go_at_call 15; exact Calls.quiet_of_same (cX _)))
        go_wp2
        go_roundw
        case rel => exact ⟨1, x % 12 + more, by omega, rfl, by first | rfl | go_num, by omega, by omega, HRr, below_drewN HBr.out nq, ⟨fun h => by omega, fun _ => ⟨HE.out, by omega⟩, fun h => by omega, fun h => by omega⟩⟩
        case measure => simp [intOf]
    | 1, _ =>
      obtain ⟨hX1, hX2⟩ := HK.out.2.1 rfl
      have HX1 : Hid _ := hX1
      clear hX1
      by_cases hN1 : 1 < N
      · obtain ⟨p1, hp1⟩ := some_part (p :: qs) 1 (by omega)
        have cc : wr.cell? ⟨b, o + 1, none⟩ = some (.string (str p1)) := HRr.out 1 p1 hp1
        have cX := fun w => Rtwo_str p1 2 2 rfl w (by have := HPS.out p1 (List.mem_of_getElem? hp1); omega)
        have HP1 : Hid _ := part_some hp1
        have bx := two_bd p1 2
        have nI1 : (1 : Int) < (N : Int) := by omega
        generalize Dat.two p1 2 = x at *
        by_cases hbad : x < 0 ∨ 59 < x
        · have HE : Hid (X = none) := by
            show _ = _
            rw [HX1.out]
            unfold cont1
            rw [HP1.out, if_pos hbad]
          clear HP1 HX1
          go_wp2_with (first
            | (go_at_call 15; refine (cX _).mono ?_; rintro e w9 ⟨rfl, hw9⟩; rw [hw9]; clear hw9))
          all_goals go_ret2
          all_goals exact ⟨by rw [HE.out]; rfl, HBr.out⟩
        · have HE : Hid (X = cont2 (p :: qs) (t * 60 + x)) := by
            show _ = _
            rw [HX1.out]
            unfold cont1
            rw [HP1.out, if_neg hbad]
          have x0 : ¬ x < 0 := by omega
          have x1 : ¬ 59 < x := by omega
          clear HP1 HX1
          go_wp2_with (first
            | (go_at_call 15; refine (cX _).mono ?_; rintro e w9 ⟨rfl, hw9⟩; rw [hw9]; clear hw9))
          go_roundw
          case rel => exact ⟨2, t * 60 + x, by omega, rfl, by first | rfl | go_num, by omega, by omega, HRr, HBr, ⟨fun h => by omega, fun h => by first | omega | exact ⟨HE.out, by omega⟩, fun h => by first | omega | exact ⟨HE.out, by omega⟩, fun h => by first | omega | exact HE.out⟩⟩
          case measure => simp [intOf]
      · have HE : Hid (X = cont2 (p :: qs) (t * 60 + 0)) := by
          show _ = _
          rw [HX1.out]
          unfold cont1
          rw [part_none (by omega)]
        have nI1 : ¬ (1 : Int) < (N : Int) := by omega
        clear HX1
        go_wp2
        go_roundw
        case rel => exact ⟨2, t * 60 + 0, by omega, rfl, by first | rfl | go_num, by omega, by omega, HRr, HBr, ⟨fun h => by omega, fun h => by first | omega | exact ⟨HE.out, by omega⟩, fun h => by first | omega | exact ⟨HE.out, by omega⟩, fun h => by first | omega | exact HE.out⟩⟩
        case measure => simp [intOf]
    | 2, _ =>
      obtain ⟨hX1, hX2⟩ := HK.out.2.2.1 rfl
      have HX1 : Hid _ := hX1
      clear hX1
      by_cases hN2 : 2 < N
      · obtain ⟨p1, hp1⟩ := some_part (p :: qs) 2 (by omega)
        have cc : wr.cell? ⟨b, o + 2, none⟩ = some (.string (str p1)) := HRr.out 2 p1 hp1
        have cX := fun w => Rtwo_str p1 2 2 rfl w (by have := HPS.out p1 (List.mem_of_getElem? hp1); omega)
        have HP1 : Hid _ := part_some hp1
        have bx := two_bd p1 2
        have nI2 : (2 : Int) < (N : Int) := by omega
        generalize Dat.two p1 2 = x at *
        by_cases hbad : x < 0 ∨ 59 < x
        · have HE : Hid (X = none) := by
            show _ = _
            rw [HX1.out]
            unfold cont2
            rw [HP1.out, if_pos hbad]
          clear HP1 HX1
          go_wp2_with (first
            | (go_at_call 15; refine (cX _).mono ?_; rintro e w9 ⟨rfl, hw9⟩; rw [hw9]; clear hw9))
          all_goals go_ret2
          all_goals exact ⟨by rw [HE.out]; rfl, HBr.out⟩
        · have HE : Hid (X = some (t * 60 + x)) := by
            show _ = _
            rw [HX1.out]
            unfold cont2
            rw [HP1.out, if_neg hbad]
          have x0 : ¬ x < 0 := by omega
          have x1 : ¬ 59 < x := by omega
          clear HP1 HX1
          go_wp2_with (first
            | (go_at_call 15; refine (cX _).mono ?_; rintro e w9 ⟨rfl, hw9⟩; rw [hw9]; clear hw9))
          go_roundw
          case rel => exact ⟨3, t * 60 + x, by omega, rfl, by first | rfl | go_num, by omega, by omega, HRr, HBr, ⟨fun h => by omega, fun h => by first | omega | exact ⟨HE.out, by omega⟩, fun h => by first | omega | exact ⟨HE.out, by omega⟩, fun h => by first | omega | exact HE.out⟩⟩
          case measure => simp [intOf]
      · have HE : Hid (X = some (t * 60 + 0)) := by
          show _ = _
          rw [HX1.out]
          unfold cont2
          rw [part_none (by omega)]
        have nI2 : ¬ (2 : Int) < (N : Int) := by omega
        clear HX1
        go_wp2
        go_roundw
        case rel => exact ⟨3, t * 60 + 0, by omega, rfl, by first | rfl | go_num, by omega, by omega, HRr, HBr, ⟨fun h => by omega, fun h => by first | omega | exact ⟨HE.out, by omega⟩, fun h => by first | omega | exact ⟨HE.out, by omega⟩, fun h => by first | omega | exact HE.out⟩⟩
        case measure => simp [intOf]
    | 3, _ =>
      have HE : Hid (X = some t) := HK.out.2.2.2 rfl
      go_wp2
      go_ret2
      exact ⟨by rw [HE.out]; rfl, HBr.out⟩
set_option maxRecDepth 100000 in
set_option maxHeartbeats 1000000 in
theorem RClock_any (l : List UInt8) (w : World) (hz0 : l.length ≤ 100000) :
    Calls Tryz.prog 8 #[.string (str l)] w fun e w' => e = .returned (timeV (clkR l)) ∧ Below w.heap.size w w' := by
  have h1 := Rtime_any l w hz0
  have h2 := fun w => Rspoken_any l w hz0
  unfold clkR
  cases ht : Dat.timeR l with
  | some t =>
    rw [ht] at h1
    unfold timeV at h1
    clear h2 ht
    go_enter Tryz.func8, Tryz.ntmps8
    go_wp2_with (first
      | (go_at_call 21; refine h1.mono ?_; rintro e w1 ⟨rfl, k, hk⟩; have hn := below_drewN (Below.refl w.heap.size w) k; rw [← hk] at hn; clear hk))
    go_ret2
    exact ⟨rfl, hn⟩
  | none =>
    rw [ht] at h1
    simp only []
    unfold timeV at h1 h2 ⊢
    generalize (Dat.spokenR l).getD 0 = v at h2
    generalize optE (Dat.spokenR l) = er at h2
    clear ht
    go_enter Tryz.func8, Tryz.ntmps8
    go_wp2_with (first
      | (go_at_call 21; refine h1.mono ?_; rintro e w1 ⟨rfl, k, hk⟩; have hn := below_drewN (Below.refl w.heap.size w) k; rw [← hk] at hn; clear hk)
      | (go_at_call 22; refine (h2 _).mono ?_; rintro e w2 ⟨rfl, hb2⟩))
    go_ret2
    exact ⟨rfl, hn.trans (hb2.mono hn.size)⟩
end Go.Proofs.YtnklbeldheocmaaGreatDoor
