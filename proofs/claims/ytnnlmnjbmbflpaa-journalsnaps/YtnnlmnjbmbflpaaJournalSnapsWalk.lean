/- The walk of the law JournalSnaps, out of the contracts. -/
import Derived.Test.YtnnlmnjbmbflpaaJnV
import Derived.Test.YtnnlmnjbmbflpaaJnQ
import Derived.Test.YtnnlmnjbmbflpaaArgJn
set_option linter.unusedVariables false
set_option linter.unusedSimpArgs false
namespace Go.Proofs.Ytnnlmnjbmbflpaa.journalSnaps
open Go.RowKit
set_option maxHeartbeats 8000000 in
set_option maxRecDepth 100000 in
theorem walk (v0 : Value) (old : List (List UInt8)) (v1 : Value) (young : List (List UInt8)) (a : Aj) (w : World) (h0 : ArgBB w v0 old) (h1 : ArgBB w v1 young) (h2 : AjOK w a) :
    Calls Try.prog 7 #[v0, v1, jV a] w fun e w' => e = .returned (.bool true) ∧ Below w.heap.size w w' := by
  obtain ⟨hv0, hl0, he0⟩ := h0
  obtain ⟨hv1, hl1, he1⟩ := h1
  have hA := alloc1 w (.cells (jX a) 63)
  have HBX : Hid (Box (w.alloc (.cells (jX a) 63)) w.heap.size a) := ⟨heap_new w _⟩
  have hszA : (w.alloc (.cells (jX a) 63)).heap.size = w.heap.size + 1 := size_alloc w _
  have HV0 := hide9 (hv0.below hA)
  have HV1 := hide9 (hv1.below hA)
  have HOK := hide9 (h2.below hA)
  have HL := hide9 (And.intro hl0 (And.intro he0 (And.intro hl1 he1)))
  have HBA := hide9 hA
  obtain ⟨a0, c0, rfl⟩ := hv0.form
  obtain ⟨a1, c1, rfl⟩ := hv1.form
  obtain ⟨ra, rc, hrv⟩ := h2.rb.form
  have hN := New_yes 1048576 (by decide) (by decide) (w.alloc (.cells (jX a) 63))
  rw [hszA] at hN
  obtain ⟨kind, rv, rs, n, beh, k0, k1, q0, q1⟩ := a
  simp only at hrv
  subst hrv
  clear hv0 hv1 h2 hl0 he0 hl1 he1 hA
  go_enter Try.func7, Try.ntmps7
  generalize hWA : w.alloc (.cells (jX ⟨kind, .slice ra rs.length rc, rs, n, beh, k0, k1, q0, q1⟩) 63) = wA at *
  go_wp2_with (fail)
  go_at_call 9
  refine hN.mono ?_
  rintro e w1 ⟨rfl, hD1, hB1⟩
  have hB1A : Below wA.heap.size wA w1 := by rw [hszA]; exact hB1
  have L1' := Lt.new (Below.refl _ wA) (by rw [hszA]; exact hD1) hB1A
  rw [hszA] at L1'
  have L1 := hide9 L1'
  have HBX1 := hide9 (HBX.out.below hB1A (by rw [hszA]; exact Nat.lt_succ_self _))
  have HR3 := hide9 (row3 w1 _ _ old young ⟨kind, .slice ra rs.length rc, rs, n, beh, k0, k1, q0, q1⟩ (HV0.out.below hB1A) HL.out.1 HL.out.2.1 (HV1.out.below hB1A) HL.out.2.2.1 HL.out.2.2.2 (HOK.out.below hB1A))
  have hF := far10_sum HR3.out (by simp [maxLen])
  have HB1A := hide9 hB1A
  clear hN hD1 hB1 hB1A HR3 L1'
  go_wp2_with ((with_reducible show wpList _ _ _ ({ op := Op.load 63 _, .. } :: _) _ _); refine wpList_load_Jg rfl _ rfl _ _ rfl _ HBX1.out.at'.range ?_)
  refine hF.mono ?_
  rintro e w2 ⟨⟨x, rfl, hx⟩, hB2⟩
  have hB12 := bel (alloc1 w1 (.cells (c24 (.slice a0 old.length c0) (.slice a1 young.length c1) ⟨kind, .slice ra rs.length rc, rs, n, beh, k0, k1, q0, q1⟩) 63)) hB2
  have L2 := hide9 (L1.out.below hB12)
  have HB2 := hide9 (bel HBA.out (bel HB1A.out hB12))
  have hAl := alive10_any w2
  clear hF L1 hB2 hB12 HB1A HBX1
  cases x with
  | true =>
    clear hx
    go_wp2_with (go_at_call 22; refine hAl.mono ?_; rintro e w3 ⟨rfl, hB3⟩)
    go_ret
    exact ⟨rfl, bel HB2.out hB3⟩
  | false =>
    obtain ⟨hx1, hx2⟩ := hx rfl
    have h20o : old.length ≤ 20 := hx1 (zA (.slice a0 old.length c0) old) (by simp)
    have h20y : young.length ≤ 20 := hx1 (zA (.slice a1 young.length c1) young) (by simp)
    have HCO : Hid (Jn.cost old + Jn.cost young ≤ 20000) := by
      show Jn.cost old + Jn.cost young ≤ 20000
      simp [Jn.total] at hx2
      omega
    clear hx hx1 hx2 hAl
    have hO := L2.out.opens rfl (by exact Jn.opens_new 1048576) (by exact Jn.recs_new 1048576)
    by_cases hq : Jn.fits (Dk.new 1048576) 0 old = 0
    · have HQ := hide9 hq
      have hAo := (Jn.fits_zero hq).1
      obtain ⟨r, HR⟩ : ∃ r, Hid (Jn.snaps ((Jn.base 1048576 old).arm n beh) [] young = r) := ⟨_, rfl⟩
      obtain ⟨d', es, e1, e2, e3⟩ := Jn.snaps_lost old young hAo HCO.out n beh k0 k1 q0 q1 HR.out
      have HE1 := hide9 e1
      have HE2 := hide9 e2
      have HE3 := hide9 e3
      have HE4 := hide9 (Jn.lost_start r.2 k0 k1 q0 q1)
      have HE5 : Hid ((Jn.lost r.2 k0 k1 q0 q1).on = true) := (rfl : (Jn.lost r.2 k0 k1 q0 q1).on = true)
      clear hq hAo e1 e2 e3 HCO
      go_wp2_with (first
        | (go_at_call 23; refine hO.mono ?_; rintro e w5 ⟨T5, jb, a5, c5, rfl, hJ5, hT5, -⟩; have C5 := hJ5.add (rs := old) ⟨hJ5.came HV0.out, by omega, HL.out.2.1⟩ (q := 0) (by exact HQ.out); rw [if_pos rfl] at C5; clear hO hJ5 hT5 L2)
        | (go_at_call 40; refine C5.mono ?_; rintro e w6 ⟨T6, rfl, hJ6, hT6⟩; have C6 := hJ6.commit (r := (0, Jn.base 1048576 old)) (by exact Jn.commits_new 1048576 old HQ.out); rw [if_pos rfl] at C6; dsimp only at C6; clear C5 hJ6 hT6)
        | (go_at_call 41; refine C6.mono ?_; rintro e w7 ⟨T7, rfl, hJ7, hT7⟩; have HX7 := HBX.out.below hJ7.bel (by rw [hszA]; exact Nat.lt_succ_self _); have x1 := HX7.n; have x2 := HX7.q; have C7 := hJ7.arm n HOK.out.n beh; clear C6 hJ7 hT7 HX7)
        | (go_at_call 29; refine C7.mono ?_; rintro e w8 ⟨T8, rfl, hJ8, hT8⟩; have C8 := hJ8.snap (rs := young) ⟨hJ8.came HV1.out, by omega, HL.out.2.2.2⟩ HR; clear C7 hJ8 hT8)
        | (go_at_call 43; refine C8.mono ?_; rintro e w9 ⟨T9, rfl, hJ9, hT9⟩; have C9 := hJ9.arm (-1) ⟨by decide, by decide⟩ false; clear C8 hJ9 hT9)
        | (go_at_call 29; refine C9.mono ?_; rintro e w10 ⟨T10, rfl, hJ10, hT10⟩; have C10 := hJ10.fail; clear C9 hJ10 hT10)
        | (go_at_call 30; refine C10.mono ?_; rintro e w11 ⟨T11, rfl, hJ11, hT11⟩; have HX11 := HBX.out.below hJ11.bel (by rw [hszA]; exact Nat.lt_succ_self _); have x4 := HX11.keep; have x6 := HX11.cut; have C11 := hJ11.start k0 k1 q0 q1 HOK.out.k0 HOK.out.k1 HE4.out; clear C10 hJ11 hT11 HX11)
        | ((with_reducible show wpList _ _ _ ({ op := Op.load 38 _, .. } :: _) _ _); refine wpList_load_mid rfl _ _ rfl _ 4 rfl _ _ x4 Try.underlying38 rfl size2i ?_)
        | ((with_reducible show wpList _ _ _ ({ op := Op.load 39 _, .. } :: _) _ _); refine wpList_load_mid rfl _ _ rfl _ 6 rfl _ _ x6 Try.underlying39 rfl size2b ?_)
        | (go_at_call 31; refine C11.mono ?_; rintro e w12 ⟨T12, rfl, hJ12, hT12⟩; have HJ12 := hide9 hJ12; clear C11 hJ12 hT12))
      refine (HJ12.out.lt.opens HE5.out HE1 HE2).mono ?_
      rintro e w13 ⟨T13, jb13, a13, c13, rfl, hJ13, hT13, hR13⟩
      have HB13 := hide9 (bel HBA.out hJ13.bel)
      have HRR := hide9 hR13.rbs
      have HO13 := hide9 (HV0.out.below hJ13.bel)
      have HY13 := hide9 (HV1.out.below hJ13.bel)
      have hg := HE3.out
      clear HE1 HE2 HE3 HE4 HE5 HR HJ12 hJ13 hT13 hR13 HQ HL HOK HBX HV0 HV1 hszA hWA x1 x2 x4 x6
      generalize r.1 = g at *
      rcases hg with ⟨rfl, rfl⟩ | ⟨rfl, rfl⟩ | ⟨rfl, rfl⟩ | ⟨rfl, rfl⟩
      · have C := Same_any HRR.out HY13.out (by omega) (by omega)
        rw [decide_eq_true rfl] at C
        go_wp2_with (first
          | (go_at_call 33; refine C.mono ?_; rintro e w14 ⟨rfl, hB14⟩; clear C)
          | (go_at_call 22; refine (alive10_any _).mono ?_; rintro e w15 ⟨rfl, hB15⟩))
        go_ret
        exact ⟨rfl, bel (bel HB13.out hB14) hB15⟩
      · have C := Same_any HRR.out HO13.out (by omega) (by omega)
        rw [decide_eq_true rfl] at C
        go_wp2_with (first
          | (go_at_call 33; refine C.mono ?_; rintro e w14 ⟨rfl, hB14⟩; clear C)
          | (go_at_call 22; refine (alive10_any _).mono ?_; rintro e w15 ⟨rfl, hB15⟩))
        go_ret
        exact ⟨rfl, bel (bel HB13.out hB14) hB15⟩
      · have C := Same_any HRR.out HO13.out (by omega) (by omega)
        rw [decide_eq_true rfl] at C
        go_wp2_with (first
          | (go_at_call 33; refine C.mono ?_; rintro e w14 ⟨rfl, hB14⟩; clear C)
          | (go_at_call 22; refine (alive10_any _).mono ?_; rintro e w15 ⟨rfl, hB15⟩))
        go_ret
        exact ⟨rfl, bel (bel HB13.out hB14) hB15⟩
      · by_cases hyo : es = old
        · subst hyo
          have C := Same_any HRR.out HO13.out (by omega) (by omega)
          rw [decide_eq_true rfl] at C
          go_wp2_with (first
            | (go_at_call 33; refine C.mono ?_; rintro e w14 ⟨rfl, hB14⟩; clear C)
            | (go_at_call 22; refine (alive10_any _).mono ?_; rintro e w15 ⟨rfl, hB15⟩))
          go_ret
          exact ⟨rfl, bel (bel HB13.out hB14) hB15⟩
        · have C := Same_any HRR.out HO13.out (by omega) (by omega)
          rw [decide_eq_false hyo] at C
          have C2 : Hid (∀ W, Below w13.heap.size w13 W → Calls Try.prog 33 #[.slice a13 es.length c13, .slice a1 es.length c1] W fun e w' => e = .returned (.bool true) ∧ Below W.heap.size W w') := fun W hW => by
            have := Same_any (HRR.out.below hW) (HY13.out.below hW) (by omega) (by omega)
            rwa [decide_eq_true rfl] at this
          go_wp2_with (first
            | (go_at_call 33; refine C.mono ?_; rintro e w14 ⟨rfl, hB14⟩; have C3 := C2.out w14 hB14; clear C C2)
            | (go_at_call 33; refine C3.mono ?_; rintro e w16 ⟨rfl, hB16⟩; clear C3)
            | (go_at_call 22; refine (alive10_any _).mono ?_; rintro e w15 ⟨rfl, hB15⟩))
          go_ret
          exact ⟨rfl, bel (bel (bel HB13.out hB14) hB16) hB15⟩
    · obtain ⟨q, HQ⟩ : ∃ q, Hid (Jn.fits (Dk.new 1048576) 0 old = q) := ⟨_, rfl⟩
      have hq9 : q ≠ 0 := by rw [← HQ.out]; exact hq
      have hqb : (q == 0) = false := by simpa using hq9
      clear hq
      go_wp2_with (first
        | (go_at_call 23; refine hO.mono ?_; rintro e w5 ⟨T5, jb, a5, c5, rfl, hJ5, hT5, -⟩; have C5 := hJ5.add (rs := old) ⟨hJ5.came HV0.out, by omega, HL.out.2.1⟩ (q := q) (by exact HQ.out); rw [if_neg hq9] at C5; clear hO hJ5 hT5 L2)
        | (go_at_call 40; refine C5.mono ?_; rintro e w6 ⟨T6, rfl, hJ6, hT6⟩; have C6 := hJ6.group (n := 0) (by exact (rfl : (Jn.frames []).length = 0)); have HB6 := hide9 (bel HBA.out hJ6.bel); clear C5 hJ6 hT6)
        | (go_at_call 28; refine C6.mono ?_; rintro e w7 ⟨rfl, he⟩; replace he := he.symm; subst he; clear C6)
        | (go_at_call 22; refine (alive10_any _).mono ?_; rintro e w15 ⟨rfl, hB15⟩))
      go_ret
      exact ⟨rfl, bel HB6.out hB15⟩
end Go.Proofs.Ytnnlmnjbmbflpaa.journalSnaps
