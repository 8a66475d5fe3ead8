/- The document's Scan. -/
import Derived.Test.YtcjbceidgaieaaaKJnP
set_option linter.unusedVariables false
set_option linter.unusedSimpArgs false
namespace Go.Proofs.Ytcjbceidgaieaaa
open Go.RowKit
namespace Jn
theorem first_le8 {m : List UInt8} (h : m.length ≤ 8) : first m = none := by
  cases hf : first m with
  | none => rfl
  | some r =>
    have h1 := (first_some hf).2.2
    have h2 := (first_some hf).1.1
    omega
theorem first_big {m : List UInt8} (h : num (m.take 4) < 1 ∨ 16384 < num (m.take 4) ∨ m.length - 8 < num (m.take 4)) : first m = none := by
  unfold first
  by_cases h8 : m.length < 8
  · rw [if_pos h8]
  · rw [if_neg h8, if_pos h]
theorem first_num {m r : List UInt8} (h : first m = some r) : r.length = num (m.take 4) ∧ r = (m.drop 8).take (num (m.take 4)) := by
  have h0 := (first_some h).2.2
  unfold first at h
  split at h
  · cases h
  · split at h
    · cases h
    · rename_i hn
      split at h
      · have := Option.some.inj h
        refine ⟨?_, this.symm⟩
        rw [← this, List.length_take, List.length_drop]
        omega
      · cases h
theorem first_eq {m : List UInt8} {N : Nat} (hN : num (m.take 4) = N) (h1 : 1 ≤ N) (h2 : N ≤ 16384) (h3 : N + 8 ≤ m.length) : (frame ((m.drop 8).take N) = m.take (8 + N) → first m = some ((m.drop 8).take N)) ∧ (frame ((m.drop 8).take N) ≠ m.take (8 + N) → first m = none) := by
  have hl : ((m.drop 8).take N).length = N := by rw [List.length_take, List.length_drop]; omega
  constructor
  · intro h
    have e : m = frame ((m.drop 8).take N) ++ m.drop (8 + N) := by rw [h, List.take_append_drop]
    have := first_frame ((m.drop 8).take N) (m.drop (8 + N)) ⟨by omega, by omega⟩
    rw [← e] at this
    exact this
  · intro h
    cases hf : first m with
    | none => rfl
    | some r =>
      obtain ⟨_, g2, _⟩ := first_some hf
      obtain ⟨g4, g5⟩ := first_num hf
      rw [hN] at g5 g4
      rw [g4] at g2
      rw [← g5] at h
      exact absurd g2.symm h
theorem num_take4 (m : List UInt8) (h : 4 ≤ m.length) : num (m.take 4) = (m[0].toNat * 256 + m[1].toNat) * 65536 + m[2].toNat * 256 + m[3].toNat := by
  rcases m with _ | ⟨a, _ | ⟨b, _ | ⟨c, _ | ⟨d, m⟩⟩⟩⟩ <;> simp at h
  simp [num]
  omega
end Jn
set_option maxHeartbeats 4000000 in
set_option maxRecDepth 100000 in
theorem RScan_any {w : World} {v : Value} {l : List UInt8} (hv : RB w v l) (hl : l.length ≤ 1100000) :
    Calls Try.prog 33 #[v] w fun e w' => ∃ u, e = .returned (.tuple #[u, .int .i64 ((Jn.frames (Jn.scan l)).length : Int)]) ∧ OR w' w.heap.size u (Jn.scan l) ∧ Below w.heap.size w w' := by
  obtain ⟨a, cp, rfl⟩ := RB.form hv
  have HV := hide9 hv
  clear hv
  go_enter Try.func33, Try.ntmps33
  go_wp2
  go_loopw [4, 5] (fun x s wr => ∃ (rs : List (List UInt8)) (xv : Value) (n : Nat), x = xv ∧ s = .int .i64 n ∧ Hid (Jn.scan l = rs ++ Jn.scan (l.drop n)) ∧ n ≤ l.length ∧ Hid (n = (Jn.frames rs).length) ∧ OR wr w.heap.size xv rs ∧ Below w.heap.size w wr) (fun _ s _ => l.length - (intOf s).toNat)
  case atStart => exact ⟨[], _, 0, rfl, rfl, (rfl : Jn.scan l = [] ++ Jn.scan (l.drop 0)), Nat.zero_le _, (rfl : 0 = (Jn.frames []).length), OR.nil _ _, Below.refl _ _⟩
  case round =>
    obtain ⟨rs, xv, n, rfl, rfl, HS, hn, HN, hO, hB⟩ := hrel
    have hdl : (l.drop n).length = l.length - n := List.length_drop
    have hrl : rs.length ≤ n := by rw [HN.out]; exact Jn.frames_length rs
    have HO := hide9 hO
    have HB := hide9 hB
    obtain ⟨xa, xc, rfl⟩ := hO.form
    by_cases h8 : l.length - n ≤ 8
    · have HE : Hid (Jn.scan l = rs) := by
        show Jn.scan l = rs
        rw [HS.out, Jn.scan_none (Jn.first_le8 (by omega)), List.append_nil]
      clear hO hB hdl
      have h8' : ¬ (8 : Int) < (l.length : Int) - (n : Int) := by omega
      go_wp2
      go_ret2
      rw [HE.out, ← HN.out]
      exact ⟨_, rfl, HO.out, HB.out⟩
    · have hR := HV.out.below hB
      obtain ⟨-, hc0, b, o, rfl, d0⟩ := RB.at hR (j := n) (by omega)
      obtain ⟨-, -, b', o', he1, d1⟩ := RB.at hR (j := n + 1) (by omega)
      cases he1
      obtain ⟨-, -, b', o', he2, d2⟩ := RB.at hR (j := n + 2) (by omega)
      cases he2
      obtain ⟨-, -, b', o', he3, d3⟩ := RB.at hR (j := n + 3) (by omega)
      cases he3
      obtain ⟨N, HNN⟩ : ∃ N, Hid (N = Jn.num ((l.drop n).take 4)) := ⟨_, rfl⟩
      have HX : Hid (((l[n].toNat : Int) * 256 + (l[n + 1].toNat : Int)) * 65536 + (l[n + 2].toNat : Int) * 256 + (l[n + 3].toNat : Int) = (N : Int)) := by
        show ((l[n].toNat : Int) * 256 + (l[n + 1].toNat : Int)) * 65536 + (l[n + 2].toNat : Int) * 256 + (l[n + 3].toNat : Int) = (N : Int)
        rw [HNN.out, Jn.num_take4 _ (by omega)]
        simp
      have t0 := l[n].toNat_lt
      have t1 := l[n + 1].toNat_lt
      have t2 := l[n + 2].toNat_lt
      have t3 := l[n + 3].toNat_lt
      generalize l[n].toNat = x0 at *
      generalize l[n + 1].toNat = x1 at *
      generalize l[n + 2].toNat = x2 at *
      generalize l[n + 3].toNat = x3 at *
      clear hO hB hdl hR
      have h8' : (8 : Int) < (l.length : Int) - (n : Int) := by omega
      go_wp2
      go_quiet (fail)
      rw [HX.out]
      have hB' := below_drewN (Below.refl wr.heap.size wr) nq
      generalize wr.drewN nq = W at *
      clear d0 d1 d2 d3 HX
      have hdl : (l.drop n).length = l.length - n := List.length_drop
      by_cases hb1 : N < 1
      · have HE : Hid (Jn.scan l = rs) := by
          show Jn.scan l = rs
          rw [HS.out, Jn.scan_none (Jn.first_big (by rw [← HNN.out, hdl]; omega)), List.append_nil]
        go_wp2
        go_ret2
        rw [HE.out, ← HN.out]
        exact ⟨_, rfl, HO.out.below hB', bel HB.out hB'⟩
      · by_cases hb2 : 16384 < N
        · have HE : Hid (Jn.scan l = rs) := by
            show Jn.scan l = rs
            rw [HS.out, Jn.scan_none (Jn.first_big (by rw [← HNN.out, hdl]; omega)), List.append_nil]
          go_wp2
          go_ret2
          rw [HE.out, ← HN.out]
          exact ⟨_, rfl, HO.out.below hB', bel HB.out hB'⟩
        · by_cases hb3 : l.length - n - 8 < N
          · have HE : Hid (Jn.scan l = rs) := by
              show Jn.scan l = rs
              rw [HS.out, Jn.scan_none (Jn.first_big (by rw [← HNN.out, hdl]; omega)), List.append_nil]
            go_wp2
            go_ret2
            rw [HE.out, ← HN.out]
            exact ⟨_, rfl, HO.out.below hB', bel HB.out hB'⟩
          · obtain ⟨ma, mc, s6, q6⟩ := cut_mid (HV.out.below (bel HB.out hB')) (n + 8) (n + 8 + N) (by omega) (by omega)
            obtain ⟨pa, pc, s8, q8⟩ := cut_mid (HV.out.below (bel HB.out hB')) n (n + 8 + N) (by omega) (by omega)
            rw [show n + 8 + N - (n + 8) = N by omega] at q6
            rw [show n + 8 + N - n = 8 + N by omega] at q8
            have s6' : ∀ W', (Instr.slice 27 (.slice (some ⟨b, o, none⟩) l.length cp) (some (.int .i64 ((n : Int) + 8))) (some (.int .i64 ((n : Int) + 8 + (N : Int)))) none).run Try.prog W' = .ok (.slice ma N mc) W' := fun W' => by
              have := s6 W'
              rw [show n + 8 + N - (n + 8) = N by omega] at this
              exact this
            have s8' : ∀ W', (Instr.slice 27 (.slice (some ⟨b, o, none⟩) l.length cp) (some (.int .i64 (n : Int))) (some (.int .i64 ((n : Int) + 8 + (N : Int)))) none).run Try.prog W' = .ok (.slice pa (8 + N) pc) W' := fun W' => by
              have := s8 W'
              rw [show n + 8 + N - n = 8 + N by omega] at this
              exact this
            have hf := Jn.first_eq (m := l.drop n) (N := N) HNN.out.symm (by omega) (by omega) (by omega)
            rw [List.drop_drop] at hf
            have HF := hide9 hf
            have hql : ((l.drop (n + 8)).take N).length = N := by rw [List.length_take, List.length_drop]; omega
            have HQ6 := hide9 q6
            have HQ8 := hide9 q8
            clear s6 s8 hf q6 q8 hdl
            generalize (l.drop (n + 8)).take N = rec at *
            generalize hM : (l.drop n).take (8 + N) = M at *
            have HM := hide9 hM
            clear hM
            go_wp2_with (first
              | (refine wpList_append_B rfl (.const (.slice none 0 0)) (.tmp 66) rfl W.heap.size (Nat.le_refl _) _ _ rfl (OwnsBytes.nil _ _) _ _ rfl HQ6.out (by simp; omega) ?_; intro L7 a7 c7 w7 H7 ho7 hB7; have e7 : L7 = rec := (by rw [H7.out]; rfl); subst e7; rw [hql] at ho7; have C7 := RFrame_yes ho7.reads ⟨by omega, by omega⟩; rw [hql] at C7)
              | (go_at_call 31; refine C7.mono ?_; rintro e w8 ⟨fa, fc, rfl, ho8, hB8⟩; clear C7))
            have K1 : ∀ q, (convert 27 9 (.slice fa (8 + N) fc)).run Try.prog (w8.drewN q) = .ok (.string (str (Jn.frame L7))) (w8.drewN q) := fun q => conv_RB (ho8.reads.below (below_drewN (Below.refl _ w8) q))
            have hB78 := bel hB7 hB8
            have K2 : ∀ q, (convert 27 9 (.slice pa (8 + N) pc)).run Try.prog (w8.drewN q) = .ok (.string (str M)) (w8.drewN q) := fun q => conv_RB (HQ8.out.below (bel hB78 (below_drewN (Below.refl _ w8) q)))
            by_cases hcm : Jn.frame L7 = M
            · have hs2 : ((str (Jn.frame L7)).toList == (str M).toList) = true := by rw [str_list, str_list]; simpa using hcm
              have HSN := hide9 (HF.out.1 hcm)
              go_quiet (fail)
              have hB9 := below_drewN (Below.refl w8.heap.size w8) nq
              generalize w8.drewN nq = w9 at *
              clear K1 K2 s6' s8'
              have hBW := bel HB.out hB'
              have hO9 := HO.out.below (bel hB' (bel hB78 hB9))
              have hA9 := alloc1 w9 (.cells #[.slice a7 N c7] 27)
              have hE : Hid (Jn.scan l = (rs ++ [L7]) ++ Jn.scan (l.drop (n + (8 + N)))) := by
                show Jn.scan l = _
                rw [HS.out, Jn.scan_some HSN.out, List.drop_drop, List.append_assoc, hql]
                rfl
              have hF : Hid (n + (8 + N) = (Jn.frames (rs ++ [L7])).length) := by
                show n + (8 + N) = _
                rw [Jn.frames_app, List.length_append, ← HN.out]
                simp [Jn.frames, Jn.frame_length, hql]
              go_wp2_with (refine wpList_append_rec rfl (.tmp 84) (.tmp 86) rfl w.heap.size _ _ rfl (hO9.below hA9) w9.heap.size _ rfl _ L7 (box_at9 w9 _ _) (((ho7.low9 (bel hB8 hB9)).base (fun k e => Nat.le_trans hBW.size (ho7.lt e).1)).low9 hA9) (fun k e1 e2 => by have := (HO.out.at_base e2).2; have := (ho7.lt e1).1; have := hB'.size; omega) (by omega) (by rw [size_alloc]; have := hBW.size; have := hB78.size; have := hB9.size; omega) ?_; intro v3 w3 h31 h32)
              have hBB := bel hBW (bel hB78 hB9)
              refine ⟨⟨rs ++ [L7], _, n + (8 + N), rfl, by go_num, hE, by omega, hF, h31, (hBB.alloc hBB.size _).grown h32 (by rw [size_alloc]; have := hBB.size; omega) (fun k hk => (HO.out.at_base hk).1)⟩, by simp [intOf]; omega⟩
            · have hs2 : ((str (Jn.frame L7)).toList == (str M).toList) = false := by rw [str_list, str_list]; simpa using hcm
              have HE : Hid (Jn.scan l = rs) := by
                show Jn.scan l = rs
                rw [HS.out, Jn.scan_none (HF.out.2 hcm), List.append_nil]
              go_quiet (fail)
              have hB9 := below_drewN (Below.refl w8.heap.size w8) nq
              generalize w8.drewN nq = w9 at *
              clear K1 K2 s6' s8'
              go_wp2
              go_ret2
              rw [HE.out, ← HN.out]
              exact ⟨_, rfl, HO.out.below (bel hB' (bel hB78 hB9)), bel (bel HB.out hB') (bel hB78 hB9)⟩
end Go.Proofs.Ytcjbceidgaieaaa
