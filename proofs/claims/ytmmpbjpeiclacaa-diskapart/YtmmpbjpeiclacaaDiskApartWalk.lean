/- The walk of the law DiskApart, out of the contracts. -/
import Derived.Test.YtmmpbjpeiclacaaDkO
set_option linter.unusedVariables false
set_option linter.unusedSimpArgs false
namespace Go.Proofs.Ytmmpbjpeiclacaa.diskApart
open Go.RowKit
theorem AAt.set {w : World} {b : Nat} {a : Ac} (h : AAt w b a) (f : Int) : AAt (w.setCell ⟨b, 1, none⟩ (.int .i64 f)) b { a with file := f } := heap_set h _
def dA (l : List UInt8) : Dk.D := ⟨true, 1048576, 0, ⟨[], 0, []⟩, ⟨l, 0, []⟩, -1, false⟩
def dB (l : List UInt8) : Dk.D := ⟨true, 1048576, 0, ⟨[], 0, []⟩, ⟨l, l.length, []⟩, -1, false⟩
theorem e1 (l : List UInt8) (h : l.length ≤ 5000) : (Dk.new 1048576).append 1 l = (0, dA l) := by
  rw [Dk.append_calm ⟨rfl, rfl⟩, if_neg (by decide), if_neg (by unfold Dk.D.left Dk.new; simp; omega)]
  rfl
theorem e2 (l : List UInt8) : (dA l).sync 1 = (0, dB l) := by
  rw [Dk.sync_calm ⟨rfl, rfl⟩, if_neg (by decide)]
  rfl
theorem grown_below {w w' : World} (h : w.grownBy w' none) : Below w.heap.size w w' := ⟨h.os, h.tape, h.output, h.size, fun k hk => h.block k hk (by simp)⟩
theorem own_some {w : World} {v : Value} {l : List UInt8} (h : OwnsBytes w 0 v l) (hl : 0 < l.length) : ∃ g c, v = .slice (some ⟨g, 0, none⟩) l.length c := by
  rcases h.2 with ⟨_, h0⟩ | ⟨g, cap, cur, e, _⟩
  · omega
  · exact ⟨g, cap, e⟩
/-- One byte of a slice beside the disk is turned. -/
theorem up_step {w0 W : World} {T : Nat → Prop} {b g n c i : Nat} {d : Dk.D} {l : List UInt8} (L : Lt w0 T b d W) (ho : OwnsBytes W w0.heap.size (.slice (some ⟨g, 0, none⟩) n c) l) (hO : Out T W (.slice (some ⟨g, 0, none⟩) n c)) (hi : i < l.length) (x : UInt8) :
    Lt w0 T b d (W.setCell ⟨g, i, none⟩ (.int .u8 (x.toNat : Int))) ∧ OwnsBytes (W.setCell ⟨g, i, none⟩ (.int .u8 (x.toNat : Int))) w0.heap.size (.slice (some ⟨g, 0, none⟩) n c) (l.set i x) ∧ Out T (W.setCell ⟨g, i, none⟩ (.int .u8 (x.toNat : Int))) (.slice (some ⟨g, 0, none⟩) n c) := by
  have hg := hO g rfl
  have hb := (ho.lt (k := g) rfl).1
  refine ⟨L.set hg.1 hb, ?_, fun k e => ⟨(hO k e).1, by rw [setCell_size]; exact (hO k e).2⟩⟩
  exact ((ho.base (B' := 0) (fun _ _ => Nat.zero_le _)).set i x hi).base (fun k e => (ho.lt e).1)
theorem own_new1 {w wn : World} {o : Obj} (h : Own (fun k => k = w.heap.size) (w.alloc o) wn) : Below w.heap.size w wn :=
  ((Below.refl _ w).alloc (Nat.le_refl _) o).trans (h.below (fun k hk => by rw [hk]; exact Nat.le_refl _) (by simp))
theorem set_ok {w : World} {a : Ac} (h : AcOK w a) : AcOK w { a with file := 0 } := ⟨h.kind, ⟨by show -9223372036854775808 ≤ (0 : Int); decide, by show (0 : Int) ≤ 9223372036854775807; decide⟩, h.n, h.k0, h.k1, h.rb, h.len⟩
set_option maxHeartbeats 8000000 in
set_option maxRecDepth 100000 in
theorem walk (v0 : Value) (as9 : List Ac) (v1 : Value) (lb : List UInt8) (w : World) (h0 : ArgA w v0 as9) (h1 : ArgB w v1 lb) :
    Calls Try.prog 6 #[v0, v1] w fun e w' => e = .returned (.bool true) ∧ Below w.heap.size w w' := by
  obtain ⟨hva, hla⟩ := h0
  obtain ⟨hvb, hlb⟩ := h1
  obtain ⟨bb, bc, rfl⟩ := hvb.form
  have hN := New_yes 1048576 (by decide) (by decide) w
  have HA : Hid (RAs w v0 as9) := hva
  have HBB : Hid (RB w (.slice bb lb.length bc) lb) := hvb
  have HLA : Hid (as9.length ≤ maxLen) := hla
  unfold maxLen at hlb
  clear hva hvb hla
  go_enter Try.func6, Try.ntmps6
  go_wp2_with (go_at_call 7; refine hN.mono ?_; rintro e w1 ⟨rfl, hD1, hB1⟩; have L1 := hide9 (Lt.new (Below.refl _ w) hD1 hB1); have hF := far_any (HA.out.below hB1) HLA.out; clear hN hD1)
  refine hF.mono ?_
  rintro e w2 ⟨⟨x, rfl⟩, hB2⟩
  have L2 := hide9 (L1.out.below hB2)
  have hAl := alive9_any w2
  have HB2 := hide9 (bel hB1 hB2)
  clear hF L1 hB1 hB2
  cases x with
  | true =>
    go_wp2_with (go_at_call 10; refine hAl.mono ?_; rintro e w3 ⟨rfl, hB3⟩)
    go_ret
    exact ⟨rfl, bel HB2.out hB3⟩
  | false =>
    by_cases h5 : 5000 < lb.length
    · have h5' : (5000 : Int) < (lb.length : Int) := by omega
      go_wp2_with (go_at_call 10; refine hAl.mono ?_; rintro e w3 ⟨rfl, hB3⟩)
      go_ret
      exact ⟨rfl, bel HB2.out hB3⟩
    · have h5' : ¬ (5000 : Int) < (lb.length : Int) := by omega
      clear hAl
      have hl5 : lb.length ≤ 5000 := by omega
      go_wp2_with (refine wpList_append_RB rfl (.const (.slice none 0 0)) (.tmp 41) rfl _ [] rfl (OwnsBytes.nil _ 0) _ lb rfl (HBB.out.below HB2.out) (by simp; omega) ?_; intro v' w3 q1 q2 q3)
      have hB3 := grown_below q2
      have q4 : OwnsBytes w3 w2.heap.size v' lb := q1.base (fun k e => by rcases q3 with q3 | q3 <;> rw [q3] at e <;> cases e; exact Nat.le_refl _)
      have hO3 := out_new q4 L2.out.low
      have q5 : OwnsBytes w3 w.heap.size v' lb := q4.base (fun k e => Nat.le_trans HB2.out.size (q4.lt e).1)
      have L3 := L2.out.below hB3
      have C3 := L3.append 1 v' lb q4.reads (by unfold maxLen; omega) (e1 lb hl5)
      unfold LtPost at C3
      have HO3 := hide9 hO3
      have HQ5 := hide9 q5
      obtain ⟨va, vc, rfl⟩ := q4.form
      clear L2 L3 hB3 q1 q2 q3 q4 q5 hO3 HB2
      go_wp2_with (first
        | (go_at_call 22; refine C3.mono ?_; rintro e w4 ⟨rfl, L4, hO4⟩; have HO4 := hide9 (HO3.out.own hO4); have HQ4 := hide9 (HQ5.out.own HO3.out hO4); have C4 := L4.sync 1 (e2 lb); unfold LtPost at C4; clear C3 hO4 L4)
        | (go_at_call 23; refine C4.mono ?_; rintro e w5 ⟨rfl, L5, hO5⟩; have HO5 := hide9 (HO4.out.own hO5); have HQ5' := hide9 (HQ4.out.own HO4.out hO5); have HL5 := hide9 L5; clear C4 hO5 L5))
      generalize More (More (fun k => k = w.heap.size) w3 w4) w4 w5 = T at *
      clear HO4 HQ4 HO3 HQ5
      go_loopw [54] (fun i wr => ∃ (j : Nat) (l' : List UInt8), j ≤ lb.length ∧ i = .int .i64 (j : Int) ∧ l'.length = lb.length ∧ OwnsBytes wr w.heap.size (.slice va lb.length vc) l' ∧ Lt w T w.heap.size (dB lb) wr ∧ Out T wr (.slice va lb.length vc)) (fun i _ => lb.length - (intOf i).toNat)
      case atStart => exact ⟨0, lb, Nat.zero_le _, rfl, rfl, HQ5'.out, HL5.out, HO5.out⟩
      case round =>
        obtain ⟨j, l', hj, rfl, hl', ho, L, hO⟩ := hrel
        by_cases hlt : j < lb.length
        · have hjl : j < l'.length := by omega
          obtain ⟨g, c, hvf⟩ := own_some (ho.base (B' := 0) (fun _ _ => Nat.zero_le _)) (show 0 < l'.length by omega)
          rw [hl'] at hvf
          obtain ⟨rfl, rfl⟩ : va = some ⟨g, 0, none⟩ ∧ vc = c := by simpa using hvf
          have ho0 := ho.base (B' := 0) (fun _ _ => Nat.zero_le _)
          have hcj := OwnsBytes.cellAt ho0 j hjl
          have hfj := OwnsBytes.free ho0 j
          have hup := u8_up l'[j]
          have HS := hide9 (up_step L ho hO hjl (l'[j] + 1))
          have HL' := hide9 hl'
          generalize l'[j] = x at *
          generalize x + 1 = y at *
          clear ho ho0 hvf L hl'
          have hji : (j : Int) < (lb.length : Int) := by omega
          go_wp2
          exact ⟨⟨j + 1, _, by omega, by go_num, by rw [List.length_set]; exact HL'.out, HS.out.2.1, HS.out.1, HS.out.2.2⟩, by simp [intOf]; omega⟩
        · have hji : ¬ (j : Int) < (lb.length : Int) := by omega
          clear HL5 HQ5' HO5 ho hO hl'
          have HL := hide9 L
          have hSh := short_any (HA.out.below L.bel) HLA.out
          have hbs : (as9.take 60).length ≤ 60 := by simp; omega
          clear L
          generalize as9.take 60 = bs at *
          go_wp2_with (go_at_call 11; refine hSh.mono ?_; rintro e w6 ⟨v6, rfl, hv6, he⟩; replace he := he.symm; subst he; have HV6 := hide9 (hv6 w HA.out); obtain ⟨sa, sc, rfl, hsc⟩ := HV6.out.form; clear hSh hv6)
          clear HA HLA hji hlt
          go_loopw [67] (fun i wr => ∃ (j : Nat) (T' : Nat → Prop) (d : Dk.D), j ≤ bs.length ∧ i = .int .i64 (j : Int) ∧ Lt w T' w.heap.size d wr ∧ d.Calm ∧ d.b = ⟨lb, lb.length, []⟩) (fun i _ => bs.length - (intOf i).toNat)
          case atStart => exact ⟨0, T, dB lb, Nat.zero_le _, rfl, HL.out, ⟨rfl, rfl⟩, rfl⟩
          case round =>
            obtain ⟨j2, T', d, hj2, rfl, L, hC, hb⟩ := hrel
            clear HL
            by_cases hlt2 : j2 < bs.length
            · have hji : (j2 : Int) < (bs.length : Int) := by omega
              obtain ⟨_, _, ab, ao, rfl, hr, hA⟩ := RAs.at (HV6.out.below L.bel) hlt2
              have HOK := hide9 hA
              have hone := one_of hA.rb
              obtain ⟨fa, fc, hvf⟩ := hA.rb.form
              have hrem := rem8 bs[j2].kind hA.kind
              have hkl : bs[j2].kind % 8 < 8 := Nat.mod_lt _ (by decide)
              generalize bs[j2] = ac at *
              obtain ⟨kind, file, n, behind, v, l, k0, k1, c0, c1⟩ := ac
              simp only at hvf hrem hkl
              subst hvf
              have HLn := hide9 (L.below (alloc1 wr (.cells (aX ⟨kind, 0, n, behind, .slice fa l.length fc, l, k0, k1, c0, c1⟩) 41)))
              have HAn := hide9 ((set_ok hA).below (alloc1 wr (.cells (aX ⟨kind, 0, n, behind, .slice fa l.length fc, l, k0, k1, c0, c1⟩) 41)))
              have HC := hide9 hC
              have Hb := hide9 hb
              obtain ⟨r, HR⟩ : ∃ r, Hid (d.doo ⟨kind, 0, n, behind, .slice fa l.length fc, l, k0, k1, c0, c1⟩ = r) := ⟨_, rfl⟩
              clear L hC hb hA HOK hone
              obtain ⟨m, hm⟩ : ∃ m, m = kind % 8 := ⟨_, rfl⟩
              rw [← hm] at hrem hkl
              have HM := hide9 hm
              clear hm
              by_cases h4 : m < 4
              · have h4' : (m : Int) < 4 := by omega
                have HP : Hid (Plain ⟨kind, 0, n, behind, .slice fa l.length fc, l, k0, k1, c0, c1⟩) := .inl (by show kind % 8 < 4; rw [← HM.out]; exact h4)
                go_wp2_with (first
                  | ((with_reducible show wpList _ _ _ ({ op := Op.load 41 _, .. } :: _) _ _); refine wpList_load_A rfl _ rfl _ _ rfl _ hr ?_; clear hr)
                  | (go_at_call 12; refine (HLn.out.doesP _ HAn.out HR).mono ?_; rintro e w8 ⟨rfl, L8, _⟩))
                exact ⟨⟨j2 + 1, _, _, by omega, by go_num, L8, by rw [← HR.out]; exact calm_doo HC.out _ HP.out, by rw [← HR.out]; exact (other_doo HC.out _ HP.out rfl).trans Hb.out⟩, by simp [intOf]; omega⟩
              · by_cases h7 : m = 7
                · subst h7
                  have HP : Hid (Plain ⟨kind, 0, n, behind, .slice fa l.length fc, l, k0, k1, c0, c1⟩) := .inr (by show kind % 8 = 7; rw [← HM.out])
                  go_wp2_with (first
                    | ((with_reducible show wpList _ _ _ ({ op := Op.load 41 _, .. } :: _) _ _); refine wpList_load_A rfl _ rfl _ _ rfl _ hr ?_; clear hr)
                    | (go_at_call 12; refine (HLn.out.doesP _ HAn.out HR).mono ?_; rintro e w8 ⟨rfl, L8, _⟩))
                  exact ⟨⟨j2 + 1, _, _, by omega, by go_num, L8, by rw [← HR.out]; exact calm_doo HC.out _ HP.out, by rw [← HR.out]; exact (other_doo HC.out _ HP.out rfl).trans Hb.out⟩, by simp [intOf]; omega⟩
                · have h4' : ¬ (m : Int) < 4 := by omega
                  have h7' : ((m : Int) == 7) = false := by simp; omega
                  go_wp2_with (first
                    | ((with_reducible show wpList _ _ _ ({ op := Op.load 41 _, .. } :: _) _ _); refine wpList_load_A rfl _ rfl _ _ rfl _ hr ?_; clear hr)
                    | (go_at_call 12; refine (HLn.out.doesP _ HAn.out HR).mono ?_; rintro e w8 ⟨rfl, L8, _⟩))
                  exact ⟨⟨j2 + 1, _, _, by omega, by go_num, HLn.out, HC.out, Hb.out⟩, by simp [intOf]; omega⟩
            · have hji : ¬ (j2 : Int) < (bs.length : Int) := by omega
              have hw1 : d.why 1 = 0 := by unfold Dk.D.why; rw [hC.on]; rfl
              have hn1 : (d.at 1).now = lb := by show d.b.now = lb; rw [hb]
              have C9 := L.read 1 hw1 hn1
              have HL := hide9 L
              have HC := hide9 hw1
              have HN := hide9 hn1
              clear L hC hb hw1 hn1
              go_wp2_with (go_at_call 18; refine C9.mono ?_; rintro e w9 ⟨u, rfl, hu, hB9⟩; have hO9 := hide9 (out_new hu HL.out.low); have L9 := hide9 (HL.out.below hB9); have hu9 := hide9 (hu.base (B' := w.heap.size) (fun k e => Nat.le_trans HL.out.bel.size (hu.lt e).1)); obtain ⟨ua, uc, rfl⟩ := hu.form; clear C9 hu hB9)
              go_loopw [92] (fun i wr => ∃ (j : Nat) (l' : List UInt8), j ≤ lb.length ∧ i = .int .i64 (j : Int) ∧ l'.length = lb.length ∧ OwnsBytes wr w.heap.size (.slice ua lb.length uc) l' ∧ Lt w T' w.heap.size d wr ∧ Out T' wr (.slice ua lb.length uc)) (fun i _ => lb.length - (intOf i).toNat)
              case atStart => exact ⟨0, lb, Nat.zero_le _, rfl, rfl, hu9.out, L9.out, hO9.out⟩
              case round =>
                obtain ⟨j, l', hj, rfl, hl', ho, L, hO⟩ := hrel
                by_cases hlt : j < lb.length
                · have hjl : j < l'.length := by omega
                  obtain ⟨g, c, hvf⟩ := own_some (ho.base (B' := 0) (fun _ _ => Nat.zero_le _)) (show 0 < l'.length by omega)
                  rw [hl'] at hvf
                  obtain ⟨rfl, rfl⟩ : ua = some ⟨g, 0, none⟩ ∧ uc = c := by simpa using hvf
                  have ho0 := ho.base (B' := 0) (fun _ _ => Nat.zero_le _)
                  have hcj := OwnsBytes.cellAt ho0 j hjl
                  have hfj := OwnsBytes.free ho0 j
                  have hup := u8_up l'[j]
                  have HS := hide9 (up_step L ho hO hjl (l'[j] + 1))
                  have HL' := hide9 hl'
                  generalize l'[j] = x at *
                  generalize x + 1 = y at *
                  clear ho ho0 hvf L hl'
                  have hji : (j : Int) < (lb.length : Int) := by omega
                  go_wp2
                  exact ⟨⟨j + 1, _, by omega, by go_num, by rw [List.length_set]; exact HL'.out, HS.out.2.1, HS.out.1, HS.out.2.2⟩, by simp [intOf]; omega⟩
                · have hji : ¬ (j : Int) < (lb.length : Int) := by omega
                  have CA := L.read 1 HC.out HN.out
                  have HLA := hide9 L
                  clear ho hO hl' L L9 hO9 hu9
                  go_wp2_with (first
                    | (go_at_call 18; refine CA.mono ?_; rintro e w10 ⟨u2, rfl, hu2, hB10⟩; have LA := HLA.out.below hB10; have hcv := conv_RB hu2.reads; have hcb := conv_RB (HBB.out.below LA.bel); have HBA := hide9 LA.bel; have hAl := alive9_any w10; obtain ⟨u3, u4, rfl⟩ := hu2.form; clear CA hu2 hB10 LA)
                    | (go_at_call 10; refine hAl.mono ?_; rintro e w11 ⟨rfl, hB11⟩))
                  go_ret
                  exact ⟨rfl, bel HBA.out hB11⟩
end Go.Proofs.Ytmmpbjpeiclacaa.diskApart
