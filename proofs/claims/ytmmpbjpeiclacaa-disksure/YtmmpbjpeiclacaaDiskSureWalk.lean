/- The walk of the law DiskSure, out of the contracts. -/
import Derived.Test.YtmmpbjpeiclacaaDkQ
set_option linter.unusedVariables false
set_option linter.unusedSimpArgs false
namespace Go.Proofs.Ytmmpbjpeiclacaa.diskSure
open Go.RowKit
theorem cell_own {T : Nat → Prop} {W W' : World} {k i : Nat} {v : Value} (h : W.cell? ⟨k, i, none⟩ = some v) (hO : Own T W W') (hT : ¬ T k) : W'.cell? ⟨k, i, none⟩ = some v := by
  rw [World.cell?_of_block (w := W) (a := ⟨k, i, none⟩) (hO.block k (cell_lt h) hT)]
  exact h
set_option maxHeartbeats 8000000 in
set_option maxRecDepth 100000 in
theorem walk (v0 : Value) (as9 : List Ac) (xa : Ac) (w : World) (h0 : ArgA w v0 as9) (h1 : AcOK w xa) :
    Calls Try.prog 4 #[v0, aV xa] w fun e w' => e = .returned (.bool true) ∧ Below w.heap.size w w' := by
  obtain ⟨hva, hla⟩ := h0
  obtain ⟨xva, xvc, hxf⟩ := h1.rb.form
  have HX1 : Hid (AcOK w xa) := h1
  have HB1 := hide9 (alloc1 w (.cells (aX xa) 41))
  have hx1 : (w.alloc (.cells (aX xa) 41)).heap[w.heap.size]? = some (.cells (aX xa) 41 (0, 0)) := heap_new _ _
  have HX := hide9 hx1
  have HZ := hide9 (size_alloc w (.cells (aX xa) 41))
  obtain ⟨xkind, xfile, xn, xbehind, xv, xl, xk0, xk1, xc0, xc1⟩ := xa
  simp only at hxf
  subst hxf
  obtain ⟨xa, hxa⟩ : ∃ xa : Ac, xa = ⟨xkind, xfile, xn, xbehind, .slice xva xl.length xvc, xl, xk0, xk1, xc0, xc1⟩ := ⟨_, rfl⟩
  have HXA := hide9 hxa
  rw [← hxa] at HX1 HB1 HX HZ
  have HA : Hid (RAs w v0 as9) := hva
  have HLA : Hid (as9.length ≤ maxLen) := hla
  clear hva hla h1 hx1 hxa
  go_enter Try.func4, Try.ntmps4
  go_wp2_with fail
  rw [← HXA.out]
  refine (New_yes 1048576 (by decide) (by decide) _).mono ?_
  rintro e w1 ⟨rfl, hD1, hB1⟩
  have L1 := hide9 (Lt.new HB1.out hD1 hB1)
  have X1 : Hid (w1.heap[w.heap.size]? = some (.cells (aX xa) 41 (0, 0))) := (hB1.block w.heap.size (by rw [HZ.out]; exact Nat.lt_succ_self _)).trans HX.out
  have HBW := hide9 (HB1.out.trans (hB1.mono HB1.out.size))
  rw [HZ.out] at L1 ⊢
  clear hD1 hB1 HX HB1
  have hF := far_any (HA.out.below HBW.out) HLA.out
  go_wp2_with fail
  refine hF.mono ?_
  rintro e w2 ⟨⟨x, rfl⟩, hB2⟩
  have hAl := alive9_any w2
  have L2 := hide9 (L1.out.below hB2)
  have X2 := hide9 ((hB2.block w.heap.size (Array.getElem?_eq_some_iff.1 X1.out).1).trans X1.out)
  have HB2 := hide9 (bel HBW.out hB2)
  clear hF L1 X1 HBW hB2
  cases x with
  | true =>
    go_wp2_with (go_at_call 10; refine hAl.mono ?_; rintro e w3 ⟨rfl, hB3⟩)
    go_ret
    exact ⟨rfl, bel HB2.out hB3⟩
  | false =>
    clear hAl
    have HS0 := hide9 (Sv.start L2.out X2.out)
    have HSB : Hid (w.heap.size ≤ w2.heap.size) := HB2.out.size
    have HLB : Hid (w.heap.size ≤ w2.heap.size + 1) := Nat.le_succ_of_le HB2.out.size
    have HNE : Hid (w2.heap.size ≠ w2.heap.size + 1) := by show w2.heap.size ≠ w2.heap.size + 1; omega
    have hxlt := (Array.getElem?_eq_some_iff.1 X2.out).1
    have HXS : Hid (w.heap.size ≠ w2.heap.size) := by show w.heap.size ≠ w2.heap.size; omega
    have HXL : Hid (w.heap.size ≠ w2.heap.size + 1) := by show w.heap.size ≠ w2.heap.size + 1; omega
    have hSh := short_any (HA.out.below HS0.out.lt.bel) HLA.out
    have hbs : (as9.take 60).length ≤ 60 := by simp; omega
    clear L2 X2 HB2 hxlt
    go_wp2_with fail
    generalize (w2.alloc (.cells #[nilS, nilS] 51)).alloc (.cells #[.int .i64 0, .int .i64 0] 38) = W3 at *
    generalize w2.heap.size + 1 = lb at *
    generalize w2.heap.size = sb at *
    generalize as9.take 60 = bs at *
    refine hSh.mono ?_
    rintro e w6 ⟨v6, rfl, hv6, he⟩
    replace he := he.symm
    subst he
    have HV6 := hide9 (hv6 w HA.out)
    obtain ⟨sa, sc, rfl, hsc⟩ := HV6.out.form
    clear hSh hv6 HA HLA
    go_wp2
    go_loopw [9, 44] (fun root i wr => ∃ (j : Nat) (T : Nat → Prop) (d : Dk.D) (u0 u1 : Value), j ≤ bs.length ∧ i = .int .i64 (j : Int) ∧ root = .int .i64 d.root ∧ Sv w (w.heap.size + 1) sb lb w.heap.size xa T d u0 u1 wr) (fun _ i _ => bs.length - (intOf i).toNat)
    case atStart => exact ⟨0, _, _, _, _, Nat.zero_le _, rfl, rfl, HS0.out⟩
    case round =>
      obtain ⟨j, T, d, u0, u1, hj, rfl, rfl, S0⟩ := hrel
      clear HS0
      by_cases hlt : j < bs.length
      · have hji : (j : Int) < (bs.length : Int) := by omega
        obtain ⟨_, _, ab, ao, rfl, hr, hA⟩ := RAs.at (HV6.out.below S0.lt.bel) hlt
        obtain ⟨fa, fc, hvf⟩ := hA.rb.form
        generalize bs[j] = ac at *
        obtain ⟨kind, file, n, behind, v, l, k0, k1, c0, c1⟩ := ac
        simp only at hvf
        subst hvf
        have hrem := rem8 kind hA.kind
        have HS := hide9 (S0.below (alloc1 wr (.cells (aX ⟨kind, file, n, behind, .slice fa l.length fc, l, k0, k1, c0, c1⟩) 41)))
        have HOK := hide9 (hA.below (alloc1 wr (.cells (aX ⟨kind, file, n, behind, .slice fa l.length fc, l, k0, k1, c0, c1⟩) 41)))
        obtain ⟨r, HR⟩ : ∃ r, Hid (d.doo ⟨kind, file, n, behind, .slice fa l.length fc, l, k0, k1, c0, c1⟩ = r) := ⟨_, rfl⟩
        have hab : AAt (wr.alloc (.cells (aX ⟨kind, file, n, behind, .slice fa l.length fc, l, k0, k1, c0, c1⟩) 41)) wr.heap.size ⟨kind, file, n, behind, .slice fa l.length fc, l, k0, k1, c0, c1⟩ := heap_new _ _
        have HC0 : Hid ((wr.alloc (.cells (aX ⟨kind, file, n, behind, .slice fa l.length fc, l, k0, k1, c0, c1⟩) 41)).cell? ⟨wr.heap.size, 0, none⟩ = some (.int .u8 (kind : Int))) := hab.cell 0
        have HC1 : Hid ((wr.alloc (.cells (aX ⟨kind, file, n, behind, .slice fa l.length fc, l, k0, k1, c0, c1⟩) 41)).cell? ⟨wr.heap.size, 1, none⟩ = some (.int .i64 file)) := hab.cell 1
        have HC2 : Hid ((wr.alloc (.cells (aX ⟨kind, file, n, behind, .slice fa l.length fc, l, k0, k1, c0, c1⟩) 41)).cell? ⟨wr.heap.size, 2, none⟩ = some (.int .i64 n)) := hab.cell 2
        have HT : Hid (¬ T wr.heap.size) := fun hx => absurd (S0.lt.low _ hx) (Nat.lt_irrefl _)
        have HAS : Hid (sb ≠ wr.heap.size) := fun e => by have := S0.ks.lt; omega
        clear S0 hA hab
        have hk8 : kind % 8 < 8 := Nat.mod_lt _ (by decide)
        rcases (by omega : kind % 8 = 0 ∨ kind % 8 = 1 ∨ kind % 8 = 2 ∨ kind % 8 = 3 ∨ kind % 8 = 4 ∨ kind % 8 = 5 ∨ kind % 8 = 6 ∨ kind % 8 = 7) with hk | hk | hk | hk | hk | hk | hk | hk
        · have hm : (kind : Int).tmod 8 = 0 := by rw [hrem, hk]; rfl
          have HP : Hid (Plain ⟨kind, file, n, behind, .slice fa l.length fc, l, k0, k1, c0, c1⟩) := .inl (by show kind % 8 < 4; rw [hk]; decide)
          have HK := hide9 hk
          clear hk hrem
          go_wp2_with ((with_reducible show wpList _ _ _ ({ op := Op.load 41 _, .. } :: _) _ _); refine wpList_load_A rfl _ rfl _ _ rfl _ hr ?_; clear hr)
          refine (HS.out.lt.doesP _ HOK.out HR).mono ?_
          rintro e w8 ⟨rfl, L8, hO8⟩
          have a0 := cell_own HC0.out hO8 HT.out
          have a1 := cell_own HC1.out hO8 HT.out
          have a2 := cell_own HC2.out hO8 HT.out
          have HT8 : Hid (¬ More T (wr.alloc (.cells (aX ⟨kind, file, n, behind, .slice fa l.length fc, l, k0, k1, c0, c1⟩) 41)) w8 wr.heap.size) := fun hx => by
            rcases hx with hx | hx
            · exact HT.out hx
            · rw [size_alloc] at hx
              omega
          by_cases hb0 : file < 0
          · have e := HR.out
            rw [calm_file HS.out.calm _ HP.out (.inl hb0)] at e
            subst e
            have HS8 := hide9 (HS.out.act L8 hO8 HS.out.calm rfl rfl rfl rfl)
            clear L8 hO8
            go_wp2
            exact ⟨⟨j + 1, _, _, _, _, by omega, by go_num, rfl, HS8.out⟩, by simp [intOf]; omega⟩
          · by_cases hb1 : 1 < file
            · have e := HR.out
              rw [calm_file HS.out.calm _ HP.out (.inr (by show 2 ≤ file; omega))] at e
              subst e
              have HS8 := hide9 (HS.out.act L8 hO8 HS.out.calm rfl rfl rfl rfl)
              clear L8 hO8
              go_wp2
              exact ⟨⟨j + 1, _, _, _, _, by omega, by go_num, rfl, HS8.out⟩, by simp [intOf]; omega⟩
            · have hff : file = 0 ∨ file = 1 := by omega
              have HGF := hide9 hff
              by_cases hr0 : r.1 = 0
              · have hkp := doo_app HS.out.calm HS.out.lt.fine ⟨kind, file, n, behind, .slice fa l.length fc, l, k0, k1, c0, c1⟩ (.inl HK.out)
                rw [HR.out] at hkp
                have hcl := calm_doo HS.out.calm _ HP.out
                rw [HR.out] at hcl
                obtain ⟨r1, r2⟩ := r
                simp only at hkp hr0 hcl
                subst hr0
                have HS8 := hide9 (HS.out.act L8 hO8 hcl hkp.1 hkp.2.1 hkp.2.2.1 hkp.2.2.2.1)
                have HRT : Hid (d.root = r2.root) := hkp.2.2.2.2.symm
                clear L8 hO8 hff hkp hcl
                go_wp2
                exact ⟨⟨j + 1, _, _, _, _, by omega, by go_num, by rw [← HRT.out], HS8.out⟩, by simp [intOf]; omega⟩
              · have e : r.2 = d := by have := calm_err HS.out.calm _ HP.out (by rw [HR.out]; exact hr0); rw [HR.out] at this; exact this
                obtain ⟨r1, r2⟩ := r
                simp only at e hr0
                subst e
                have HS8 := hide9 (HS.out.act L8 hO8 HS.out.calm rfl rfl rfl rfl)
                clear L8 hO8 hff
                have hrb : (r1 == 0) = false := by simpa using hr0
                go_wp2
                exact ⟨⟨j + 1, _, _, _, _, by omega, by go_num, rfl, HS8.out⟩, by simp [intOf]; omega⟩
        · have hm : (kind : Int).tmod 8 = 1 := by rw [hrem, hk]; rfl
          have HP : Hid (Plain ⟨kind, file, n, behind, .slice fa l.length fc, l, k0, k1, c0, c1⟩) := .inl (by show kind % 8 < 4; rw [hk]; decide)
          have HK := hide9 hk
          clear hk hrem
          go_wp2_with ((with_reducible show wpList _ _ _ ({ op := Op.load 41 _, .. } :: _) _ _); refine wpList_load_A rfl _ rfl _ _ rfl _ hr ?_; clear hr)
          refine (HS.out.lt.doesP _ HOK.out HR).mono ?_
          rintro e w8 ⟨rfl, L8, hO8⟩
          have a0 := cell_own HC0.out hO8 HT.out
          have a1 := cell_own HC1.out hO8 HT.out
          have a2 := cell_own HC2.out hO8 HT.out
          have HT8 : Hid (¬ More T (wr.alloc (.cells (aX ⟨kind, file, n, behind, .slice fa l.length fc, l, k0, k1, c0, c1⟩) 41)) w8 wr.heap.size) := fun hx => by
            rcases hx with hx | hx
            · exact HT.out hx
            · rw [size_alloc] at hx
              omega
          by_cases hb0 : file < 0
          · have e := HR.out
            rw [calm_file HS.out.calm _ HP.out (.inl hb0)] at e
            subst e
            have HS8 := hide9 (HS.out.act L8 hO8 HS.out.calm rfl rfl rfl rfl)
            clear L8 hO8
            go_wp2
            exact ⟨⟨j + 1, _, _, _, _, by omega, by go_num, rfl, HS8.out⟩, by simp [intOf]; omega⟩
          · by_cases hb1 : 1 < file
            · have e := HR.out
              rw [calm_file HS.out.calm _ HP.out (.inr (by show 2 ≤ file; omega))] at e
              subst e
              have HS8 := hide9 (HS.out.act L8 hO8 HS.out.calm rfl rfl rfl rfl)
              clear L8 hO8
              go_wp2
              exact ⟨⟨j + 1, _, _, _, _, by omega, by go_num, rfl, HS8.out⟩, by simp [intOf]; omega⟩
            · have hff : file = 0 ∨ file = 1 := by omega
              have HGF := hide9 hff
              by_cases hr0 : r.1 = 0
              · rcases hff with rfl | rfl
                · have e := HR.out
                  rw [doo_one HS.out.calm _ HK.out HGF.out] at e
                  subst e
                  have K8s := hide9 (HS.out.ks.own hO8)
                  have K8l := hide9 (HS.out.kl.own hO8)
                  have K8x := hide9 (HS.out.kx.own hO8)
                  have ROTH := hide9 (HS.out.r1.own hO8)
                  have HL8 : Hid (Lt w (More T (wr.alloc (.cells (aX ⟨kind, 0, n, behind, .slice fa l.length fc, l, k0, k1, c0, c1⟩) 41)) w8) (w.heap.size + 1) { d with a := d.a.settle } w8) := L8
                  have hLd := HL8.out.below ((Below.refl _ w8).drew)
                  have hcl : ({ d with a := d.a.settle } : Dk.D).Calm := ⟨HS.out.calm.on, HS.out.calm.fuse⟩
                  have hC := hLd.reads9 0 (l := d.a.now) (q := 0) (hide9 (calm_read hcl HGF.out)) (hide9 (calm_why hcl HGF.out))
                  clear hcl
                  clear L8 hO8 hLd
                  have ha8 : wr.heap.size < w8.heap.size := cell_lt a1
                  go_wp2
                  go_region_with (go_at_call 18; refine hC.mono ?_; rintro e w9 ⟨ua, uc, rfl, hu9, hB9, hnw⟩; have b1 := (hB9.cell (p := ⟨wr.heap.size, 1, none⟩) ha8).trans a1; have HB9 : Hid (Below w8.heap.size w8 w9) := bel ((Below.refl _ w8).drew) hB9; have b2 := (K8s.out.below HB9.out).cell 0; have b3 := (K8s.out.below HB9.out).free 0; have HU9 := hide9 hu9; have HNW := hide9 hnw; clear hu9 hB9 hnw)
                  all_goals (
                    have HL9 := hide9 (HL8.out.below HB9.out)
                    have k9s := hide9 ((K8s.out.below HB9.out).set 0 (.slice ua d.a.now.length uc))
                    have k9l := hide9 ((K8l.out.below HB9.out).other HNE.out.symm 0 (.slice ua d.a.now.length uc))
                    have k9x := hide9 ((K8x.out.below HB9.out).other HXS.out 0 (.slice ua d.a.now.length uc))
                    have hun : (Value.slice ua d.a.now.length uc).ownBlock ≠ some sb ∧ (Value.slice ua d.a.now.length uc).ownBlock ≠ some lb := ⟨HNW.out sb K8s.out.lt, HNW.out lb K8l.out.lt⟩
                    have r9 := hide9 (HU9.out.other hun.1 0 (.slice ua d.a.now.length uc))
                    have r9o := hide9 ((ROTH.out.below HB9.out).other HS.out.s1.1 0 (.slice ua d.a.now.length uc))
                    have l9 := hide9 (HL9.out.set (i := 0) (v := .slice ua d.a.now.length uc) K8s.out.2 HSB.out)
                    have b4 := ((far_set w9 0 1 (.slice ua d.a.now.length uc) HAS.out).trans b1)
                    have d2 : (w9.setCell ⟨sb, 0, none⟩ (.slice ua d.a.now.length uc)).cell? ⟨sb, 0, none⟩ = some (.slice ua d.a.now.length uc) := k9s.out.cell 0
                    have d3 : (w9.setCell ⟨sb, 0, none⟩ (.slice ua d.a.now.length uc)).cell? ⟨lb, 0, none⟩ = some (.int .i64 (d.a.whole : Int)) := k9l.out.cell 0
                    have d4 := k9l.out.free 0
                    generalize w9.setCell ⟨sb, 0, none⟩ (.slice ua d.a.now.length uc) = w10 at *
                    clear b1 b2 b3 a0 a2
                    have HS8 : Hid (Sv w (w.heap.size + 1) sb lb w.heap.size xa (More T (wr.alloc (.cells (aX ⟨kind, 0, n, behind, .slice fa l.length fc, l, k0, k1, c0, c1⟩) 41)) w8) { d with a := d.a.settle } (.slice ua d.a.now.length uc) u1 (w10.setCell ⟨lb, 0, none⟩ (.int .i64 (d.a.now.length : Int)))) :=
                      ⟨l9.out.set K8l.out.2 HLB.out, ⟨HS.out.calm.on, HS.out.calm.fuse⟩, k9s.out.other HNE.out 0 _, k9l.out.set 0 _, k9x.out.other HXL.out 0 _, (by rw [show ({ d with a := d.a.settle } : Dk.D).a.sure = d.a.now from Dk.sure_settle _]; exact r9.out.other hun.2 0 _), (r9o.out.other HS.out.s1.2 0 _), hun, HS.out.s1⟩
                    go_wp2
                    go_region
                    replace HS8 := hide9 (HS8.out.below ((Below.refl _ _).drew))
                    generalize w10.setCell ⟨lb, 0, none⟩ (.int .i64 (d.a.now.length : Int)) = wq at *
                    go_wp2
                    exact ⟨⟨j + 1, _, { d with a := d.a.settle }, _, _, by omega, by go_num, rfl, HS8.out⟩, by simp [intOf]; omega⟩)
                · have e := HR.out
                  rw [doo_one HS.out.calm _ HK.out HGF.out] at e
                  subst e
                  have K8s := hide9 (HS.out.ks.own hO8)
                  have K8l := hide9 (HS.out.kl.own hO8)
                  have K8x := hide9 (HS.out.kx.own hO8)
                  have ROTH := hide9 (HS.out.r0.own hO8)
                  have HL8 : Hid (Lt w (More T (wr.alloc (.cells (aX ⟨kind, 1, n, behind, .slice fa l.length fc, l, k0, k1, c0, c1⟩) 41)) w8) (w.heap.size + 1) { d with b := d.b.settle } w8) := L8
                  have hLd := HL8.out.below ((Below.refl _ w8).drew)
                  have hcl : ({ d with b := d.b.settle } : Dk.D).Calm := ⟨HS.out.calm.on, HS.out.calm.fuse⟩
                  have hC := hLd.reads9 1 (l := d.b.now) (q := 0) (hide9 (calm_read hcl HGF.out)) (hide9 (calm_why hcl HGF.out))
                  clear hcl
                  clear L8 hO8 hLd
                  have ha8 : wr.heap.size < w8.heap.size := cell_lt a1
                  go_wp2
                  go_region_with (go_at_call 18; refine hC.mono ?_; rintro e w9 ⟨ua, uc, rfl, hu9, hB9, hnw⟩; have b1 := (hB9.cell (p := ⟨wr.heap.size, 1, none⟩) ha8).trans a1; have HB9 : Hid (Below w8.heap.size w8 w9) := bel ((Below.refl _ w8).drew) hB9; have b2 := (K8s.out.below HB9.out).cell 1; have b3 := (K8s.out.below HB9.out).free 1; have HU9 := hide9 hu9; have HNW := hide9 hnw; clear hu9 hB9 hnw)
                  all_goals (
                    have HL9 := hide9 (HL8.out.below HB9.out)
                    have k9s := hide9 ((K8s.out.below HB9.out).set 1 (.slice ua d.b.now.length uc))
                    have k9l := hide9 ((K8l.out.below HB9.out).other HNE.out.symm 1 (.slice ua d.b.now.length uc))
                    have k9x := hide9 ((K8x.out.below HB9.out).other HXS.out 1 (.slice ua d.b.now.length uc))
                    have hun : (Value.slice ua d.b.now.length uc).ownBlock ≠ some sb ∧ (Value.slice ua d.b.now.length uc).ownBlock ≠ some lb := ⟨HNW.out sb K8s.out.lt, HNW.out lb K8l.out.lt⟩
                    have r9 := hide9 (HU9.out.other hun.1 1 (.slice ua d.b.now.length uc))
                    have r9o := hide9 ((ROTH.out.below HB9.out).other HS.out.s0.1 1 (.slice ua d.b.now.length uc))
                    have l9 := hide9 (HL9.out.set (i := 1) (v := .slice ua d.b.now.length uc) K8s.out.2 HSB.out)
                    have b4 := ((far_set w9 1 1 (.slice ua d.b.now.length uc) HAS.out).trans b1)
                    have d2 : (w9.setCell ⟨sb, 1, none⟩ (.slice ua d.b.now.length uc)).cell? ⟨sb, 1, none⟩ = some (.slice ua d.b.now.length uc) := k9s.out.cell 1
                    have d3 : (w9.setCell ⟨sb, 1, none⟩ (.slice ua d.b.now.length uc)).cell? ⟨lb, 1, none⟩ = some (.int .i64 (d.b.whole : Int)) := k9l.out.cell 1
                    have d4 := k9l.out.free 1
                    generalize w9.setCell ⟨sb, 1, none⟩ (.slice ua d.b.now.length uc) = w10 at *
                    clear b1 b2 b3 a0 a2
                    have HS8 : Hid (Sv w (w.heap.size + 1) sb lb w.heap.size xa (More T (wr.alloc (.cells (aX ⟨kind, 1, n, behind, .slice fa l.length fc, l, k0, k1, c0, c1⟩) 41)) w8) { d with b := d.b.settle } u0 (.slice ua d.b.now.length uc) (w10.setCell ⟨lb, 1, none⟩ (.int .i64 (d.b.now.length : Int)))) :=
                      ⟨l9.out.set K8l.out.2 HLB.out, ⟨HS.out.calm.on, HS.out.calm.fuse⟩, k9s.out.other HNE.out 1 _, k9l.out.set 1 _, k9x.out.other HXL.out 1 _, (r9o.out.other HS.out.s0.2 1 _), (by rw [show ({ d with b := d.b.settle } : Dk.D).b.sure = d.b.now from Dk.sure_settle _]; exact r9.out.other hun.2 1 _), HS.out.s0, hun⟩
                    go_wp2
                    go_region
                    replace HS8 := hide9 (HS8.out.below ((Below.refl _ _).drew))
                    generalize w10.setCell ⟨lb, 1, none⟩ (.int .i64 (d.b.now.length : Int)) = wq at *
                    go_wp2
                    exact ⟨⟨j + 1, _, { d with b := d.b.settle }, _, _, by omega, by go_num, rfl, HS8.out⟩, by simp [intOf]; omega⟩)
              · have e : r.2 = d := by have := calm_err HS.out.calm _ HP.out (by rw [HR.out]; exact hr0); rw [HR.out] at this; exact this
                obtain ⟨r1, r2⟩ := r
                simp only at e hr0
                subst e
                have HS8 := hide9 (HS.out.act L8 hO8 HS.out.calm rfl rfl rfl rfl)
                clear L8 hO8 hff
                have hrb : (r1 == 0) = false := by simpa using hr0
                go_wp2
                exact ⟨⟨j + 1, _, _, _, _, by omega, by go_num, rfl, HS8.out⟩, by simp [intOf]; omega⟩
        · have hm : (kind : Int).tmod 8 = 2 := by rw [hrem, hk]; rfl
          have HP : Hid (Plain ⟨kind, file, n, behind, .slice fa l.length fc, l, k0, k1, c0, c1⟩) := .inl (by show kind % 8 < 4; rw [hk]; decide)
          have HK := hide9 hk
          clear hk hrem
          go_wp2_with ((with_reducible show wpList _ _ _ ({ op := Op.load 41 _, .. } :: _) _ _); refine wpList_load_A rfl _ rfl _ _ rfl _ hr ?_; clear hr)
          refine (HS.out.lt.doesP _ HOK.out HR).mono ?_
          rintro e w8 ⟨rfl, L8, hO8⟩
          have a0 := cell_own HC0.out hO8 HT.out
          have a1 := cell_own HC1.out hO8 HT.out
          have a2 := cell_own HC2.out hO8 HT.out
          have HT8 : Hid (¬ More T (wr.alloc (.cells (aX ⟨kind, file, n, behind, .slice fa l.length fc, l, k0, k1, c0, c1⟩) 41)) w8 wr.heap.size) := fun hx => by
            rcases hx with hx | hx
            · exact HT.out hx
            · rw [size_alloc] at hx
              omega
          by_cases hb0 : file < 0
          · have e := HR.out
            rw [calm_file HS.out.calm _ HP.out (.inl hb0)] at e
            subst e
            have HS8 := hide9 (HS.out.act L8 hO8 HS.out.calm rfl rfl rfl rfl)
            clear L8 hO8
            go_wp2
            exact ⟨⟨j + 1, _, _, _, _, by omega, by go_num, rfl, HS8.out⟩, by simp [intOf]; omega⟩
          · by_cases hb1 : 1 < file
            · have e := HR.out
              rw [calm_file HS.out.calm _ HP.out (.inr (by show 2 ≤ file; omega))] at e
              subst e
              have HS8 := hide9 (HS.out.act L8 hO8 HS.out.calm rfl rfl rfl rfl)
              clear L8 hO8
              go_wp2
              exact ⟨⟨j + 1, _, _, _, _, by omega, by go_num, rfl, HS8.out⟩, by simp [intOf]; omega⟩
            · have hff : file = 0 ∨ file = 1 := by omega
              have HGF := hide9 hff
              by_cases hr0 : r.1 = 0
              · rcases hff with rfl | rfl
                · have hd2 := doo_two HS.out.calm _ HK.out HGF.out (by rw [HR.out]; exact hr0)
                  obtain ⟨e, hn0, hn1⟩ := hd2
                  rw [HR.out] at e
                  subst e
                  have hfa := HS.out.lt.fine.a
                  have hwl := hfa.whole
                  have K8s := HS.out.ks.own hO8
                  have K8l := HS.out.kl.own hO8
                  have K8x := HS.out.kx.own hO8
                  have R80 := HS.out.r0.own hO8
                  have R81 := HS.out.r1.own hO8
                  simp only at hn0 hn1
                  change n ≤ (d.a.now.length : Int) at hn1
                  have g0 : w8.cell? ⟨lb, 0, none⟩ = some (.int .i64 (d.a.whole : Int)) := K8l.cell 0
                  have g1 := K8l.free 0
                  obtain ⟨nn, rfl⟩ : ∃ nn : Nat, n = (nn : Int) := ⟨n.toNat, by omega⟩
                  have HTR : Hid (d.put 0 ((d.at 0).trunc ((nn : Int)).toNat) = { d with a := d.a.trunc nn }) := rfl
                  by_cases hmn : nn < d.a.whole
                  · have HS8 : Hid (Sv w (w.heap.size + 1) sb lb w.heap.size xa (More T (wr.alloc (.cells (aX ⟨kind, 0, (nn : Int), behind, .slice fa l.length fc, l, k0, k1, c0, c1⟩) 41)) w8) { d with a := d.a.trunc nn } u0 u1 (w8.setCell ⟨lb, 0, none⟩ (.int .i64 (nn : Int)))) := by
                      refine ⟨(show Lt w _ _ { d with a := d.a.trunc nn } w8 from L8).set K8l.2 HLB.out, ⟨HS.out.calm.on, HS.out.calm.fuse⟩, K8s.other HNE.out 0 _, ?_, K8x.other HXL.out 0 _, ?_, ?_, HS.out.s0, HS.out.s1⟩
                      · have := K8l.set 0 (.int .i64 (nn : Int))
                        have e : ((d.a.trunc nn).whole : Int) = (nn : Int) := by show ((min d.a.whole nn : Nat) : Int) = _; omega
                        rw [e]; exact this
                      · rw [show ({ d with a := d.a.trunc nn } : Dk.D).a.sure = d.a.sure from Dk.sure_trunc _ hfa nn]; exact R80.other HS.out.s0.2 0 _
                      · exact R81.other HS.out.s1.2 0 _
                    have hmi : (nn : Int) < (d.a.whole : Int) := by omega
                    have hmj : ¬ (d.a.whole : Int) < (nn : Int) := by omega
                    have hmk : ¬ (d.a.whole : Int) ≤ (nn : Int) := by omega
                    clear L8 hO8 K8s K8l K8x R80 R81 hn0 hn1 hmn
                    go_wp2
                    go_region
                    replace HS8 := hide9 (HS8.out.below ((Below.refl _ _).drew))
                    generalize w8.setCell ⟨lb, 0, none⟩ (.int .i64 (nn : Int)) = wq at *
                    go_wp2
                    exact ⟨⟨j + 1, _, { d with a := d.a.trunc nn }, _, _, by omega, by go_num, rfl, HS8.out⟩, by simp [intOf]; omega⟩
                  · have HS8 : Hid (Sv w (w.heap.size + 1) sb lb w.heap.size xa (More T (wr.alloc (.cells (aX ⟨kind, 0, (nn : Int), behind, .slice fa l.length fc, l, k0, k1, c0, c1⟩) 41)) w8) { d with a := d.a.trunc nn } u0 u1 (w8.setCell ⟨lb, 0, none⟩ (.int .i64 (d.a.whole : Int)))) := by
                      refine ⟨(show Lt w _ _ { d with a := d.a.trunc nn } w8 from L8).set K8l.2 HLB.out, ⟨HS.out.calm.on, HS.out.calm.fuse⟩, K8s.other HNE.out 0 _, ?_, K8x.other HXL.out 0 _, ?_, ?_, HS.out.s0, HS.out.s1⟩
                      · have := K8l.set 0 (.int .i64 (d.a.whole : Int))
                        have e : ((d.a.trunc nn).whole : Int) = (d.a.whole : Int) := by show ((min d.a.whole nn : Nat) : Int) = _; omega
                        rw [e]; exact this
                      · rw [show ({ d with a := d.a.trunc nn } : Dk.D).a.sure = d.a.sure from Dk.sure_trunc _ hfa nn]; exact R80.other HS.out.s0.2 0 _
                      · exact R81.other HS.out.s1.2 0 _
                    have hmi : ¬ (nn : Int) < (d.a.whole : Int) := by omega
                    have hmk : (d.a.whole : Int) ≤ (nn : Int) := by omega
                    clear L8 hO8 K8s K8l K8x R80 R81 hn0 hn1 hmn
                    go_wp2
                    go_region
                    replace HS8 := hide9 (HS8.out.below ((Below.refl _ _).drew))
                    generalize w8.setCell ⟨lb, 0, none⟩ (.int .i64 (d.a.whole : Int)) = wq at *
                    go_wp2
                    exact ⟨⟨j + 1, _, { d with a := d.a.trunc nn }, _, _, by omega, by go_num, rfl, HS8.out⟩, by simp [intOf]; omega⟩
                · have hd2 := doo_two HS.out.calm _ HK.out HGF.out (by rw [HR.out]; exact hr0)
                  obtain ⟨e, hn0, hn1⟩ := hd2
                  rw [HR.out] at e
                  subst e
                  have hfa := HS.out.lt.fine.b
                  have hwl := hfa.whole
                  have K8s := HS.out.ks.own hO8
                  have K8l := HS.out.kl.own hO8
                  have K8x := HS.out.kx.own hO8
                  have R80 := HS.out.r0.own hO8
                  have R81 := HS.out.r1.own hO8
                  simp only at hn0 hn1
                  change n ≤ (d.b.now.length : Int) at hn1
                  have g0 : w8.cell? ⟨lb, 1, none⟩ = some (.int .i64 (d.b.whole : Int)) := K8l.cell 1
                  have g1 := K8l.free 1
                  obtain ⟨nn, rfl⟩ : ∃ nn : Nat, n = (nn : Int) := ⟨n.toNat, by omega⟩
                  have HTR : Hid (d.put 1 ((d.at 1).trunc ((nn : Int)).toNat) = { d with b := d.b.trunc nn }) := rfl
                  by_cases hmn : nn < d.b.whole
                  · have HS8 : Hid (Sv w (w.heap.size + 1) sb lb w.heap.size xa (More T (wr.alloc (.cells (aX ⟨kind, 1, (nn : Int), behind, .slice fa l.length fc, l, k0, k1, c0, c1⟩) 41)) w8) { d with b := d.b.trunc nn } u0 u1 (w8.setCell ⟨lb, 1, none⟩ (.int .i64 (nn : Int)))) := by
                      refine ⟨(show Lt w _ _ { d with b := d.b.trunc nn } w8 from L8).set K8l.2 HLB.out, ⟨HS.out.calm.on, HS.out.calm.fuse⟩, K8s.other HNE.out 1 _, ?_, K8x.other HXL.out 1 _, ?_, ?_, HS.out.s0, HS.out.s1⟩
                      · have := K8l.set 1 (.int .i64 (nn : Int))
                        have e : ((d.b.trunc nn).whole : Int) = (nn : Int) := by show ((min d.b.whole nn : Nat) : Int) = _; omega
                        rw [e]; exact this
                      · exact R80.other HS.out.s0.2 1 _
                      · rw [show ({ d with b := d.b.trunc nn } : Dk.D).b.sure = d.b.sure from Dk.sure_trunc _ hfa nn]; exact R81.other HS.out.s1.2 1 _
                    have hmi : (nn : Int) < (d.b.whole : Int) := by omega
                    have hmj : ¬ (d.b.whole : Int) < (nn : Int) := by omega
                    have hmk : ¬ (d.b.whole : Int) ≤ (nn : Int) := by omega
                    clear L8 hO8 K8s K8l K8x R80 R81 hn0 hn1 hmn
                    go_wp2
                    go_region
                    replace HS8 := hide9 (HS8.out.below ((Below.refl _ _).drew))
                    generalize w8.setCell ⟨lb, 1, none⟩ (.int .i64 (nn : Int)) = wq at *
                    go_wp2
                    exact ⟨⟨j + 1, _, { d with b := d.b.trunc nn }, _, _, by omega, by go_num, rfl, HS8.out⟩, by simp [intOf]; omega⟩
                  · have HS8 : Hid (Sv w (w.heap.size + 1) sb lb w.heap.size xa (More T (wr.alloc (.cells (aX ⟨kind, 1, (nn : Int), behind, .slice fa l.length fc, l, k0, k1, c0, c1⟩) 41)) w8) { d with b := d.b.trunc nn } u0 u1 (w8.setCell ⟨lb, 1, none⟩ (.int .i64 (d.b.whole : Int)))) := by
                      refine ⟨(show Lt w _ _ { d with b := d.b.trunc nn } w8 from L8).set K8l.2 HLB.out, ⟨HS.out.calm.on, HS.out.calm.fuse⟩, K8s.other HNE.out 1 _, ?_, K8x.other HXL.out 1 _, ?_, ?_, HS.out.s0, HS.out.s1⟩
                      · have := K8l.set 1 (.int .i64 (d.b.whole : Int))
                        have e : ((d.b.trunc nn).whole : Int) = (d.b.whole : Int) := by show ((min d.b.whole nn : Nat) : Int) = _; omega
                        rw [e]; exact this
                      · exact R80.other HS.out.s0.2 1 _
                      · rw [show ({ d with b := d.b.trunc nn } : Dk.D).b.sure = d.b.sure from Dk.sure_trunc _ hfa nn]; exact R81.other HS.out.s1.2 1 _
                    have hmi : ¬ (nn : Int) < (d.b.whole : Int) := by omega
                    have hmk : (d.b.whole : Int) ≤ (nn : Int) := by omega
                    clear L8 hO8 K8s K8l K8x R80 R81 hn0 hn1 hmn
                    go_wp2
                    go_region
                    replace HS8 := hide9 (HS8.out.below ((Below.refl _ _).drew))
                    generalize w8.setCell ⟨lb, 1, none⟩ (.int .i64 (d.b.whole : Int)) = wq at *
                    go_wp2
                    exact ⟨⟨j + 1, _, { d with b := d.b.trunc nn }, _, _, by omega, by go_num, rfl, HS8.out⟩, by simp [intOf]; omega⟩
              · have e : r.2 = d := by have := calm_err HS.out.calm _ HP.out (by rw [HR.out]; exact hr0); rw [HR.out] at this; exact this
                obtain ⟨r1, r2⟩ := r
                simp only at e hr0
                subst e
                have HS8 := hide9 (HS.out.act L8 hO8 HS.out.calm rfl rfl rfl rfl)
                clear L8 hO8 hff
                have hrb : (r1 == 0) = false := by simpa using hr0
                go_wp2
                exact ⟨⟨j + 1, _, _, _, _, by omega, by go_num, rfl, HS8.out⟩, by simp [intOf]; omega⟩
        · have hm : (kind : Int).tmod 8 = 3 := by rw [hrem, hk]; rfl
          have HP : Hid (Plain ⟨kind, file, n, behind, .slice fa l.length fc, l, k0, k1, c0, c1⟩) := .inl (by show kind % 8 < 4; rw [hk]; decide)
          have HK := hide9 hk
          clear hk hrem
          go_wp2_with ((with_reducible show wpList _ _ _ ({ op := Op.load 41 _, .. } :: _) _ _); refine wpList_load_A rfl _ rfl _ _ rfl _ hr ?_; clear hr)
          refine (HS.out.lt.doesP _ HOK.out HR).mono ?_
          rintro e w8 ⟨rfl, L8, hO8⟩
          have a0 := cell_own HC0.out hO8 HT.out
          have a1 := cell_own HC1.out hO8 HT.out
          have a2 := cell_own HC2.out hO8 HT.out
          have HT8 : Hid (¬ More T (wr.alloc (.cells (aX ⟨kind, file, n, behind, .slice fa l.length fc, l, k0, k1, c0, c1⟩) 41)) w8 wr.heap.size) := fun hx => by
            rcases hx with hx | hx
            · exact HT.out hx
            · rw [size_alloc] at hx
              omega
          by_cases hb0 : file < 0
          · have e := HR.out
            rw [calm_file HS.out.calm _ HP.out (.inl hb0)] at e
            subst e
            have HS8 := hide9 (HS.out.act L8 hO8 HS.out.calm rfl rfl rfl rfl)
            clear L8 hO8
            go_wp2
            exact ⟨⟨j + 1, _, _, _, _, by omega, by go_num, rfl, HS8.out⟩, by simp [intOf]; omega⟩
          · by_cases hb1 : 1 < file
            · have e := HR.out
              rw [calm_file HS.out.calm _ HP.out (.inr (by show 2 ≤ file; omega))] at e
              subst e
              have HS8 := hide9 (HS.out.act L8 hO8 HS.out.calm rfl rfl rfl rfl)
              clear L8 hO8
              go_wp2
              exact ⟨⟨j + 1, _, _, _, _, by omega, by go_num, rfl, HS8.out⟩, by simp [intOf]; omega⟩
            · have hff : file = 0 ∨ file = 1 := by omega
              have HGF := hide9 hff
              by_cases hr0 : r.1 = 0
              · have e := HR.out
                rw [doo_three HS.out.calm _ HK.out HGF.out] at e
                subst e
                have HS8 := hide9 (HS.out.act L8 hO8 ⟨HS.out.calm.on, HS.out.calm.fuse⟩ rfl rfl rfl rfl)
                clear L8 hO8 hff
                go_wp2
                exact ⟨⟨j + 1, _, _, _, _, by omega, by go_num, rfl, HS8.out⟩, by simp [intOf]; omega⟩
              · have e : r.2 = d := by have := calm_err HS.out.calm _ HP.out (by rw [HR.out]; exact hr0); rw [HR.out] at this; exact this
                obtain ⟨r1, r2⟩ := r
                simp only at e hr0
                subst e
                have HS8 := hide9 (HS.out.act L8 hO8 HS.out.calm rfl rfl rfl rfl)
                clear L8 hO8 hff
                have hrb : (r1 == 0) = false := by simpa using hr0
                go_wp2
                exact ⟨⟨j + 1, _, _, _, _, by omega, by go_num, rfl, HS8.out⟩, by simp [intOf]; omega⟩
        · have hm : (kind : Int).tmod 8 = 4 := by rw [hrem, hk]; rfl
          go_wp2_with ((with_reducible show wpList _ _ _ ({ op := Op.load 41 _, .. } :: _) _ _); refine wpList_load_A rfl _ rfl _ _ rfl _ hr ?_; clear hr)
          exact ⟨⟨j + 1, _, _, _, _, by omega, by go_num, rfl, HS.out⟩, by simp [intOf]; omega⟩
        · have hm : (kind : Int).tmod 8 = 5 := by rw [hrem, hk]; rfl
          go_wp2_with ((with_reducible show wpList _ _ _ ({ op := Op.load 41 _, .. } :: _) _ _); refine wpList_load_A rfl _ rfl _ _ rfl _ hr ?_; clear hr)
          exact ⟨⟨j + 1, _, _, _, _, by omega, by go_num, rfl, HS.out⟩, by simp [intOf]; omega⟩
        · have hm : (kind : Int).tmod 8 = 6 := by rw [hrem, hk]; rfl
          go_wp2_with ((with_reducible show wpList _ _ _ ({ op := Op.load 41 _, .. } :: _) _ _); refine wpList_load_A rfl _ rfl _ _ rfl _ hr ?_; clear hr)
          exact ⟨⟨j + 1, _, _, _, _, by omega, by go_num, rfl, HS.out⟩, by simp [intOf]; omega⟩
        · have hm : (kind : Int).tmod 8 = 7 := by rw [hrem, hk]; rfl
          have HP : Hid (Plain ⟨kind, file, n, behind, .slice fa l.length fc, l, k0, k1, c0, c1⟩) := .inr (by show kind % 8 = 7; rw [hk])
          have HK := hide9 hk
          clear hk hrem
          go_wp2_with ((with_reducible show wpList _ _ _ ({ op := Op.load 41 _, .. } :: _) _ _); refine wpList_load_A rfl _ rfl _ _ rfl _ hr ?_; clear hr)
          refine (HS.out.lt.doesP _ HOK.out HR).mono ?_
          rintro e w8 ⟨rfl, L8, hO8⟩
          have a0 := cell_own HC0.out hO8 HT.out
          have a1 := cell_own HC1.out hO8 HT.out
          have a2 := cell_own HC2.out hO8 HT.out
          have HT8 : Hid (¬ More T (wr.alloc (.cells (aX ⟨kind, file, n, behind, .slice fa l.length fc, l, k0, k1, c0, c1⟩) 41)) w8 wr.heap.size) := fun hx => by
            rcases hx with hx | hx
            · exact HT.out hx
            · rw [size_alloc] at hx
              omega
          by_cases hb0 : file < 0
          · have e := HR.out
            rw [calm_file HS.out.calm _ HP.out (.inl hb0)] at e
            subst e
            have HS8 := hide9 (HS.out.act L8 hO8 HS.out.calm rfl rfl rfl rfl)
            clear L8 hO8
            go_wp2
            exact ⟨⟨j + 1, _, _, _, _, by omega, by go_num, rfl, HS8.out⟩, by simp [intOf]; omega⟩
          · by_cases hb1 : 1 < file
            · have e := HR.out
              rw [calm_file HS.out.calm _ HP.out (.inr (by show 2 ≤ file; omega))] at e
              subst e
              have HS8 := hide9 (HS.out.act L8 hO8 HS.out.calm rfl rfl rfl rfl)
              clear L8 hO8
              go_wp2
              exact ⟨⟨j + 1, _, _, _, _, by omega, by go_num, rfl, HS8.out⟩, by simp [intOf]; omega⟩
            · have hff : file = 0 ∨ file = 1 := by omega
              have HGF := hide9 hff
              by_cases hr0 : r.1 = 0
              · have hkp := doo_app HS.out.calm HS.out.lt.fine ⟨kind, file, n, behind, .slice fa l.length fc, l, k0, k1, c0, c1⟩ (.inr HK.out)
                rw [HR.out] at hkp
                have hcl := calm_doo HS.out.calm _ HP.out
                rw [HR.out] at hcl
                obtain ⟨r1, r2⟩ := r
                simp only at hkp hr0 hcl
                subst hr0
                have HS8 := hide9 (HS.out.act L8 hO8 hcl hkp.1 hkp.2.1 hkp.2.2.1 hkp.2.2.2.1)
                have HRT : Hid (d.root = r2.root) := hkp.2.2.2.2.symm
                clear L8 hO8 hff hkp hcl
                go_wp2
                exact ⟨⟨j + 1, _, _, _, _, by omega, by go_num, by rw [← HRT.out], HS8.out⟩, by simp [intOf]; omega⟩
              · have e : r.2 = d := by have := calm_err HS.out.calm _ HP.out (by rw [HR.out]; exact hr0); rw [HR.out] at this; exact this
                obtain ⟨r1, r2⟩ := r
                simp only at e hr0
                subst e
                have HS8 := hide9 (HS.out.act L8 hO8 HS.out.calm rfl rfl rfl rfl)
                clear L8 hO8 hff
                have hrb : (r1 == 0) = false := by simpa using hr0
                go_wp2
                exact ⟨⟨j + 1, _, _, _, _, by omega, by go_num, rfl, HS8.out⟩, by simp [intOf]; omega⟩
      · have hji : ¬ (j : Int) < (bs.length : Int) := by omega
        have HS := hide9 S0
        have hnb : (wr.alloc (.cells #[nilS, nilS] 51)).heap[wr.heap.size]? = some (.cells #[nilS, nilS] 51 (0, 0)) := heap_new _ _
        have HT : Hid (¬ T wr.heap.size) := fun hx => absurd (S0.lt.low _ hx) (Nat.lt_irrefl _)
        have HS1 := hide9 (S0.below (alloc1 wr (.cells #[nilS, nilS] 51)))
        have HKN : Hid (K9 T (wr.alloc (.cells #[nilS, nilS] 51)) wr.heap.size #[nilS, nilS] 51) := ⟨hnb, HT.out⟩
        have HNS : Hid (sb ≠ wr.heap.size ∧ lb ≠ wr.heap.size ∧ w.heap.size ≠ wr.heap.size) := ⟨fun e => by have := S0.ks.lt; omega, fun e => by have := S0.kl.lt; omega, fun e => by have := S0.kx.lt; omega⟩
        have HNB : Hid (w.heap.size ≤ wr.heap.size) := S0.lt.bel.size
        have HU : Hid (u0.ownBlock ≠ some wr.heap.size ∧ u1.ownBlock ≠ some wr.heap.size) := ⟨fun e => by have := (S0.r0.2 _ e).2; omega, fun e => by have := (S0.r1.2 _ e).2; omega⟩
        clear S0 HS hnb HV6 hlt
        go_wp2
        generalize wr.alloc (.cells #[nilS, nilS] 51) = W4 at *
        generalize wr.heap.size = nb at *
        go_loopw [116] (fun i wr => Sv w (w.heap.size + 1) sb lb w.heap.size xa T d u0 u1 wr ∧ ((i = .int .i64 0 ∧ K9 T wr nb #[nilS, nilS] 51) ∨ (i = .int .i64 1 ∧ ∃ a c, K9 T wr nb #[.slice a d.a.now.length c, nilS] 51 ∧ Rd9 T wr (.slice a d.a.now.length c) d.a.now ∧ (Value.slice a d.a.now.length c).ownBlock ≠ some nb) ∨ (i = .int .i64 2 ∧ ∃ a c a' c', K9 T wr nb #[.slice a d.a.now.length c, .slice a' d.b.now.length c'] 51 ∧ Rd9 T wr (.slice a d.a.now.length c) d.a.now ∧ Rd9 T wr (.slice a' d.b.now.length c') d.b.now))) (fun i _ => 2 - (intOf i).toNat)
        case atStart => exact ⟨HS1.out, .inl ⟨rfl, HKN.out⟩⟩
        case round =>
          obtain ⟨S0, hcs⟩ := hrel
          clear HS1 HKN
          have HC := hide9 S0.calm
          have HS := hide9 S0
          rcases hcs with ⟨rfl, hK⟩ | ⟨rfl, a, c, hK, hR, hne⟩ | ⟨rfl, a, c, a', c', hK, hR, hR'⟩
          · have HK := hide9 hK
            have hC := S0.lt.reads9 0 (l := d.a.now) (q := 0) (hide9 (calm_read S0.calm (.inl rfl))) (hide9 (calm_why S0.calm (.inl rfl)))
            clear S0 hK
            go_wp2_with (go_at_call 18; refine hC.mono ?_; rintro e w9 ⟨ua, uc, rfl, hu9, hB9, hnw⟩; have hK9 := HK.out.below hB9; have b2 : w9.cell? ⟨nb, 0, none⟩ = some nilS := hK9.cell 0; have b3 := hK9.free 0; have HK9 := hide9 (hK9.set 0 (.slice ua d.a.now.length uc)); have hun := hnw nb HK.out.lt; have HU9 := hide9 (hu9.other hun 0 (.slice ua d.a.now.length uc)); have HUN := hide9 hun; have HS9 := hide9 (HS.out.below hB9); clear hK9 hu9 hnw hB9 hun)
            have HS10 : Hid (Sv w (w.heap.size + 1) sb lb w.heap.size xa T d u0 u1 (w9.setCell ⟨nb, 0, none⟩ (.slice ua d.a.now.length uc))) := ⟨HS9.out.lt.set HT.out HNB.out, HC.out, HS9.out.ks.other HNS.out.1 0 _, HS9.out.kl.other HNS.out.2.1 0 _, HS9.out.kx.other HNS.out.2.2 0 _, HS9.out.r0.other HU.out.1 0 _, HS9.out.r1.other HU.out.2 0 _, HS9.out.s0, HS9.out.s1⟩
            exact ⟨⟨HS10.out, .inr (.inl ⟨rfl, _, _, HK9.out, HU9.out, HUN.out⟩)⟩, by simp [intOf]⟩
          · have HK := hide9 hK
            have HR0 := hide9 hR
            have HNE0 := hide9 hne
            have hC := S0.lt.reads9 1 (l := d.b.now) (q := 0) (hide9 (calm_read S0.calm (.inr rfl))) (hide9 (calm_why S0.calm (.inr rfl)))
            clear S0 hK hR hne
            go_wp2_with (go_at_call 18; refine hC.mono ?_; rintro e w9 ⟨ua, uc, rfl, hu9, hB9, hnw⟩; have hK9 := HK.out.below hB9; have b2 : w9.cell? ⟨nb, 1, none⟩ = some nilS := hK9.cell 1; have b3 := hK9.free 1; have HK9 := hide9 (hK9.set 1 (.slice ua d.b.now.length uc)); have hun := hnw nb HK.out.lt; have HU9 := hide9 (hu9.other hun 1 (.slice ua d.b.now.length uc)); have HR9 := hide9 ((HR0.out.below hB9).other HNE0.out 1 (.slice ua d.b.now.length uc)); have HS9 := hide9 (HS.out.below hB9); clear hK9 hu9 hnw hB9 hun)
            have HS10 : Hid (Sv w (w.heap.size + 1) sb lb w.heap.size xa T d u0 u1 (w9.setCell ⟨nb, 1, none⟩ (.slice ua d.b.now.length uc))) := ⟨HS9.out.lt.set HT.out HNB.out, HC.out, HS9.out.ks.other HNS.out.1 1 _, HS9.out.kl.other HNS.out.2.1 1 _, HS9.out.kx.other HNS.out.2.2 1 _, HS9.out.r0.other HU.out.1 1 _, HS9.out.r1.other HU.out.2 1 _, HS9.out.s0, HS9.out.s1⟩
            exact ⟨⟨HS10.out, .inr (.inr ⟨rfl, _, _, _, _, HK9.out, HR9.out, HU9.out⟩)⟩, by simp [intOf]⟩
          · have HF : Hid (Fv w (w.heap.size + 1) sb lb nb w.heap.size xa T d d.a.sure d.b.sure d.a.now d.b.now d.a.whole d.b.whole u0 u1 (.slice a d.a.now.length c) (.slice a' d.b.now.length c') wr) := ⟨S0.lt, S0.ks, S0.kl, hK, S0.kx, S0.r0, S0.r1, hR, hR'⟩
            have HFI := hide9 S0.lt.fine
            have hC := S0.lt.fail
            clear S0 hK hR hR' HS
            obtain ⟨d2, HD2⟩ : ∃ d2 : Dk.D, Hid (d2 = { d.fail with a := d.a.lose xa.k0 xa.c0, b := d.b.lose xa.k1 xa.c1, on := true, fuse := -1 }) := ⟨_, rfl⟩
            have HST : Hid (d.fail.start xa.k0 xa.k1 xa.c0 xa.c1 = (0, d2)) := by
              show d.fail.start xa.k0 xa.k1 xa.c0 xa.c1 = (0, d2)
              rw [HD2.out]
              rfl
            have HD2C : Hid (d2.Calm) := by
              show d2.Calm
              rw [HD2.out]
              exact ⟨rfl, rfl⟩
            go_wp2_with (first
              | (go_at_call 19; refine hC.mono ?_; rintro e w9 ⟨rfl, L9, hO9⟩; have HF9 := hide9 (HF.out.own (L9.more HF.out.lt.bel.size) hO9); have x5 : w9.cell? ⟨w.heap.size, 5, none⟩ = some (.int .i64 xa.k0) := HF9.out.kx.cell 5; have x6 : w9.cell? ⟨w.heap.size, 6, none⟩ = some (.int .i64 xa.k1) := HF9.out.kx.cell 6; have x7 : w9.cell? ⟨w.heap.size, 7, none⟩ = some (.bool xa.c0) := HF9.out.kx.cell 7; have x8 : w9.cell? ⟨w.heap.size, 8, none⟩ = some (.bool xa.c1) := HF9.out.kx.cell 8; have hC2 := HF9.out.lt.start xa.k0 xa.k1 xa.c0 xa.c1 HX1.out.k0 HX1.out.k1 HST.out; unfold LtPost at hC2; clear L9 hO9 hC)
              | (go_at_call 20; refine hC2.mono ?_; rintro e w11 ⟨rfl, L11, hO11⟩; have HF11 := hide9 (HF9.out.own L11 hO11); clear L11 hO11 hC2 x5 x6 x7 x8))
            generalize More (More T wr w9) w9 w11 = T2 at *
            clear HF HF9 HT HNS HNB HU HST
            go_loopw [138] (fun i wr => (i = .int .i64 0 ∨ i = .int .i64 1 ∨ i = .int .i64 2) ∧ Fv w (w.heap.size + 1) sb lb nb w.heap.size xa T2 d2 d.a.sure d.b.sure d.a.now d.b.now d.a.whole d.b.whole u0 u1 (.slice a d.a.now.length c) (.slice a' d.b.now.length c') wr) (fun i _ => 2 - (intOf i).toNat)
            case atStart => exact ⟨.inl rfl, HF11.out⟩
            case round =>
              obtain ⟨hi, hF⟩ := hrel
              clear HF11
              rcases hi with rfl | rfl | rfl
              · have F9 := hF
                have HFV := hide9 hF
                obtain ⟨sa9, sc9, hsf⟩ := hF.r0.form
                have hC3 := hF.lt.reads9 0 (l := d.a.left xa.k0 xa.c0) (q := 0) (hide9 ((calm_read HD2C.out (.inl rfl)).trans (by rw [HD2.out]; rfl))) (hide9 (calm_why HD2C.out (.inl rfl)))
                have HLO := hide9 (Dk.left_ok d.a HFI.out.a xa.k0 xa.c0)
                have HWS := hide9 (HFI.out.a.whole)
                have HLL := hide9 (Dk.Cn.left_len HFI.out.a xa.k0 xa.c0)
                clear F9 hF
                generalize d.a.left xa.k0 xa.c0 = B at *
                go_wp2_with (go_at_call 18; refine hC3.mono ?_; rintro e w10 ⟨ua, uc, rfl, hu, hB, _⟩; have HFW := hide9 (HFV.out.below hB); have HUR := hide9 hu; clear hu hB hC3)
                have i1 : w10.cell? ⟨lb, 0, none⟩ = some (.int .i64 (d.a.whole : Int)) := HFW.out.kl.cell 0
                have i2 : w10.cell? ⟨sb, 0, none⟩ = some (.slice sa9 d.a.sure.length sc9) := by rw [← hsf]; exact HFW.out.ks.cell 0
                have i3 : w10.cell? ⟨nb, 0, none⟩ = some (.slice a d.a.now.length c) := HFW.out.kn.cell 0
                have hp := HLO.out
                have hrf := HFW.out.r0
                rw [hsf] at hrf
                have hqf := HFW.out.q0
                have hsl : d.a.whole ≤ d.a.sure.length := by
                  have := congrArg List.length hp.2.1
                  simp at this
                  have := hp.1
                  omega
                have v1 := fun m => conv_drewN HUR.out d.a.whole hp.1 m
                have v2 := fun m => conv_drewN hrf d.a.whole hsl m
                have v3 := fun m => conv_drewN HUR.out B.length (Nat.le_refl _) m
                have v4 := fun m => conv_drewN hrf d.a.sure.length (Nat.le_refl _) m
                simp only [List.take_length] at v3 v4
                rw [hp.2.1] at v1
                have hcb : B.length ≤ uc := HUR.out.1.cap
                have hcs : d.a.sure.length ≤ sc9 := hrf.1.cap
                have n1 : ¬ (B.length : Int) < (d.a.whole : Int) := by have := hp.1; omega
                have n2 : d.a.whole ≤ uc := by have := hp.1; omega
                have n3 : d.a.whole ≤ sc9 := by omega
                have s1 := str_beq_yes (rfl : d.a.sure.take d.a.whole = d.a.sure.take d.a.whole)
                have n1d : decide ((B.length : Int) < (d.a.whole : Int)) = false := decide_eq_false n1
                have n1n : ¬ B.length < d.a.whole := by have := hp.1; omega
                have n1m : decide (B.length < d.a.whole) = false := decide_eq_false n1n
                by_cases hbs2 : B = d.a.sure
                · subst hbs2
                  have s2 := str_beq_yes (rfl : d.a.sure = d.a.sure)
                  clear hp hrf hqf
                  go_wp2
                  go_quiet (fail)
                  go_wp2
                  go_quiet (fail)
                  go_wp2
                  exact ⟨⟨.inr (.inl rfl), HFW.out.below (below_drewN (Below.refl _ _) _)⟩, by simp [intOf]⟩
                · have s2 := str_beq_no hbs2
                  have hp4 := hp.2.2.resolve_left hbs2
                  have v5 := fun m => conv_drewN hqf B.length hp4.1 m
                  rw [← hp4.2] at v5
                  have s3 := str_beq_yes (rfl : B = B)
                  have n4 : ¬ (d.a.now.length : Int) < (B.length : Int) := by have := hp4.1; omega
                  have n4d : decide ((d.a.now.length : Int) < (B.length : Int)) = false := decide_eq_false n4
                  have n4n : ¬ d.a.now.length < B.length := by have := hp4.1; omega
                  have n4m : decide (d.a.now.length < B.length) = false := decide_eq_false n4n
                  have n5 : B.length ≤ c := by have := hqf.1.cap; have := hp4.1; omega
                  clear hp hrf hqf hp4
                  go_wp2
                  go_quiet (fail)
                  go_wp2
                  go_quiet (fail)
                  go_wp2
                  exact ⟨⟨.inr (.inl rfl), HFW.out.below (below_drewN (Below.refl _ _) _)⟩, by simp [intOf]⟩
              · have F9 := hF
                have HFV := hide9 hF
                obtain ⟨sa9, sc9, hsf⟩ := hF.r1.form
                have hC3 := hF.lt.reads9 1 (l := d.b.left xa.k1 xa.c1) (q := 0) (hide9 ((calm_read HD2C.out (.inr rfl)).trans (by rw [HD2.out]; rfl))) (hide9 (calm_why HD2C.out (.inr rfl)))
                have HLO := hide9 (Dk.left_ok d.b HFI.out.b xa.k1 xa.c1)
                have HWS := hide9 (HFI.out.b.whole)
                have HLL := hide9 (Dk.Cn.left_len HFI.out.b xa.k1 xa.c1)
                clear F9 hF
                generalize d.b.left xa.k1 xa.c1 = B at *
                go_wp2_with (go_at_call 18; refine hC3.mono ?_; rintro e w10 ⟨ua, uc, rfl, hu, hB, _⟩; have HFW := hide9 (HFV.out.below hB); have HUR := hide9 hu; clear hu hB hC3)
                have i1 : w10.cell? ⟨lb, 1, none⟩ = some (.int .i64 (d.b.whole : Int)) := HFW.out.kl.cell 1
                have i2 : w10.cell? ⟨sb, 1, none⟩ = some (.slice sa9 d.b.sure.length sc9) := by rw [← hsf]; exact HFW.out.ks.cell 1
                have i3 : w10.cell? ⟨nb, 1, none⟩ = some (.slice a' d.b.now.length c') := HFW.out.kn.cell 1
                have hp := HLO.out
                have hrf := HFW.out.r1
                rw [hsf] at hrf
                have hqf := HFW.out.q1
                have hsl : d.b.whole ≤ d.b.sure.length := by
                  have := congrArg List.length hp.2.1
                  simp at this
                  have := hp.1
                  omega
                have v1 := fun m => conv_drewN HUR.out d.b.whole hp.1 m
                have v2 := fun m => conv_drewN hrf d.b.whole hsl m
                have v3 := fun m => conv_drewN HUR.out B.length (Nat.le_refl _) m
                have v4 := fun m => conv_drewN hrf d.b.sure.length (Nat.le_refl _) m
                simp only [List.take_length] at v3 v4
                rw [hp.2.1] at v1
                have hcb : B.length ≤ uc := HUR.out.1.cap
                have hcs : d.b.sure.length ≤ sc9 := hrf.1.cap
                have n1 : ¬ (B.length : Int) < (d.b.whole : Int) := by have := hp.1; omega
                have n2 : d.b.whole ≤ uc := by have := hp.1; omega
                have n3 : d.b.whole ≤ sc9 := by omega
                have s1 := str_beq_yes (rfl : d.b.sure.take d.b.whole = d.b.sure.take d.b.whole)
                have n1d : decide ((B.length : Int) < (d.b.whole : Int)) = false := decide_eq_false n1
                have n1n : ¬ B.length < d.b.whole := by have := hp.1; omega
                have n1m : decide (B.length < d.b.whole) = false := decide_eq_false n1n
                by_cases hbs2 : B = d.b.sure
                · subst hbs2
                  have s2 := str_beq_yes (rfl : d.b.sure = d.b.sure)
                  clear hp hrf hqf
                  go_wp2
                  go_quiet (fail)
                  go_wp2
                  go_quiet (fail)
                  go_wp2
                  exact ⟨⟨.inr (.inr rfl), HFW.out.below (below_drewN (Below.refl _ _) _)⟩, by simp [intOf]⟩
                · have s2 := str_beq_no hbs2
                  have hp4 := hp.2.2.resolve_left hbs2
                  have v5 := fun m => conv_drewN hqf B.length hp4.1 m
                  rw [← hp4.2] at v5
                  have s3 := str_beq_yes (rfl : B = B)
                  have n4 : ¬ (d.b.now.length : Int) < (B.length : Int) := by have := hp4.1; omega
                  have n4d : decide ((d.b.now.length : Int) < (B.length : Int)) = false := decide_eq_false n4
                  have n4n : ¬ d.b.now.length < B.length := by have := hp4.1; omega
                  have n4m : decide (d.b.now.length < B.length) = false := decide_eq_false n4n
                  have n5 : B.length ≤ c' := by have := hqf.1.cap; have := hp4.1; omega
                  clear hp hrf hqf hp4
                  go_wp2
                  go_quiet (fail)
                  go_wp2
                  go_quiet (fail)
                  go_wp2
                  exact ⟨⟨.inr (.inr rfl), HFW.out.below (below_drewN (Below.refl _ _) _)⟩, by simp [intOf]⟩
              · have hRt := hF.lt.root
                have hAl := alive9_any wr
                have HBF := hide9 hF.lt.bel
                rw [HD2C.out.on] at hRt
                have hrt : d2.root = d.root := by rw [HD2.out]; rfl
                rw [hrt] at hRt
                simp only [if_true] at hRt
                clear hF hrt
                go_wp2_with (first
                  | (go_at_call 17; refine hRt.mono ?_; rintro e wz ⟨rfl, he⟩; replace he := he.symm; subst he)
                  | (go_at_call 10; refine hAl.mono ?_; rintro e w3 ⟨rfl, hB3⟩))
                go_ret
                exact ⟨rfl, bel HBF.out hB3⟩
end Go.Proofs.Ytmmpbjpeiclacaa.diskSure
