/- The walk of the law JournalKept, out of the contracts. -/
import Derived.Test.YtnnlmnjbmbflpaaJnZ
set_option linter.unusedVariables false
set_option linter.unusedSimpArgs false
namespace Go.Proofs.Ytnnlmnjbmbflpaa.journalKept
open Go.RowKit
set_option maxHeartbeats 40000000 in
set_option maxRecDepth 100000 in
theorem walk (v0 : Value) (as9 : List Aj) (w : World) (h0 : ArgJ w v0 as9) :
    Calls Try.prog 6 #[v0] w fun e w' => e = .returned (.bool true) ∧ Below w.heap.size w w' := by
  obtain ⟨hva, hla⟩ := h0
  have hN := New_yes 1048576 (by decide) (by decide) w
  have HA : Hid (RJs w v0 as9) := hva
  have HLA : Hid (as9.length ≤ maxLen) := hla
  clear hva hla
  go_enter Try.func6, Try.ntmps6
  go_wp2_with (go_at_call 9; refine hN.mono ?_; rintro e w1 ⟨rfl, hD1, hB1⟩; have L1 := hide9 (Lt.new (Below.refl _ w) hD1 hB1); have hF := far10_any (HA.out.below hB1) HLA.out; clear hN hD1)
  refine hF.mono ?_
  rintro e w2 ⟨⟨x, rfl, hx⟩, hB2⟩
  have L2 := hide9 (L1.out.below hB2)
  have hAl := alive10_any w2
  have HB2 := hide9 (bel hB1 hB2)
  clear hF L1 hB1 hB2
  cases x with
  | true =>
    clear hx
    go_wp2_with (go_at_call 22; refine hAl.mono ?_; rintro e w3 ⟨rfl, hB3⟩)
    go_ret
    exact ⟨rfl, bel HB2.out hB3⟩
  | false =>
    clear hAl
    have HXX := hide9 (hx rfl)
    clear hx
    have hO := L2.out.opens rfl (by exact Jn.opens_new 1048576) (by exact Jn.recs_new 1048576)
    have hSh := fun (W : World) (hW : Below w.heap.size w W) => short10_any (HA.out.below hW) HLA.out
    have HSH := hide9 hSh
    clear hSh
    have hbs : (as9.take 40).length ≤ 40 := by simp; omega
    generalize as9.take 40 = bs at *
    go_wp2_with (first
      | (go_at_call 23; refine hO.mono ?_; rintro e w5 ⟨T5, jb, a5, c5, rfl, hJ5, hT5, -⟩; have HJ5 := hide9 hJ5; have hSh := HSH.out w5 hJ5.bel; clear hO hJ5 hT5)
      | (go_at_call 25; refine hSh.mono ?_; rintro e w6 ⟨v6, rfl, hv6, he⟩; replace he := he.symm; subst he; have HV6 := hide9 (hv6 w HA.out); obtain ⟨xa, xc, rfl, hxc⟩ := HV6.out.form; clear hSh hv6))
    have HP5 : Hid (Jn.Kp (Dk.new 1048576) []) := Jn.new_kp 1048576
    have HK5 := hide9 (KVE.nil w T5 w5)
    clear HA HLA HSH L2 HB2
    go_loopw [5, 8, 9, 54] (fun jv sv gv i wr => ∃ (j : Nat) (T : Nat → Prop) (jb : Nat) (d : Dk.D) (ss gs : List (List UInt8)) (svv gvv : Value), j ≤ bs.length ∧ i = .int .i64 (j : Int) ∧ jv = ptr jb 0 ∧ sv = svv ∧ gv = gvv ∧ JR w T w.heap.size jb d gs wr ∧ Hid (Jn.Kp d ss) ∧ Hid (KVE w T wr svv gvv ss gs)) (fun _ _ _ i _ => bs.length - (intOf i).toNat)
    case atStart => exact ⟨0, _, _, _, _, _, _, _, Nat.zero_le _, rfl, rfl, rfl, rfl, HJ5.out, HP5, HK5⟩
    case round =>
      obtain ⟨j, T, jb, d, ss, gs, svv, gvv, hj, rfl, rfl, hse, hge, hJ, HP, HK⟩ := hrel
      clear HJ5 HP5 HK5
      by_cases hlt : j < bs.length
      · have hji : (j : Int) < (bs.length : Int) := by omega
        obtain ⟨-, -, ab, ao, rfl, hr, hA⟩ := RJs.at (HV6.out.below hJ.bel) hlt
        have hone := one_row hA.rb
        have h20 := HXX.out _ (List.getElem_mem hlt)
        have HA0 := hide9 (HV6.out.ok hlt)
        have hm7 := rem7 _ hA.kind
        generalize bs[j] = ac at *
        have HJ := hide9 hJ
        obtain ⟨ra, rc, hrv⟩ := hA.rb.form
        have HNX : Hid (¬ T wr.heap.size) := fun hx => by have := hJ.low _ hx; omega
        have hgsb : gs.length ≤ 120000 := by
          have := frames_nine gs hJ.all
          have := hJ.small
          omega
        have hssb : ss.length ≤ 120000 := by
          have h1 := frames_nine ss HP.out.all
          have h2 := hJ.fine.a.now
          rw [HP.out.core.a] at h2
          simp only at h2
          omega
        obtain ⟨sa, sc, hsv, hsc⟩ : ∃ a c, svv = .slice a ss.length c ∧ ss.length ≤ c := by
          obtain ⟨xs, ys, hk⟩ := HK.out
          exact hk.s.form
        obtain ⟨ga, gc, hgv, hgc⟩ : ∃ a c, gvv = .slice a gs.length c ∧ gs.length ≤ c := by
          obtain ⟨xs, ys, hk⟩ := HK.out
          exact hk.g.form
        subst hsv
        subst hgv
        subst hse
        subst hge
        clear hJ hA
        have hk7 : ac.kind % 7 = 0 ∨ ac.kind % 7 = 1 ∨ ac.kind % 7 = 2 ∨ ac.kind % 7 = 3 ∨ ac.kind % 7 = 4 ∨ ac.kind % 7 = 5 ∨ ac.kind % 7 = 6 := by omega
        rcases hk7 with hk7 | hk7 | hk7 | hk7 | hk7 | hk7 | hk7 <;> rw [hk7] at hm7 <;> clear hk7
        · by_cases hq : Jn.fits d (Jn.frames gs).length ac.rs = 0
          · have HQ := hide9 hq
            have hqa := Jn.fits_zero hq
            obtain ⟨zs, hzs⟩ := HA0.out.rb.x
            have HZ := hide9 hzs
            have hzl : Hid (zs.length = ac.rs.length) := hzs.len
            clear hq hzs
            go_wp2_with (first
              | ((with_reducible show wpList _ _ _ ({ op := Op.load 63 _, .. } :: _) _ _); refine wpList_load_J rfl _ rfl _ _ rfl ac hr ?_; clear hr)
              | ((with_reducible show wpList _ _ _ ({ op := Op.store 63 _ _, .. } :: _) _ _); refine wpList_store_J _ _ rfl rfl _ ac _ rfl rfl (heap_new _ _) rfl hone ?_; intro wn hAn hOn; have c0 : wn.cell? ⟨wr.heap.size, 0, none⟩ = some (.int .u8 (ac.kind : Int)) := hAn.cell 0; have hBn := store_below hOn; have HX := hide9 (Bx.mk hAn HNX.out); replace HJ := hide9 (HJ.out.below hBn); replace HK := hide9 (HK.out.below hBn); have c1 : wn.cell? ⟨wr.heap.size, 1, none⟩ = some (.slice ra ac.rs.length rc) := (by rw [HX.out.rv, hrv]); have C := HJ.out.add (HJ.out.rx HA0.out h20) (q := 0) (by exact HQ.out); rw [if_pos rfl, hrv] at C; clear hBn hOn hAn)
              | (go_at_call 40; refine C.mono ?_; rintro e w2 ⟨T2, rfl, hJ2, hT2⟩; replace HJ := hide9 hJ2; replace HK := hide9 (HK.out.tw hT2); replace HX := hide9 (HX.out.tw hT2); have c2 : w2.cell? ⟨wr.heap.size, 1, none⟩ = some (.slice ra ac.rs.length rc) := (by rw [HX.out.rv, hrv]); obtain ⟨xs, ys, hkv⟩ := HK.out; have HKV := hide9 hkv; have hyl : Hid (ys.length = gs.length) := hkv.g.len; have hzx := hrv ▸ HZ.out; clear C hJ2 hT2 hkv)
              | (refine wpList_append_rows rfl (.tmp 69) (.tmp 71) rfl _ _ _ rfl HKV.out.g.row _ zs rfl (hzx.below HJ.out.bel).src.1 (hzx.below HJ.out.bel).src.2 (by have := hzl.out; omega) ?_; intro v3 w3 h31 h32 h33; have HK3 := hide9 (HKV.out.add HJ.out.low HJ.out.base HJ.out.bel hzx h31 h32 h33); replace HJ := hide9 (HJ.out.keep (fun k e => (HKV.out.g.o k e).1) HKV.out.bg (own_grown h32)); clear HK HKV h31 h32 h33; have HK := HK3; clear HK3)
              | (go_at_call 16; refine (HJ.out.lt.onH (x := true) (by exact HP.out.on)).mono ?_; rintro e w9 ⟨rfl, he⟩; replace he := he.symm; subst he))
            exact ⟨⟨j + 1, _, _, _, _, _, _, _, by omega, by go_num, rfl, rfl, rfl, HJ.out, HP, HK⟩, by simp [intOf]; omega⟩
          · obtain ⟨q, HQ⟩ : ∃ q, Hid (Jn.fits d (Jn.frames gs).length ac.rs = q) := ⟨_, rfl⟩
            have hq9 : q ≠ 0 := by rw [← HQ.out]; exact hq
            have hqb : (q == 0) = false := by simpa using hq9
            clear hq
            go_wp2_with (first
              | ((with_reducible show wpList _ _ _ ({ op := Op.load 63 _, .. } :: _) _ _); refine wpList_load_J rfl _ rfl _ _ rfl ac hr ?_; clear hr)
              | ((with_reducible show wpList _ _ _ ({ op := Op.store 63 _ _, .. } :: _) _ _); refine wpList_store_J _ _ rfl rfl _ ac _ rfl rfl (heap_new _ _) rfl hone ?_; intro wn hAn hOn; have c0 : wn.cell? ⟨wr.heap.size, 0, none⟩ = some (.int .u8 (ac.kind : Int)) := hAn.cell 0; have hBn := store_below hOn; have HX := hide9 (Bx.mk hAn HNX.out); replace HJ := hide9 (HJ.out.below hBn); replace HK := hide9 (HK.out.below hBn); have c1 : wn.cell? ⟨wr.heap.size, 1, none⟩ = some (.slice ra ac.rs.length rc) := (by rw [HX.out.rv, hrv]); have C := HJ.out.add (HJ.out.rx HA0.out h20) (q := q) (by exact HQ.out); rw [if_neg hq9, hrv] at C; clear hBn hOn hAn)
              | (go_at_call 40; refine C.mono ?_; rintro e w2 ⟨T2, rfl, hJ2, hT2⟩; replace HJ := hide9 hJ2; replace HK := hide9 (HK.out.tw hT2); clear C hJ2 hT2)
              | (go_at_call 16; refine (HJ.out.lt.onH (x := true) (by exact HP.out.on)).mono ?_; rintro e w9 ⟨rfl, he⟩; replace he := he.symm; subst he))
            exact ⟨⟨j + 1, _, _, _, _, _, _, _, by omega, by go_num, rfl, rfl, rfl, HJ.out, HP, HK⟩, by simp [intOf]; omega⟩
        · obtain ⟨r, HR⟩ : ∃ r, Hid (Jn.commits d gs = r) := ⟨_, rfl⟩
          rcases Jn.commit_kp HP.out HJ.out.all HR.out with ⟨hr1, hr2⟩ | ⟨hr1, hr2⟩ | ⟨hr1, hr2⟩
          · have HP2 := hide9 hr2
            clear hr2
            go_wp2_with (first
              | ((with_reducible show wpList _ _ _ ({ op := Op.load 63 _, .. } :: _) _ _); refine wpList_load_J rfl _ rfl _ _ rfl ac hr ?_; clear hr)
              | ((with_reducible show wpList _ _ _ ({ op := Op.store 63 _ _, .. } :: _) _ _); refine wpList_store_J _ _ rfl rfl _ ac _ rfl rfl (heap_new _ _) rfl hone ?_; intro wn hAn hOn; have c0 : wn.cell? ⟨wr.heap.size, 0, none⟩ = some (.int .u8 (ac.kind : Int)) := hAn.cell 0; have hBn := store_below hOn; have HX := hide9 (Bx.mk hAn HNX.out); replace HJ := hide9 (HJ.out.below hBn); replace HK := hide9 (HK.out.below hBn); have C := HJ.out.commit HR; rw [hr1] at C; rw [if_pos rfl] at C; clear hBn hOn hAn)
              | (go_at_call 41; refine C.mono ?_; rintro e w2 ⟨T2, rfl, hJ2, hT2⟩; replace HJ := hide9 hJ2; replace HK := hide9 (HK.out.tw hT2); obtain ⟨xs, ys, hkv⟩ := HK.out; have HKV := hide9 hkv; have hyl : Hid (ys.length = gs.length) := hkv.g.len; replace HP := HP2; clear C hJ2 hT2 hkv)
              | (refine wpList_append_rows rfl (.tmp 79) (.tmp 80) rfl _ _ _ rfl HKV.out.s.row _ ys rfl HKV.out.g.src HKV.out.g.ones (by have := hyl.out; omega) ?_; intro v3 w3 h31 h32 h33; have HK3 := hide9 (HKV.out.sure HJ.out.low HJ.out.bel.size h31 h32 h33); replace HJ := hide9 (HJ.out.keep (fun k e => (HKV.out.s.o k e).1) HKV.out.bs (own_grown h32)); clear HK HKV h31 h32 h33; have HK := HK3; clear HK3)
              | (go_at_call 16; refine (HJ.out.lt.onH (x := true) (by exact HP.out.on)).mono ?_; rintro e w9 ⟨rfl, he⟩; replace he := he.symm; subst he))
            exact ⟨⟨j + 1, _, _, _, _, _, _, _, by omega, by go_num, rfl, rfl, rfl, HJ.out, HP, HK⟩, by simp [intOf]; omega⟩
          · have hrd : r.2 = d := hr2
            clear hr2
            go_wp2_with (first
              | ((with_reducible show wpList _ _ _ ({ op := Op.load 63 _, .. } :: _) _ _); refine wpList_load_J rfl _ rfl _ _ rfl ac hr ?_; clear hr)
              | ((with_reducible show wpList _ _ _ ({ op := Op.store 63 _ _, .. } :: _) _ _); refine wpList_store_J _ _ rfl rfl _ ac _ rfl rfl (heap_new _ _) rfl hone ?_; intro wn hAn hOn; have c0 : wn.cell? ⟨wr.heap.size, 0, none⟩ = some (.int .u8 (ac.kind : Int)) := hAn.cell 0; have hBn := store_below hOn; have HX := hide9 (Bx.mk hAn HNX.out); replace HJ := hide9 (HJ.out.below hBn); replace HK := hide9 (HK.out.below hBn); have C := HJ.out.commit HR; rw [hr1] at C; rw [if_neg (by decide), hrd] at C; clear hBn hOn hAn)
              | (go_at_call 41; refine C.mono ?_; rintro e w2 ⟨T2, rfl, hJ2, hT2⟩; replace HJ := hide9 hJ2; replace HK := hide9 (HK.out.tw hT2); clear C hJ2 hT2)
              | (go_at_call 16; refine (HJ.out.lt.onH (x := true) (by exact HP.out.on)).mono ?_; rintro e w9 ⟨rfl, he⟩; replace he := he.symm; subst he))
            exact ⟨⟨j + 1, _, _, _, _, _, _, _, by omega, by go_num, rfl, rfl, rfl, HJ.out, HP, HK⟩, by simp [intOf]; omega⟩
          · have HT := hide9 hr2
            clear hr2
            go_wp2_with (first
              | ((with_reducible show wpList _ _ _ ({ op := Op.load 63 _, .. } :: _) _ _); refine wpList_load_J rfl _ rfl _ _ rfl ac hr ?_; clear hr)
              | ((with_reducible show wpList _ _ _ ({ op := Op.store 63 _ _, .. } :: _) _ _); refine wpList_store_J _ _ rfl rfl _ ac _ rfl rfl (heap_new _ _) rfl hone ?_; intro wn hAn hOn; have c0 : wn.cell? ⟨wr.heap.size, 0, none⟩ = some (.int .u8 (ac.kind : Int)) := hAn.cell 0; have hBn := store_below hOn; have HX := hide9 (Bx.mk hAn HNX.out); replace HJ := hide9 (HJ.out.below hBn); replace HK := hide9 (HK.out.below hBn); have C := HJ.out.commit HR; rw [hr1] at C; rw [if_neg (by decide)] at C; clear hBn hOn hAn)
              | (go_at_call 41; refine C.mono ?_; rintro e w2 ⟨T2, rfl, hJ2, hT2⟩; replace HJ := hide9 hJ2; replace HK := hide9 (HK.out.tw hT2); replace HX := hide9 (HX.out.tw hT2); clear C hJ2 hT2))
            obtain ⟨dS, dN, m, hm, e1, e2, e3, e4, hKp⟩ := Jn.kt_opens HT.out ac.k0 ac.k1 ac.c0 ac.c1
            have hm9 := hm
            obtain ⟨es, HES⟩ : ∃ es, Hid (es = ss ++ gs.take m) := ⟨_, rfl⟩
            rw [← HES.out] at e4 hKp
            have HS1 := hide9 e1
            have HS2 := hide9 e2
            have HS3 := hide9 e3
            have HS4 := hide9 e4
            have HP2 := hide9 hKp
            have HS5 := hide9 (Jn.opens_kp hKp).1
            have HS6 := hide9 (Jn.opens_kp hKp).2
            have HEL : Hid (es.length = ss.length + m) := by
              show es.length = ss.length + m
              rw [HES.out, List.length_append, List.length_take]
              omega
            have hELb : es.length ≤ 400000 := by have := HEL.out; omega
            have hel : (es.length : Int) - (ss.length : Int) = (m : Int) := by have := HEL.out; omega
            have HSL : Hid (∀ W', (Instr.slice 54 (.slice ga gs.length gc) none (some (.int .i64 (m : Int))) none).run Try.prog W' = .ok (.slice ga m gc) W') := fun W' => cut_rows ga gs.length gc m (by omega) W'
            clear e1 e2 e3 e4 hKp hm
            replace HX := hide9 HX.out
            have x4 := HX.out.box.keep
            have x6 := HX.out.box.cut
            have C11 := HJ.out.start ac.k0 ac.k1 ac.c0 ac.c1 HA0.out.k0 HA0.out.k1 HS1.out
            go_wp2_with (first
              | (go_at_call 16; refine (HJ.out.lt.onH (x := false) (by exact HT.out.on)).mono ?_; rintro e w9 ⟨rfl, he⟩; replace he := he.symm; subst he)
              | ((with_reducible show wpList _ _ _ ({ op := Op.load 38 _, .. } :: _) _ _); refine wpList_load_mid rfl _ _ rfl _ 4 rfl _ _ x4 Try.underlying38 rfl size2i ?_)
              | ((with_reducible show wpList _ _ _ ({ op := Op.load 39 _, .. } :: _) _ _); refine wpList_load_mid rfl _ _ rfl _ 6 rfl _ _ x6 Try.underlying39 rfl size2b ?_)
              | (go_at_call 31; refine C11.mono ?_; rintro e w12 ⟨T12, rfl, hJ12, hT12⟩; have HK12 := hide9 (HK.out.tw hT12); have C12 := hJ12.lt.opensO HS2.out HS3 HS4; have HZ12 := hide9 hJ12.bel.size; clear C11 hJ12 hT12 x4 x6 HK HJ HX)
              | (go_at_call 23; refine C12.mono ?_; rintro e w13 ⟨T13, jb2, la, lc, rfl, hJ13, hT13, hQ13⟩; have HK13 := hide9 (HK12.out.tw hT13); have HL13 := hide9 (KVE.opened (w0 := w) hQ13 HZ12.out); have C13 := hJ13.againO HP2.out.on HS5 HS6; have HZ13 := hide9 hJ13.bel.size; clear C12 hJ13 hT13 hQ13 HK12)
              | (go_at_call 23; refine C13.mono ?_; rintro e w14 ⟨T14, jb3, ka, kc, rfl, hJ14, hT14, hQ14⟩; have HK14 := hide9 (HK13.out.tw hT14); have HL14 := hide9 (HL13.out.tw hT14); have HR14 := hide9 (KVE.opened (w0 := w) hQ14 HZ13.out); have HJ14 := hide9 hJ14; have C14 : Calls Try.prog 33 #[.slice la es.length lc, .slice ka es.length kc] w14 (fun e w' => e = .returned (.bool true) ∧ Below w14.heap.size w14 w') := (by obtain ⟨x1, y1, k1⟩ := HL14.out; obtain ⟨x2, y2, k2⟩ := HR14.out; have := Same_any k1.s.rbs k2.s.rbs (by omega) (by omega); rwa [decide_eq_true rfl] at this); clear C13 hJ14 hT14 hQ14 HK13 HL13)
              | (go_at_call 33; refine C14.mono ?_; rintro e w15 ⟨rfl, hB15⟩; have HK15 := hide9 (HK14.out.below hB15); have HL15 := hide9 (HL14.out.below hB15); have HJ15 := hide9 (HJ14.out.below hB15); clear C14 HK14 HL14 HJ14 hB15))
            obtain ⟨xs, ys, hkv⟩ := HK15.out
            have HKV := hide9 hkv
            have hsl := HSL.out
            have hxl : Hid (xs.length = ss.length) := hkv.s.len
            have hyl : Hid (ys.length = gs.length) := hkv.g.len
            clear hkv
            have hBd := bel_drew w15
            have HKB : Hid (∀ W, Below w15.heap.size w15 W → KV w T14 W (.slice sa ss.length sc) (.slice ga gs.length gc) ss gs xs ys) := fun W hW => HKV.out.low9 hW
            clear HK15
            have hnil : ∀ W : World, W.ownsRow 0 27 1 (.slice none 0 0) 0 [] := fun W => World.ownsRow_nil _ _ _ _
            have HNIL := hide9 hnil
            clear hnil
            have q1 := (HKB.out _ hBd).s.src
            have q2 := (HKB.out _ hBd).s.ones
            have q3 : 0 + xs.length ≤ 1000000 := by have := hxl.out; omega
            go_region_law (first
              | (refine step_append_rows rfl (.const (.slice none 0 0)) (.tmp 163) rfl (.slice none 0 0) 0 [] rfl (HNIL.out _) (.slice sa ss.length sc) xs rfl q1 q2 q3 ?_; intro v17 w17 h171 h172 h173; have hg17 := own_grown h172; have hB17 := bel hBd (own_nil hg17); have g173 : ∀ k, v17.ownBlock = some k → w15.heap.size ≤ k := (fun k e => by rcases h173 with e2 | e2 <;> rw [e2] at e <;> cases e; exact Nat.le_refl _); have q4 := (HKB.out _ hB17).g.srcT m hm9; have q5 := (HKB.out _ hB17).g.ones.take m; have q6 : 0 + xs.length + (ys.take m).length ≤ 1000000 := (by have := hxl.out; have := hyl.out; rw [List.length_take]; omega); have H171 := hide9 h171; clear h171 h172 h173 hg17)
              | (refine step_append_rows rfl (.tmp 164) (.tmp 167) rfl v17 (0 + xs.length) ([] ++ xs) rfl H171.out (.slice ga m gc) (ys.take m) rfl q4 q5 q6 ?_; intro v18 w18 h181 h182 h183; have hB18 : Below w15.heap.size w15 w18 := hB17.trans ((own_grown h182).below g173 hB17.size); have C18 : Calls Try.prog 33 #[.slice la es.length lc, v18] w18 (fun e w' => e = .returned (.bool true) ∧ Below w18.heap.size w18 w') := (by obtain ⟨x1, y1, k1⟩ := HL15.out.below hB18; have hb := HKV.out.both hB18 m hm9 (by have h9 := h181; rw [Nat.zero_add, hxl.out, List.nil_append] at h9; exact h9); rw [← HES.out] at hb; have := Same_any k1.s.rbs hb (by omega) (by omega); rwa [decide_eq_true rfl] at this); clear h181 h182 h183 H171)
              | (refine step_callee rfl 33 #[.slice la es.length lc, v18] (exec_same (.tmp 162) (.tmp 168) _ rfl _ _ rfl rfl) (.bool true) (fun w' => Below w18.heap.size w18 w') C18 ?_; intro w19 hB19; clear C18))
            all_goals
              have hB9 := bel hB18 hB19
              have HJ := hide9 (HJ15.out.below hB9)
              replace HP := HP2
              have HK := hide9 (HL15.out.below hB9)
              clear HJ15 HL15 HKB HKV
              go_wp2
              exact ⟨⟨j + 1, _, _, _, _, _, _, _, by omega, by go_num, rfl, rfl, rfl, HJ.out, HP, HK⟩, by simp [intOf]; omega⟩
        · go_wp2_with (first
            | ((with_reducible show wpList _ _ _ ({ op := Op.load 63 _, .. } :: _) _ _); refine wpList_load_J rfl _ rfl _ _ rfl ac hr ?_; clear hr)
            | ((with_reducible show wpList _ _ _ ({ op := Op.store 63 _ _, .. } :: _) _ _); refine wpList_store_J _ _ rfl rfl _ ac _ rfl rfl (heap_new _ _) rfl hone ?_; intro wn hAn hOn; have c0 : wn.cell? ⟨wr.heap.size, 0, none⟩ = some (.int .u8 (ac.kind : Int)) := hAn.cell 0; have hBn := store_below hOn; have HX := hide9 (Bx.mk hAn HNX.out); replace HJ := hide9 (HJ.out.below hBn); replace HK := hide9 (HK.out.below hBn); have C := HJ.out.drop; clear hBn hOn hAn)
            | (go_at_call 42; refine C.mono ?_; rintro e w2 ⟨T2, rfl, hJ2, hT2⟩; replace HJ := hide9 hJ2; replace HK := hide9 (HK.out.tw hT2).drop; clear C hJ2 hT2)
            | (go_at_call 16; refine (HJ.out.lt.onH (x := true) (by exact HP.out.on)).mono ?_; rintro e w9 ⟨rfl, he⟩; replace he := he.symm; subst he))
          exact ⟨⟨j + 1, _, _, _, _, _, _, _, by omega, by go_num, rfl, rfl, rfl, HJ.out, HP, HK⟩, by simp [intOf]; omega⟩
        · go_wp2_with (first
            | ((with_reducible show wpList _ _ _ ({ op := Op.load 63 _, .. } :: _) _ _); refine wpList_load_J rfl _ rfl _ _ rfl ac hr ?_; clear hr)
            | ((with_reducible show wpList _ _ _ ({ op := Op.store 63 _ _, .. } :: _) _ _); refine wpList_store_J _ _ rfl rfl _ ac _ rfl rfl (heap_new _ _) rfl hone ?_; intro wn hAn hOn; have c0 : wn.cell? ⟨wr.heap.size, 0, none⟩ = some (.int .u8 (ac.kind : Int)) := hAn.cell 0; have hBn := store_below hOn; have HX := hide9 (Bx.mk hAn HNX.out); replace HJ := hide9 (HJ.out.below hBn); replace HK := hide9 (HK.out.below hBn); skip; clear hBn hOn hAn)
            | (go_at_call 16; refine (HJ.out.lt.onH (x := true) (by exact HP.out.on)).mono ?_; rintro e w9 ⟨rfl, he⟩; replace he := he.symm; subst he))
          exact ⟨⟨j + 1, _, _, _, _, _, _, _, by omega, by go_num, rfl, rfl, rfl, HJ.out, HP, HK⟩, by simp [intOf]; omega⟩
        · go_wp2_with (first
            | ((with_reducible show wpList _ _ _ ({ op := Op.load 63 _, .. } :: _) _ _); refine wpList_load_J rfl _ rfl _ _ rfl ac hr ?_; clear hr)
            | ((with_reducible show wpList _ _ _ ({ op := Op.store 63 _ _, .. } :: _) _ _); refine wpList_store_J _ _ rfl rfl _ ac _ rfl rfl (heap_new _ _) rfl hone ?_; intro wn hAn hOn; have c0 : wn.cell? ⟨wr.heap.size, 0, none⟩ = some (.int .u8 (ac.kind : Int)) := hAn.cell 0; have hBn := store_below hOn; have HX := hide9 (Bx.mk hAn HNX.out); replace HJ := hide9 (HJ.out.below hBn); replace HK := hide9 (HK.out.below hBn); have x2 := HX.out.box.n; have x3 := HX.out.box.q; have C := HJ.out.arm ac.n HA0.out.n ac.behind; clear hBn hOn hAn)
            | (go_at_call 29; refine C.mono ?_; rintro e w2 ⟨T2, rfl, hJ2, hT2⟩; replace HJ := hide9 hJ2; replace HK := hide9 (HK.out.tw hT2); replace HP := hide9 (Jn.arm_kp HP.out ac.n ac.behind); clear C hJ2 hT2)
            | (go_at_call 16; refine (HJ.out.lt.onH (x := true) (by exact HP.out.on)).mono ?_; rintro e w9 ⟨rfl, he⟩; replace he := he.symm; subst he))
          exact ⟨⟨j + 1, _, _, _, _, _, _, _, by omega, by go_num, rfl, rfl, rfl, HJ.out, HP, HK⟩, by simp [intOf]; omega⟩
        · have HT := hide9 (Jn.fail_kt HP.out)
          go_wp2_with (first
            | ((with_reducible show wpList _ _ _ ({ op := Op.load 63 _, .. } :: _) _ _); refine wpList_load_J rfl _ rfl _ _ rfl ac hr ?_; clear hr)
            | ((with_reducible show wpList _ _ _ ({ op := Op.store 63 _ _, .. } :: _) _ _); refine wpList_store_J _ _ rfl rfl _ ac _ rfl rfl (heap_new _ _) rfl hone ?_; intro wn hAn hOn; have c0 : wn.cell? ⟨wr.heap.size, 0, none⟩ = some (.int .u8 (ac.kind : Int)) := hAn.cell 0; have hBn := store_below hOn; have HX := hide9 (Bx.mk hAn HNX.out); replace HJ := hide9 (HJ.out.below hBn); replace HK := hide9 (HK.out.below hBn); have C := HJ.out.fail; clear hBn hOn hAn)
            | (go_at_call 30; refine C.mono ?_; rintro e w2 ⟨T2, rfl, hJ2, hT2⟩; replace HJ := hide9 hJ2; replace HK := hide9 (HK.out.tw hT2); replace HX := hide9 (HX.out.tw hT2); clear C hJ2 hT2))
          obtain ⟨dS, dN, m, hm, e1, e2, e3, e4, hKp⟩ := Jn.kt_opens HT.out ac.k0 ac.k1 ac.c0 ac.c1
          obtain rfl : m = 0 := by simpa using hm
          have hm9 : 0 ≤ gs.length := Nat.zero_le _
          obtain ⟨es, HES⟩ : ∃ es, Hid (es = ss ++ gs.take 0) := ⟨_, rfl⟩
          have heq : ss ++ ([] : List (List UInt8)).take 0 = es := by rw [HES.out]; simp
          rw [heq] at e4 hKp
          have HS1 := hide9 e1
          have HS2 := hide9 e2
          have HS3 := hide9 e3
          have HS4 := hide9 e4
          have HP2 := hide9 hKp
          have HS5 := hide9 (Jn.opens_kp hKp).1
          have HS6 := hide9 (Jn.opens_kp hKp).2
          have HEL : Hid (es.length = ss.length + 0) := by
            show es.length = ss.length + 0
            rw [HES.out, List.length_append, List.length_take]
            omega
          have hELb : es.length ≤ 400000 := by have := HEL.out; omega
          have hel : (es.length : Int) - (ss.length : Int) = (0 : Int) := by have := HEL.out; omega
          have HSL : Hid (∀ W', (Instr.slice 54 (.slice ga gs.length gc) none (some (.int .i64 (0 : Int))) none).run Try.prog W' = .ok (.slice ga 0 gc) W') := fun W' => cut_rows ga gs.length gc 0 (by omega) W'
          clear e1 e2 e3 e4 hKp hm
          replace HX := hide9 HX.out
          have x4 := HX.out.box.keep
          have x6 := HX.out.box.cut
          have C11 := HJ.out.start ac.k0 ac.k1 ac.c0 ac.c1 HA0.out.k0 HA0.out.k1 HS1.out
          go_wp2_with (first
            | (go_at_call 16; refine (HJ.out.lt.onH (x := false) (by exact HT.out.on)).mono ?_; rintro e w9 ⟨rfl, he⟩; replace he := he.symm; subst he)
            | ((with_reducible show wpList _ _ _ ({ op := Op.load 38 _, .. } :: _) _ _); refine wpList_load_mid rfl _ _ rfl _ 4 rfl _ _ x4 Try.underlying38 rfl size2i ?_)
            | ((with_reducible show wpList _ _ _ ({ op := Op.load 39 _, .. } :: _) _ _); refine wpList_load_mid rfl _ _ rfl _ 6 rfl _ _ x6 Try.underlying39 rfl size2b ?_)
            | (go_at_call 31; refine C11.mono ?_; rintro e w12 ⟨T12, rfl, hJ12, hT12⟩; have HK12 := hide9 (HK.out.tw hT12); have C12 := hJ12.lt.opensO HS2.out HS3 HS4; have HZ12 := hide9 hJ12.bel.size; clear C11 hJ12 hT12 x4 x6 HK HJ HX)
            | (go_at_call 23; refine C12.mono ?_; rintro e w13 ⟨T13, jb2, la, lc, rfl, hJ13, hT13, hQ13⟩; have HK13 := hide9 (HK12.out.tw hT13); have HL13 := hide9 (KVE.opened (w0 := w) hQ13 HZ12.out); have C13 := hJ13.againO HP2.out.on HS5 HS6; have HZ13 := hide9 hJ13.bel.size; clear C12 hJ13 hT13 hQ13 HK12)
            | (go_at_call 23; refine C13.mono ?_; rintro e w14 ⟨T14, jb3, ka, kc, rfl, hJ14, hT14, hQ14⟩; have HK14 := hide9 (HK13.out.tw hT14); have HL14 := hide9 (HL13.out.tw hT14); have HR14 := hide9 (KVE.opened (w0 := w) hQ14 HZ13.out); have HJ14 := hide9 hJ14; have C14 : Calls Try.prog 33 #[.slice la es.length lc, .slice ka es.length kc] w14 (fun e w' => e = .returned (.bool true) ∧ Below w14.heap.size w14 w') := (by obtain ⟨x1, y1, k1⟩ := HL14.out; obtain ⟨x2, y2, k2⟩ := HR14.out; have := Same_any k1.s.rbs k2.s.rbs (by omega) (by omega); rwa [decide_eq_true rfl] at this); clear C13 hJ14 hT14 hQ14 HK13 HL13)
            | (go_at_call 33; refine C14.mono ?_; rintro e w15 ⟨rfl, hB15⟩; have HK15 := hide9 (HK14.out.below hB15); have HL15 := hide9 (HL14.out.below hB15); have HJ15 := hide9 (HJ14.out.below hB15); clear C14 HK14 HL14 HJ14 hB15))
          obtain ⟨xs, ys, hkv⟩ := HK15.out
          have HKV := hide9 hkv
          have hsl := HSL.out
          have hxl : Hid (xs.length = ss.length) := hkv.s.len
          have hyl : Hid (ys.length = gs.length) := hkv.g.len
          clear hkv
          have hBd := bel_drew w15
          have HKB : Hid (∀ W, Below w15.heap.size w15 W → KV w T14 W (.slice sa ss.length sc) (.slice ga gs.length gc) ss gs xs ys) := fun W hW => HKV.out.low9 hW
          clear HK15
          have hnil : ∀ W : World, W.ownsRow 0 27 1 (.slice none 0 0) 0 [] := fun W => World.ownsRow_nil _ _ _ _
          have HNIL := hide9 hnil
          clear hnil
          have q1 := (HKB.out _ hBd).s.src
          have q2 := (HKB.out _ hBd).s.ones
          have q3 : 0 + xs.length ≤ 1000000 := by have := hxl.out; omega
          go_region_law (first
            | (refine step_append_rows rfl (.const (.slice none 0 0)) (.tmp 163) rfl (.slice none 0 0) 0 [] rfl (HNIL.out _) (.slice sa ss.length sc) xs rfl q1 q2 q3 ?_; intro v17 w17 h171 h172 h173; have hg17 := own_grown h172; have hB17 := bel hBd (own_nil hg17); have g173 : ∀ k, v17.ownBlock = some k → w15.heap.size ≤ k := (fun k e => by rcases h173 with e2 | e2 <;> rw [e2] at e <;> cases e; exact Nat.le_refl _); have q4 := (HKB.out _ hB17).g.srcT 0 hm9; have q5 := (HKB.out _ hB17).g.ones.take 0; have q6 : 0 + xs.length + (ys.take 0).length ≤ 1000000 := (by have := hxl.out; have := hyl.out; rw [List.length_take]; omega); have H171 := hide9 h171; clear h171 h172 h173 hg17)
            | (refine step_append_rows rfl (.tmp 164) (.tmp 167) rfl v17 (0 + xs.length) ([] ++ xs) rfl H171.out (.slice ga 0 gc) (ys.take 0) rfl q4 q5 q6 ?_; intro v18 w18 h181 h182 h183; have hB18 : Below w15.heap.size w15 w18 := hB17.trans ((own_grown h182).below g173 hB17.size); have C18 : Calls Try.prog 33 #[.slice la es.length lc, v18] w18 (fun e w' => e = .returned (.bool true) ∧ Below w18.heap.size w18 w') := (by obtain ⟨x1, y1, k1⟩ := HL15.out.below hB18; have hb := HKV.out.both hB18 0 hm9 (by have h9 := h181; rw [Nat.zero_add, hxl.out, List.nil_append] at h9; exact h9); rw [← HES.out] at hb; have := Same_any k1.s.rbs hb (by omega) (by omega); rwa [decide_eq_true rfl] at this); clear h181 h182 h183 H171)
            | (refine step_callee rfl 33 #[.slice la es.length lc, v18] (exec_same (.tmp 162) (.tmp 168) _ rfl _ _ rfl rfl) (.bool true) (fun w' => Below w18.heap.size w18 w') C18 ?_; intro w19 hB19; clear C18))
          all_goals
            have hB9 := bel hB18 hB19
            have HJ := hide9 (HJ15.out.below hB9)
            replace HP := HP2
            have HK := hide9 (HL15.out.below hB9)
            clear HJ15 HL15 HKB HKV
            go_wp2
            exact ⟨⟨j + 1, _, _, _, _, _, _, _, by omega, by go_num, rfl, rfl, rfl, HJ.out, HP, HK⟩, by simp [intOf]; omega⟩
        · by_cases hq : Jn.fits d (Jn.frames gs).length ac.rs = 0
          · have HQ := hide9 hq
            have hqa := Jn.fits_zero hq
            obtain ⟨zs, hzs⟩ := HA0.out.rb.x
            have HZ := hide9 hzs
            have hzl : Hid (zs.length = ac.rs.length) := hzs.len
            clear hq hzs
            go_wp2_with (first
              | ((with_reducible show wpList _ _ _ ({ op := Op.load 63 _, .. } :: _) _ _); refine wpList_load_J rfl _ rfl _ _ rfl ac hr ?_; clear hr)
              | ((with_reducible show wpList _ _ _ ({ op := Op.store 63 _ _, .. } :: _) _ _); refine wpList_store_J _ _ rfl rfl _ ac _ rfl rfl (heap_new _ _) rfl hone ?_; intro wn hAn hOn; have c0 : wn.cell? ⟨wr.heap.size, 0, none⟩ = some (.int .u8 (ac.kind : Int)) := hAn.cell 0; have hBn := store_below hOn; have HX := hide9 (Bx.mk hAn HNX.out); replace HJ := hide9 (HJ.out.below hBn); replace HK := hide9 (HK.out.below hBn); have c1 : wn.cell? ⟨wr.heap.size, 1, none⟩ = some (.slice ra ac.rs.length rc) := (by rw [HX.out.rv, hrv]); have C := HJ.out.add (HJ.out.rx HA0.out h20) (q := 0) (by exact HQ.out); rw [if_pos rfl, hrv] at C; clear hBn hOn hAn)
              | (go_at_call 40; refine C.mono ?_; rintro e w2 ⟨T2, rfl, hJ2, hT2⟩; replace HJ := hide9 hJ2; replace HK := hide9 (HK.out.tw hT2); replace HX := hide9 (HX.out.tw hT2); have c2 : w2.cell? ⟨wr.heap.size, 1, none⟩ = some (.slice ra ac.rs.length rc) := (by rw [HX.out.rv, hrv]); obtain ⟨xs, ys, hkv⟩ := HK.out; have HKV := hide9 hkv; have hyl : Hid (ys.length = gs.length) := hkv.g.len; have hzx := hrv ▸ HZ.out; clear C hJ2 hT2 hkv)
              | (refine wpList_append_rows rfl (.tmp 69) (.tmp 71) rfl _ _ _ rfl HKV.out.g.row _ zs rfl (hzx.below HJ.out.bel).src.1 (hzx.below HJ.out.bel).src.2 (by have := hzl.out; omega) ?_; intro v3 w3 h31 h32 h33; have HK3 := hide9 (HKV.out.add HJ.out.low HJ.out.base HJ.out.bel hzx h31 h32 h33); replace HJ := hide9 (HJ.out.keep (fun k e => (HKV.out.g.o k e).1) HKV.out.bg (own_grown h32)); clear HK HKV h31 h32 h33; have HK := HK3; clear HK3)
              | (go_at_call 16; refine (HJ.out.lt.onH (x := true) (by exact HP.out.on)).mono ?_; rintro e w9 ⟨rfl, he⟩; replace he := he.symm; subst he))
            exact ⟨⟨j + 1, _, _, _, _, _, _, _, by omega, by go_num, rfl, rfl, rfl, HJ.out, HP, HK⟩, by simp [intOf]; omega⟩
          · obtain ⟨q, HQ⟩ : ∃ q, Hid (Jn.fits d (Jn.frames gs).length ac.rs = q) := ⟨_, rfl⟩
            have hq9 : q ≠ 0 := by rw [← HQ.out]; exact hq
            have hqb : (q == 0) = false := by simpa using hq9
            clear hq
            go_wp2_with (first
              | ((with_reducible show wpList _ _ _ ({ op := Op.load 63 _, .. } :: _) _ _); refine wpList_load_J rfl _ rfl _ _ rfl ac hr ?_; clear hr)
              | ((with_reducible show wpList _ _ _ ({ op := Op.store 63 _ _, .. } :: _) _ _); refine wpList_store_J _ _ rfl rfl _ ac _ rfl rfl (heap_new _ _) rfl hone ?_; intro wn hAn hOn; have c0 : wn.cell? ⟨wr.heap.size, 0, none⟩ = some (.int .u8 (ac.kind : Int)) := hAn.cell 0; have hBn := store_below hOn; have HX := hide9 (Bx.mk hAn HNX.out); replace HJ := hide9 (HJ.out.below hBn); replace HK := hide9 (HK.out.below hBn); have c1 : wn.cell? ⟨wr.heap.size, 1, none⟩ = some (.slice ra ac.rs.length rc) := (by rw [HX.out.rv, hrv]); have C := HJ.out.add (HJ.out.rx HA0.out h20) (q := q) (by exact HQ.out); rw [if_neg hq9, hrv] at C; clear hBn hOn hAn)
              | (go_at_call 40; refine C.mono ?_; rintro e w2 ⟨T2, rfl, hJ2, hT2⟩; replace HJ := hide9 hJ2; replace HK := hide9 (HK.out.tw hT2); clear C hJ2 hT2)
              | (go_at_call 16; refine (HJ.out.lt.onH (x := true) (by exact HP.out.on)).mono ?_; rintro e w9 ⟨rfl, he⟩; replace he := he.symm; subst he))
            exact ⟨⟨j + 1, _, _, _, _, _, _, _, by omega, by go_num, rfl, rfl, rfl, HJ.out, HP, HK⟩, by simp [intOf]; omega⟩
      · have hji : ¬ (j : Int) < (bs.length : Int) := by omega
        have HB := hide9 hJ.bel
        clear hJ HV6 HP HK HXX hse hge
        go_wp2_with (go_at_call 22; refine (alive10_any _).mono ?_; rintro e w3 ⟨rfl, hB3⟩)
        go_ret
        exact ⟨rfl, bel HB.out hB3⟩
end Go.Proofs.Ytnnlmnjbmbflpaa.journalKept
