/- The contracts of the document's text. -/
import Derived.Test.YtfjgmejobldjoaaGreatDoorKZE
import Derived.Test.YtfjgmejobldjoaaGreatDoorKZG
import Derived.Test.YtfjgmejobldjoaaGreatDoorKZP
set_option linter.unusedVariables false
set_option linter.unusedSimpArgs false
namespace Go.Proofs.YtfjgmejobldjoaaGreatDoor
open Go.RowKit
theorem VAtd {w w' : World} {b : Nat} {x0 x1 x2 x3 : Value} (h : VAt w b x0 x1 x2 x3) (hB : Below w.heap.size w w') : VAt w' b x0 x1 x2 x3 := h.keep (hB.block b h.lt)
theorem str_app (a b : List UInt8) : str a ++ str b = str (a ++ b) := str_eq (by simp [str])
theorem app_size (a b : ByteArray) : (a ++ b).size = a.size + b.size := ByteArray.size_append
def RTextC (t : Jsn.J) : Prop := ∀ (v : Value) (w : World), RV (fun _ => True) w t v → Jsn.sizeJ t ≤ 3000 → Calls Tryz.prog 27 #[v] w fun e w' => e = .returned (.string (str (Jsn.textD t))) ∧ Below w.heap.size w w'
set_option maxHeartbeats 8000000 in
set_option maxRecDepth 100000 in
theorem RText_all : ∀ t, RTextC t := by
  intro tr
  induction tr using Jsn.J.ind with
  | h k tx ks cs ih =>
    intro v w hv hsz
    have hTL := Jsn.textD_le (.mk k tx ks cs)
    have hi5 := Jsn.itemsD_le cs false true ks (fun c _ => Jsn.textD_le c)
    have hi6 := Jsn.itemsD_le cs true true ks (fun c _ => Jsn.textD_le c)
    obtain ⟨kv, cv, rfl, hks, hcs⟩ := RV_mk.1 hv
    obtain ⟨a1, c1, rfl⟩ := hks.form
    obtain ⟨a2, c2, rfl⟩ := hcs.form
    rw [Jsn.sizeJ_mk] at hsz
    have HI5 : Hid ((Jsn.itemsD false true ks cs).length ≤ 60000) := by show _ ≤ _; omega
    have HI6 : Hid ((Jsn.itemsD true true ks cs).length ≤ 60000) := by show _ ≤ _; omega
    have hB1 : Below w.heap.size w (w.alloc (.cells #[.int .i64 k, .string (str tx), .slice a1 ks.length c1, .slice a2 cs.length c2] 25)) := (Below.refl _ w).alloc (Nat.le_refl _) _
    have hV1 : VAt (w.alloc (.cells #[.int .i64 k, .string (str tx), .slice a1 ks.length c1, .slice a2 cs.length c2] 25)) w.heap.size (.int .i64 k) (.string (str tx)) (.slice a1 ks.length c1) (.slice a2 cs.length c2) := val_new w _
    have ht1 : tx.length ≤ 3000 := by omega
    have hk1 : ks.length ≤ 3000 := by omega
    have hc1 : cs.length ≤ 3000 := by omega
    have HKS := hideQ hks
    have HK := hideQ hcs
    have HS : Hid (∀ c ∈ cs, Jsn.sizeJ c ≤ 3000) := fun c hc => by
      have := Jsn.sizeL_mem hc
      omega
    have HL : Hid (∀ x ∈ ks, x.length ≤ 3000) := fun x hx => by
      have := Jsn.lenK_mem hx
      omega
    have HIH := hideQ ih
    clear hv hks hcs hsz ih hTL hi5 hi6
    obtain ⟨X, HX⟩ : ∃ X, Hid (X = Jsn.textD (.mk k tx ks cs)) := ⟨_, rfl⟩
    rw [← HX.out]
    have HX1 := hideQ (HX.out.trans (Jsn.textD_mk k tx ks cs))
    clear HX
    go_enter Tryz.func27, Tryz.ntmps27
    go_upto_region 1 with fail
    generalize w.alloc (.cells #[.int .i64 k, .string (str tx), .slice a1 ks.length c1, .slice a2 cs.length c2] 25) = w1 at *
    have q0 : w1.cell? ⟨w.heap.size, 0, none⟩ = some (.int .i64 k) := hV1.cell 0
    have q1 : w1.cell? ⟨w.heap.size, 1, none⟩ = some (.string (str tx)) := hV1.cell 1
    by_cases k1 : k = 1
    · subst k1
      have HF : Hid (X = Jsn.nullT) := by show X = _; rw [HX1.out, if_pos rfl]
      clear HX1
      go_wp2_with fail
      go_ret
      rw [HF.out]
      exact ⟨rfl, hB1⟩
    by_cases k4 : k = 4
    · subst k4
      have HF : Hid (X = Jsn.quoteJ tx) := by show X = _; rw [HX1.out, if_neg (by decide), if_pos rfl]
      have CQ := hideQ (Rquoted_any tx w1 (by omega))
      clear HX1
      go_wp2_with (go_at_call 38; refine CQ.out.mono ?_; rintro e w2 ⟨rfl, hB2⟩)
      go_ret
      rw [HF.out]
      exact ⟨rfl, bel hB1 hB2⟩
    by_cases k56 : k = 5 ∨ k = 6
    · obtain ⟨tab, htab⟩ : ∃ tab : Bool, tab = decide (k = 6) := ⟨_, rfl⟩
      have HX2 : Hid (X = (if tab = true then 123 else 91) :: (Jsn.itemsD tab true ks cs ++ [if tab = true then 125 else 93])) := by
        show X = _
        rw [HX1.out, if_neg k1, if_neg k4]
        rcases k56 with rfl | rfl
        · rw [if_pos rfl, htab]; rfl
        · rw [if_neg (by decide), if_pos rfl, htab]; rfl
      have HIL : Hid ((Jsn.itemsD tab true ks cs).length ≤ 60000) := by
        show _ ≤ _
        cases tab
        · exact HI5.out
        · exact HI6.out
      have hk6 : (k == 6) = tab := by rw [htab]; by_cases h : k = 6 <;> simp [h]
      have hk5 : (k == 5) = !tab := by
        rw [htab]
        rcases k56 with rfl | rfl <;> rfl
      have hk1' : (k == 1) = false := by simpa using k1
      have hk4' : (k == 4) = false := by simpa using k4
      clear HX1 k1 k4 k56 HI5 HI6 htab
      cases tab
      · go_wp2_with fail
        go_loopw [3, 4] (fun s i wr => ∃ (j : Nat) (acc : List UInt8), s = .string (str acc) ∧ i = .int .i64 j ∧ j ≤ cs.length ∧ Hid (Jsn.itemsD false true ks cs = acc ++ Jsn.itemsD false (decide (j = 0)) (ks.drop j) (cs.drop j)) ∧ VAt wr w.heap.size (.int .i64 k) (.string (str tx)) (.slice a1 ks.length c1) (.slice a2 cs.length c2) ∧ Below w.heap.size w wr) (fun _ i _ => cs.length - (intOf i).toNat)
        case atStart => exact ⟨0, [], rfl, rfl, Nat.zero_le _, by rw [List.drop_zero, List.drop_zero]; rfl, hV1, hB1⟩
        case round =>
          obtain ⟨j, acc, rfl, rfl, hj, HE, hV, hB⟩ := hrel
          clear hV1 hB1 q0 q1
          have q0 : wr.cell? ⟨w.heap.size, 0, none⟩ = some (.int .i64 k) := hV.cell 0
          have q2 : wr.cell? ⟨w.heap.size, 2, none⟩ = some (.slice a1 ks.length c1) := hV.cell 2
          have q3 : wr.cell? ⟨w.heap.size, 3, none⟩ = some (.slice a2 cs.length c2) := hV.cell 3
          have hal : acc.length ≤ 60000 := by
            have h1 := congrArg List.length HE.out
            have h2 := HIL.out
            rw [List.length_append] at h1
            omega
          have hsa := str_size acc
          by_cases hlt : j < cs.length
          · have hat : cs[j]? = some cs[j] := List.getElem?_eq_getElem hlt
            obtain ⟨g, o, rfl, hcl, _, hgl, y0, y1, y2, y3, e0, e1, e2, e3, hrk⟩ := HK.out.at hat
            obtain ⟨da, dn, dc, db, dm, dd, hsh⟩ := hrk.shape
            have HCEL : Hid (∀ W, Below w.heap.size w W → W.cell? ⟨g, o + j * 4, none⟩ = some y0 ∧ W.cell? ⟨g, o + j * 4 + 1, none⟩ = some y1 ∧ W.cell? ⟨g, o + j * 4 + 2, none⟩ = some y2 ∧ W.cell? ⟨g, o + j * 4 + 3, none⟩ = some y3) := fun W hW => ⟨(cell_keep (hW.block g hgl)).trans e0, (cell_keep (hW.block g hgl)).trans e1, (cell_keep (hW.block g hgl)).trans e2, (cell_keep (hW.block g hgl)).trans e3⟩
            have CT := hideQ (fun W (hW : Below w.heap.size w W) => HIH.out _ (List.getElem_mem hlt) _ W (hrk.below hW) (HS.out _ (List.getElem_mem hlt)))
            have HD : Hid (cs.drop j = cs[j] :: cs.drop (j + 1)) := List.drop_eq_getElem_cons hlt
            have hcl2 : (Jsn.textD cs[j]).length ≤ 30000 := by
              have h1 := Jsn.textD_le cs[j]
              have h2 := HS.out _ (List.getElem_mem hlt)
              omega
            generalize cs[j] = c at *
            cases hsh
            have hst := str_size (Jsn.textD c)
            have HE2 : Hid (Jsn.itemsD false true ks cs = (acc ++ ((if decide (j = 0) = true then [] else [44]) ++ ((if false = true ∧ ks.drop j ≠ [] then Jsn.quoteJ ((ks.drop j).headD []) ++ [58] else []) ++ Jsn.textD c))) ++ Jsn.itemsD false false (ks.drop (j + 1)) (cs.drop (j + 1))) := by
              show Jsn.itemsD false true ks cs = _
              rw [HE.out, HD.out, Jsn.itemsD_cons, List.tail_drop]
              simp only [List.append_assoc]
            clear hat hrk e0 e1 e2 e3 HE HD
            by_cases hj0 : j = 0
            · obtain rfl : j = 0 := by omega
              have HE3 : Hid (Jsn.itemsD false true ks cs = (acc ++ Jsn.textD c) ++ Jsn.itemsD false (decide (0 + 1 = 0)) (ks.drop (0 + 1)) (cs.drop (0 + 1))) := by
                show Jsn.itemsD false true ks cs = _
                rw [HE2.out, show decide (0 + 1 = 0) = false from decide_eq_false (by omega)]
                rw [if_pos (show decide (0 = 0) = true from rfl), List.nil_append]
                rw [if_neg (show ¬ (false = true ∧ ks.drop 0 ≠ []) by simp), List.nil_append]
              simp only [Nat.zero_mul, Nat.add_zero] at HCEL
              generalize HN : acc ++ Jsn.textD c = acc2 at HE3
              have HN2 := hideQ HN
              clear HN HE2
              obtain ⟨f0, f1, f2, f3⟩ := HCEL.out wr hB
              have hap := app_size
              go_wp2_with (go_at_call 27; refine (CT.out wr hB).mono ?_; rintro e w3 ⟨rfl, hB3⟩; have hV3 := VAtd hV hB3; have hB3' := bel hB hB3)
              exact ⟨⟨0 + 1, acc2, by rw [← HN2.out]; exact congrArg Value.string (str_eq (by simp [str])), by go_num, by omega, HE3, hV3, hB3'⟩, by simp [intOf]; omega⟩
            · have hj1 : (0 : Int) < (j : Int) := by omega
              have hj2 : decide (j = 0) = false := decide_eq_false (by omega)
              have HE3 : Hid (Jsn.itemsD false true ks cs = (acc ++ ([44] ++ Jsn.textD c)) ++ Jsn.itemsD false (decide (j + 1 = 0)) (ks.drop (j + 1)) (cs.drop (j + 1))) := by
                show Jsn.itemsD false true ks cs = _
                rw [HE2.out, show decide (j + 1 = 0) = false from decide_eq_false (by omega)]
                rw [hj2, if_neg (show ¬ (false = true) by decide)]
                rw [if_neg (show ¬ (false = true ∧ ks.drop j ≠ []) by simp), List.nil_append]
              generalize HN : acc ++ ([44] ++ Jsn.textD c) = acc2 at HE3
              have HN2 := hideQ HN
              clear HN HE2
              obtain ⟨f0, f1, f2, f3⟩ := HCEL.out wr hB
              have hap := app_size
              go_wp2_with (go_at_call 27; refine (CT.out wr hB).mono ?_; rintro e w3 ⟨rfl, hB3⟩; have hV3 := VAtd hV hB3; have hB3' := bel hB hB3)
              exact ⟨⟨j + 1, acc2, by rw [← HN2.out]; exact congrArg Value.string (str_eq (by simp [str])), by go_num, by omega, HE3, hV3, hB3'⟩, by simp [intOf]; omega⟩
          · have HZ : Hid (acc = Jsn.itemsD false true ks cs) := by
              show acc = _
              rw [HE.out, List.drop_eq_nil_of_le (show cs.length ≤ j by omega), Jsn.itemsD_nil, List.append_nil]
            have HW : Hid (X = 91 :: (acc ++ [93])) := by
              show X = _
              rw [HX2.out, HZ.out]
              rfl
            clear HE HX2
            have hap := app_size
            go_wp2_with fail
            go_ret
            rw [HW.out]
            exact ⟨ret_text (by simp [str]), hB⟩
      · go_wp2_with fail
        go_loopw [3, 4] (fun s i wr => ∃ (j : Nat) (acc : List UInt8), s = .string (str acc) ∧ i = .int .i64 j ∧ j ≤ cs.length ∧ Hid (Jsn.itemsD true true ks cs = acc ++ Jsn.itemsD true (decide (j = 0)) (ks.drop j) (cs.drop j)) ∧ VAt wr w.heap.size (.int .i64 k) (.string (str tx)) (.slice a1 ks.length c1) (.slice a2 cs.length c2) ∧ Below w.heap.size w wr) (fun _ i _ => cs.length - (intOf i).toNat)
        case atStart => exact ⟨0, [], rfl, rfl, Nat.zero_le _, by rw [List.drop_zero, List.drop_zero]; rfl, hV1, hB1⟩
        case round =>
          obtain ⟨j, acc, rfl, rfl, hj, HE, hV, hB⟩ := hrel
          clear hV1 hB1 q0 q1
          have q0 : wr.cell? ⟨w.heap.size, 0, none⟩ = some (.int .i64 k) := hV.cell 0
          have q2 : wr.cell? ⟨w.heap.size, 2, none⟩ = some (.slice a1 ks.length c1) := hV.cell 2
          have q3 : wr.cell? ⟨w.heap.size, 3, none⟩ = some (.slice a2 cs.length c2) := hV.cell 3
          have hal : acc.length ≤ 60000 := by
            have h1 := congrArg List.length HE.out
            have h2 := HIL.out
            rw [List.length_append] at h1
            omega
          have hsa := str_size acc
          by_cases hlt : j < cs.length
          · have hat : cs[j]? = some cs[j] := List.getElem?_eq_getElem hlt
            obtain ⟨g, o, rfl, hcl, _, hgl, y0, y1, y2, y3, e0, e1, e2, e3, hrk⟩ := HK.out.at hat
            obtain ⟨da, dn, dc, db, dm, dd, hsh⟩ := hrk.shape
            have HCEL : Hid (∀ W, Below w.heap.size w W → W.cell? ⟨g, o + j * 4, none⟩ = some y0 ∧ W.cell? ⟨g, o + j * 4 + 1, none⟩ = some y1 ∧ W.cell? ⟨g, o + j * 4 + 2, none⟩ = some y2 ∧ W.cell? ⟨g, o + j * 4 + 3, none⟩ = some y3) := fun W hW => ⟨(cell_keep (hW.block g hgl)).trans e0, (cell_keep (hW.block g hgl)).trans e1, (cell_keep (hW.block g hgl)).trans e2, (cell_keep (hW.block g hgl)).trans e3⟩
            have CT := hideQ (fun W (hW : Below w.heap.size w W) => HIH.out _ (List.getElem_mem hlt) _ W (hrk.below hW) (HS.out _ (List.getElem_mem hlt)))
            have HD : Hid (cs.drop j = cs[j] :: cs.drop (j + 1)) := List.drop_eq_getElem_cons hlt
            have hcl2 : (Jsn.textD cs[j]).length ≤ 30000 := by
              have h1 := Jsn.textD_le cs[j]
              have h2 := HS.out _ (List.getElem_mem hlt)
              omega
            generalize cs[j] = c at *
            cases hsh
            have hst := str_size (Jsn.textD c)
            have HE2 : Hid (Jsn.itemsD true true ks cs = (acc ++ ((if decide (j = 0) = true then [] else [44]) ++ ((if true = true ∧ ks.drop j ≠ [] then Jsn.quoteJ ((ks.drop j).headD []) ++ [58] else []) ++ Jsn.textD c))) ++ Jsn.itemsD true false (ks.drop (j + 1)) (cs.drop (j + 1))) := by
              show Jsn.itemsD true true ks cs = _
              rw [HE.out, HD.out, Jsn.itemsD_cons, List.tail_drop]
              simp only [List.append_assoc]
            clear hat hrk e0 e1 e2 e3 HE HD
            by_cases hkk : j < ks.length
            · by_cases hj0 : j = 0
              · obtain rfl : j = 0 := by omega
                obtain ⟨kb, ko, rfl, hkc, _, hkl, hkcell⟩ := HKS.out.at (List.getElem?_eq_getElem hkk)
                have CK := hideQ (fun W => Rquoted_any ks[0] W (by have := HL.out _ (List.getElem_mem hkk); omega))
                have hql : (Jsn.quoteJ ks[0]).length ≤ 20000 := by
                  have h1 := Jsn.quote_le ks[0]
                  have h2 := HL.out _ (List.getElem_mem hkk)
                  omega
                have p := (hB.cell (p := ⟨kb, ko + 0, none⟩) hkl).trans hkcell
                have HKD : Hid (ks.drop 0 = ks[0] :: ks.drop (0 + 1)) := List.drop_eq_getElem_cons hkk
                have hkk' : ((0 : Nat) : Int) < (ks.length : Int) := by omega
                have HE3 : Hid (Jsn.itemsD true true ks cs = (acc ++ (((Jsn.quoteJ ks[0] ++ [58]) ++ Jsn.textD c))) ++ Jsn.itemsD true (decide (0 + 1 = 0)) (ks.drop (0 + 1)) (cs.drop (0 + 1))) := by
                  show Jsn.itemsD true true ks cs = _
                  rw [HE2.out, show decide (0 + 1 = 0) = false from decide_eq_false (by omega)]
                  rw [if_pos (show decide (0 = 0) = true from rfl), List.nil_append]
                  rw [HKD.out, if_pos (show true = true ∧ ks[0] :: ks.drop (0 + 1) ≠ [] from ⟨rfl, List.cons_ne_nil _ _⟩)]
                  rfl
                simp only [Nat.zero_mul, Nat.add_zero] at HCEL
                simp only [Nat.add_zero] at p
                generalize HN : acc ++ (((Jsn.quoteJ ks[0] ++ [58]) ++ Jsn.textD c)) = acc2 at HE3
                have HN2 := hideQ HN
                clear HN
                generalize ks[0] = ky at *
                have hsq := str_size (Jsn.quoteJ ky)
                clear HE2 HKD
                have hap := app_size
                go_wp2_with (first
                  | (go_at_call 38; refine (CK.out wr).mono ?_; rintro e w2 ⟨rfl, hB2⟩; have hB2' := bel hB hB2; have hV2 := VAtd hV hB2; have r3 : w2.cell? ⟨w.heap.size, 3, none⟩ = some (.slice (some ⟨g, o, none⟩) cs.length c2) := hV2.cell 3; obtain ⟨f0, f1, f2, f3⟩ := HCEL.out w2 hB2')
                  | (go_at_call 27; refine (CT.out w2 hB2').mono ?_; rintro e w3 ⟨rfl, hB3⟩; have hV3 := VAtd hV2 hB3; have hB3' := bel hB2' hB3))
                exact ⟨⟨0 + 1, acc2, by rw [← HN2.out]; exact congrArg Value.string (str_eq (by simp [str])), by go_num, by omega, HE3, hV3, hB3'⟩, by simp [intOf]; omega⟩
              · have hj1 : (0 : Int) < (j : Int) := by omega
                have hj2 : decide (j = 0) = false := decide_eq_false (by omega)
                obtain ⟨kb, ko, rfl, hkc, _, hkl, hkcell⟩ := HKS.out.at (List.getElem?_eq_getElem hkk)
                have CK := hideQ (fun W => Rquoted_any ks[j] W (by have := HL.out _ (List.getElem_mem hkk); omega))
                have hql : (Jsn.quoteJ ks[j]).length ≤ 20000 := by
                  have h1 := Jsn.quote_le ks[j]
                  have h2 := HL.out _ (List.getElem_mem hkk)
                  omega
                have p := (hB.cell (p := ⟨kb, ko + j, none⟩) hkl).trans hkcell
                have HKD : Hid (ks.drop j = ks[j] :: ks.drop (j + 1)) := List.drop_eq_getElem_cons hkk
                have hkk' : ((j : Nat) : Int) < (ks.length : Int) := by omega
                have HE3 : Hid (Jsn.itemsD true true ks cs = (acc ++ ([44] ++ ((Jsn.quoteJ ks[j] ++ [58]) ++ Jsn.textD c))) ++ Jsn.itemsD true (decide (j + 1 = 0)) (ks.drop (j + 1)) (cs.drop (j + 1))) := by
                  show Jsn.itemsD true true ks cs = _
                  rw [HE2.out, show decide (j + 1 = 0) = false from decide_eq_false (by omega)]
                  rw [hj2, if_neg (show ¬ (false = true) by decide)]
                  rw [HKD.out, if_pos (show true = true ∧ ks[j] :: ks.drop (j + 1) ≠ [] from ⟨rfl, List.cons_ne_nil _ _⟩)]
                  rfl
                generalize HN : acc ++ ([44] ++ ((Jsn.quoteJ ks[j] ++ [58]) ++ Jsn.textD c)) = acc2 at HE3
                have HN2 := hideQ HN
                clear HN
                generalize ks[j] = ky at *
                have hsq := str_size (Jsn.quoteJ ky)
                clear HE2 HKD
                have hap := app_size
                go_wp2_with (first
                  | (go_at_call 38; refine (CK.out wr).mono ?_; rintro e w2 ⟨rfl, hB2⟩; have hB2' := bel hB hB2; have hV2 := VAtd hV hB2; have r3 : w2.cell? ⟨w.heap.size, 3, none⟩ = some (.slice (some ⟨g, o, none⟩) cs.length c2) := hV2.cell 3; obtain ⟨f0, f1, f2, f3⟩ := HCEL.out w2 hB2')
                  | (go_at_call 27; refine (CT.out w2 hB2').mono ?_; rintro e w3 ⟨rfl, hB3⟩; have hV3 := VAtd hV2 hB3; have hB3' := bel hB2' hB3))
                exact ⟨⟨j + 1, acc2, by rw [← HN2.out]; exact congrArg Value.string (str_eq (by simp [str])), by go_num, by omega, HE3, hV3, hB3'⟩, by simp [intOf]; omega⟩
            · by_cases hj0 : j = 0
              · obtain rfl : j = 0 := by omega
                have HKD : Hid (ks.drop 0 = []) := List.drop_eq_nil_of_le (by omega)
                have hkk' : ¬ ((0 : Nat) : Int) < (ks.length : Int) := by omega
                have HE3 : Hid (Jsn.itemsD true true ks cs = (acc ++ Jsn.textD c) ++ Jsn.itemsD true (decide (0 + 1 = 0)) (ks.drop (0 + 1)) (cs.drop (0 + 1))) := by
                  show Jsn.itemsD true true ks cs = _
                  rw [HE2.out, show decide (0 + 1 = 0) = false from decide_eq_false (by omega)]
                  rw [if_pos (show decide (0 = 0) = true from rfl), List.nil_append]
                  rw [HKD.out, if_neg (show ¬ (true = true ∧ ([] : List (List UInt8)) ≠ []) by simp), List.nil_append]
                simp only [Nat.zero_mul, Nat.add_zero] at HCEL
                generalize HN : acc ++ Jsn.textD c = acc2 at HE3
                have HN2 := hideQ HN
                clear HN HE2 HKD
                obtain ⟨f0, f1, f2, f3⟩ := HCEL.out wr hB
                have hap := app_size
                go_wp2_with (go_at_call 27; refine (CT.out wr hB).mono ?_; rintro e w3 ⟨rfl, hB3⟩; have hV3 := VAtd hV hB3; have hB3' := bel hB hB3)
                exact ⟨⟨0 + 1, acc2, by rw [← HN2.out]; exact congrArg Value.string (str_eq (by simp [str])), by go_num, by omega, HE3, hV3, hB3'⟩, by simp [intOf]; omega⟩
              · have hj1 : (0 : Int) < (j : Int) := by omega
                have hj2 : decide (j = 0) = false := decide_eq_false (by omega)
                have HKD : Hid (ks.drop j = []) := List.drop_eq_nil_of_le (by omega)
                have hkk' : ¬ ((j : Nat) : Int) < (ks.length : Int) := by omega
                have HE3 : Hid (Jsn.itemsD true true ks cs = (acc ++ ([44] ++ Jsn.textD c)) ++ Jsn.itemsD true (decide (j + 1 = 0)) (ks.drop (j + 1)) (cs.drop (j + 1))) := by
                  show Jsn.itemsD true true ks cs = _
                  rw [HE2.out, show decide (j + 1 = 0) = false from decide_eq_false (by omega)]
                  rw [hj2, if_neg (show ¬ (false = true) by decide)]
                  rw [HKD.out, if_neg (show ¬ (true = true ∧ ([] : List (List UInt8)) ≠ []) by simp), List.nil_append]
                generalize HN : acc ++ ([44] ++ Jsn.textD c) = acc2 at HE3
                have HN2 := hideQ HN
                clear HN HE2 HKD
                obtain ⟨f0, f1, f2, f3⟩ := HCEL.out wr hB
                have hap := app_size
                go_wp2_with (go_at_call 27; refine (CT.out wr hB).mono ?_; rintro e w3 ⟨rfl, hB3⟩; have hV3 := VAtd hV hB3; have hB3' := bel hB hB3)
                exact ⟨⟨j + 1, acc2, by rw [← HN2.out]; exact congrArg Value.string (str_eq (by simp [str])), by go_num, by omega, HE3, hV3, hB3'⟩, by simp [intOf]; omega⟩
          · have HZ : Hid (acc = Jsn.itemsD true true ks cs) := by
              show acc = _
              rw [HE.out, List.drop_eq_nil_of_le (show cs.length ≤ j by omega), Jsn.itemsD_nil, List.append_nil]
            have HW : Hid (X = 123 :: (acc ++ [125])) := by
              show X = _
              rw [HX2.out, HZ.out]
              rfl
            clear HE HX2
            have hap := app_size
            go_wp2_with fail
            go_ret
            rw [HW.out]
            exact ⟨ret_text (by simp [str]), hB⟩
    · have HF : Hid (X = tx) := by show X = _; rw [HX1.out, if_neg k1, if_neg k4, if_neg (fun h => k56 (.inl h)), if_neg (fun h => k56 (.inr h))]
      have hk1' : (k == 1) = false := by simpa using k1
      have hk4' : (k == 4) = false := by simpa using k4
      have hk5' : (k == 5) = false := by simp; exact fun h => k56 (.inl h)
      have hk6' : (k == 6) = false := by simp; exact fun h => k56 (.inr h)
      clear HX1 k1 k4 k56
      go_wp2_with fail
      go_ret
      rw [HF.out]
      exact ⟨rfl, hB1⟩
end Go.Proofs.YtfjgmejobldjoaaGreatDoor
