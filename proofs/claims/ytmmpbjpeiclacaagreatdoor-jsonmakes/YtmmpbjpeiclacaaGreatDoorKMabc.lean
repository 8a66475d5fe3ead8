/- Texts laid as one. -/
import Derived.Test.YtmmpbjpeiclacaaGreatDoorKClone
import Derived.Test.YtmmpbjpeiclacaaGreatDoorKArgP
import Derived.Test.YtmmpbjpeiclacaaGreatDoorKYQ
/- The contract of json.Lists. -/
set_option linter.unusedVariables false
set_option linter.unusedSimpArgs false
namespace Go.Proofs.YtmmpbjpeiclacaaGreatDoor
open Go.RowKit
set_option maxHeartbeats 4000000 in
set_option maxRecDepth 100000 in
theorem Lists_any (cs : List Jsn.J) (v : Value) (w : World) (h : RKs (fun _ => True) w cs v) (hsz : Jsn.sizeL cs ≤ 1000000000) (hl : cs.length ≤ 1000000000) :
    Calls Tryz.prog 11 #[v] w fun e w' => ∃ v', e = .returned v' ∧ RV (fun _ => True) w' (.mk 5 [] [] cs) v' ∧ Below w.heap.size w w' := by
  obtain ⟨a, c, rfl⟩ := h.form
  have hB1 : Below w.heap.size w (w.alloc (.cells #[.int .i64 0, .string ⟨#[]⟩, .slice none 0 0, .slice none 0 0] 27)) := (Below.refl _ w).alloc (Nat.le_refl _) _
  have hV1 : VAt (w.alloc (.cells #[.int .i64 0, .string ⟨#[]⟩, .slice none 0 0, .slice none 0 0] 27)) w.heap.size (.int .i64 0) (.string ⟨#[]⟩) (.slice none 0 0) (.slice none 0 0) := val_new w _
  have hz1 : (w.alloc (.cells #[.int .i64 0, .string ⟨#[]⟩, .slice none 0 0, .slice none 0 0] 27)).heap.size = w.heap.size + 1 := by simp
  have CA := hideP (fun W (hB : Below w.heap.size w W) => cloneAll_any cs (fun c _ => clone_all c) _ W (h.keep hB.size (fun k _ hl => ⟨trivial, hB.block k hl⟩)) hsz hl)
  clear h
  go_enter Tryz.func11, Tryz.ntmps11
  go_upto_region 1 with fail
  generalize w.alloc (.cells #[.int .i64 0, .string ⟨#[]⟩, .slice none 0 0, .slice none 0 0] 27) = w1 at *
  go_wp2_with (first
    | (go_at_call 32; refine (CA.out _ hB1).mono ?_; rintro e w2 ⟨cv, rfl, hc2, hB2⟩; obtain ⟨ca, cc, rfl⟩ := hc2.form; have hV2 := VAtb hV1 hB2)
    | ((with_reducible show wpList _ _ _ ({ op := Op.store 27 _ _, .. } :: _) _ _); refine wpList_store_V _ _ rfl rfl _ _ _ _ _ rfl rfl hV2 (ones_mk _ _ _ _ _ _ _ _) ?_))
  have hB3 := bel hB1 hB2
  refine ret_V rfl rfl rfl (setRow_V hV2 _ _ _ _) ⟨_, rfl, ?_, setRow_below hB3 (Nat.le_refl _)⟩
  exact RV_mk.2 ⟨_, _, rfl, .inl ⟨_, _, rfl, rfl⟩, hc2.keep (by rw [setRow_len]; exact Nat.le_refl _) (fun q hq hl => ⟨trivial, setRow_other _ (by omega)⟩)⟩
end Go.Proofs.YtmmpbjpeiclacaaGreatDoor
/- A table that grows, in blocks of one's own (for json.Tables). -/
set_option linter.unusedVariables false
set_option linter.unusedSimpArgs false
namespace Go.Proofs.YtmmpbjpeiclacaaGreatDoor
open Go.RowKit
/-- What holds while a table grows: its block, the result's, the set of its keys, the two lists. -/
structure TB (w : World) (c : Nat) (ms ks : List (List UInt8)) (cs : List Jsn.J) (kv cv : Value) (vs : List V4) (wr : World) : Prop where
  L : VAt wr (w.heap.size + 1) (.int .i64 6) (.string ⟨#[]⟩) kv cv
  R : VAt wr w.heap.size (.int .i64 0) (.string ⟨#[]⟩) (.slice none 0 0) (.slice none 0 0)
  M : SetAt (w.heap.size + 2) c ms wr
  K : GTexts (w.heap.size + 3) wr kv ks
  G : GK (fun k => some k ≠ kv.ownBlock) (w.heap.size + 3) wr cv cs vs
  B : Below w.heap.size w wr
  sz : w.heap.size + 3 ≤ wr.heap.size
section
variable {w wr w' : World} {c : Nat} {ms ks : List (List UInt8)} {cs : List Jsn.J} {kv cv : Value} {vs : List V4}
theorem TB.kl (h : TB w c ms ks cs kv cv vs wr) : ∀ g, kv.ownBlock = some g → w.heap.size + 3 ≤ g ∧ g < wr.heap.size := fun g hg => World.ownsRow.lt h.K g hg
theorem TB.cl (h : TB w c ms ks cs kv cv vs wr) : ∀ g, cv.ownBlock = some g → w.heap.size + 3 ≤ g ∧ g < wr.heap.size := fun g hg => World.ownsRow.lt h.G.own g hg
theorem TB.below (h : TB w c ms ks cs kv cv vs wr) (hB : Below wr.heap.size wr w') : TB w c ms ks cs kv cv vs w' := by
  have hs := hB.size
  have hz := h.sz
  exact ⟨h.L.keep (hB.block _ h.L.lt), h.R.keep (hB.block _ h.R.lt), h.M.keep (hB.block _ h.M.lt), own_keep h.K (fun k hk1 hl => hB.block k hl), h.G.keep hs (fun k hp hk1 hl => ⟨hp, hB.block k hl⟩), bel h.B hB, by omega⟩
theorem TB.met {c' : Nat} {ms' : List (List UInt8)} (h : TB w c ms ks cs kv cv vs wr) (hk : Kept (w.heap.size + 2) wr w') (hM : SetAt (w.heap.size + 2) c' ms' w') : TB w c' ms' ks cs kv cv vs w' := by
  have hs := hk.size
  have hz := h.sz
  refine ⟨h.L.keep (hk.block _ h.L.lt (by omega)), h.R.keep (hk.block _ h.R.lt (by omega)), hM, own_keep h.K (fun k hk1 hl => hk.block k hl (by omega)), h.G.keep hs (fun k hp hk1 hl => ⟨hp, hk.block k hl (by omega)⟩), ⟨hk.os.trans h.B.os, hk.tape.trans h.B.tape, hk.output.trans h.B.output, by omega, fun k hk1 => ?_⟩, by omega⟩
  rw [hk.block k (by omega) (by omega)]
  exact h.B.block k hk1
/-- One more key. -/
theorem TB.key {g cap H : Nat} {t : List UInt8} {w3 : World} (h : TB w c ms ks cs kv cv vs wr)
    (hg : (wr.alloc (.cells #[.string (str t)] 9)).grownBy w3 kv.ownBlock) (hat : kv.ownBlock = some g ∨ g = H) (hH : (wr.alloc (.cells #[.string (str t)] 9)).heap.size = H)
    (hown : w3.ownsRow (w.heap.size + 3) 9 1 (.slice (some ⟨g, 0, none⟩) (ks.length + 1) cap) (ks.length + 1) ((ks.map fun t => .string (str t)) ++ [.string (str t)])) :
    TB w c ms (ks ++ [t]) cs (.slice (some ⟨g, 0, none⟩) (ks.length + 1) cap) cv vs (w3.setCell ⟨w.heap.size + 1, 2, none⟩ (.slice (some ⟨g, 0, none⟩) (ks.length + 1) cap)) := by
  have hz := h.sz
  have hgs := hg.size
  simp at hgs hH
  have hkl := h.kl
  have old : ∀ k, k < wr.heap.size → some k ≠ kv.ownBlock → w3.heap[k]? = wr.heap[k]? := fun k hk1 hne => by
    rw [hg.block k (by simp; omega) hne, Lib.alloc_old wr _ k hk1]
  have far : ∀ k, k < w.heap.size + 3 → some k ≠ kv.ownBlock := fun k hk1 e => by have := (hkl k e.symm).1; omega
  have setO : ∀ k, k ≠ w.heap.size + 1 → (w3.setCell ⟨w.heap.size + 1, 2, none⟩ (.slice (some ⟨g, 0, none⟩) (ks.length + 1) cap)).heap[k]? = w3.heap[k]? := fun k hk1 => Below.heap_setCell _ _ _ _ hk1
  have hL3 := (h.L.keep (old (w.heap.size + 1) (by omega) (far _ (by omega)))).keys (.slice (some ⟨g, 0, none⟩) (ks.length + 1) cap)
  refine ⟨hL3, h.R.keep ((setO _ (by omega)).trans (old _ (by omega) (far _ (by omega)))), h.M.keep ((setO _ (by omega)).trans (old _ h.M.lt (far _ (by omega)))), ?_, ?_, ?_, by simp; omega⟩
  · exact GTexts.of (own_keep hown (fun k hk1 _ => setO k (by omega)))
  · refine h.G.keep (by simp; omega) (fun k hp hk1 hl => ⟨fun e => ?_, (setO k (by omega)).trans (old k hl hp)⟩)
    have e2 : k = g := Option.some.inj e
    rcases hat with h1 | h1
    · exact hp (by rw [e2, h1])
    · omega
  · refine ⟨hg.os.trans h.B.os, hg.tape.trans h.B.tape, hg.output.trans h.B.output, by simp; omega, fun k hk1 => ?_⟩
    rw [setO k (by omega), old k (by omega) (far k (by omega))]
    exact h.B.block k hk1
/-- One more value. -/
theorem TB.val {g cap H : Nat} {a2 a3 : Value} {t : Jsn.J} {w2 w3 : World} (h : TB w c ms ks cs kv cv vs wr) (hB : Below wr.heap.size wr w2)
    (hg : (w2.alloc (.cells #[.int .i64 t.kind, .string (str t.text), a2, a3] 27)).grownBy w3 cv.ownBlock) (hat : cv.ownBlock = some g ∨ g = H) (hH : (w2.alloc (.cells #[.int .i64 t.kind, .string (str t.text), a2, a3] 27)).heap.size = H)
    (hr : RV (wr.heap.size ≤ ·) w2 t (vv (.int .i64 t.kind) (.string (str t.text)) a2 a3))
    (hown : w3.ownsRow (w.heap.size + 3) 27 4 (.slice (some ⟨g, 0, none⟩) (cs.length + 1) cap) (cs.length + 1) (flat vs ++ [.int .i64 t.kind, .string (str t.text), a2, a3])) :
    TB w c ms ks (cs ++ [t]) kv (.slice (some ⟨g, 0, none⟩) (cs.length + 1) cap) (vs ++ [(.int .i64 t.kind, .string (str t.text), a2, a3)]) (w3.setCell ⟨w.heap.size + 1, 3, none⟩ (.slice (some ⟨g, 0, none⟩) (cs.length + 1) cap)) := by
  have hs := hB.size
  have hz := h.sz
  have hgs := hg.size
  simp at hgs hH
  have hkl := h.kl
  have hcl := h.cl
  have old : ∀ k, k < wr.heap.size → some k ≠ cv.ownBlock → w3.heap[k]? = wr.heap[k]? := fun k hk1 hne => by
    rw [hg.block k (by simp; omega) hne, Lib.alloc_old w2 _ k (by omega)]
    exact hB.block k hk1
  have far : ∀ k, k < w.heap.size + 3 → some k ≠ cv.ownBlock := fun k hk1 e => by have := (hcl k e.symm).1; omega
  have setO : ∀ k, k ≠ w.heap.size + 1 → (w3.setCell ⟨w.heap.size + 1, 3, none⟩ (.slice (some ⟨g, 0, none⟩) (cs.length + 1) cap)).heap[k]? = w3.heap[k]? := fun k hk1 => Below.heap_setCell _ _ _ _ hk1
  have hL3 := (h.L.keep (old (w.heap.size + 1) (by omega) (far _ (by omega)))).kids (.slice (some ⟨g, 0, none⟩) (cs.length + 1) cap)
  refine ⟨hL3, h.R.keep ((setO _ (by omega)).trans (old _ (by omega) (far _ (by omega)))), h.M.keep ((setO _ (by omega)).trans (old _ h.M.lt (far _ (by omega)))), ?_, ?_, ?_, by simp; omega⟩
  · refine ⟨h.K.1, ?_⟩
    rcases h.K.2 with h2 | ⟨g1, cap1, cur1, h1, h2, h3, h4⟩
    · exact .inl h2
    · refine .inr ⟨g1, cap1, cur1, h1, h2, ((setO g1 (by omega)).trans (old g1 (Array.getElem?_eq_some_iff.1 h3).1 (fun e1 => ?_))).trans h3, h4⟩
      exact h.G.row g1 e1.symm (by rw [h1]; rfl)
  · have hGa : GK (fun k => some k ≠ kv.ownBlock) (w.heap.size + 3) (w2.alloc (.cells #[.int .i64 t.kind, .string (str t.text), a2, a3] 27)) cv cs vs := h.G.keep (by simp; omega) (fun k hp hk1 hl => ⟨hp, (Lib.alloc_old w2 _ k (by omega)).trans (hB.block k hl)⟩)
    have hrv : RV (fun k => some k ≠ kv.ownBlock ∧ off (w.heap.size + 3) cv k) (w2.alloc (.cells #[.int .i64 t.kind, .string (str t.text), a2, a3] 27)) t (vv (.int .i64 t.kind) (.string (str t.text)) a2 a3) :=
      RV.keep (by simp) (fun k hk1 hl => ⟨⟨fun e1 => by have := (hkl k e1.symm).2; have : wr.heap.size ≤ k := hk1; omega, by have : wr.heap.size ≤ k := hk1; omega, fun e1 => by have := (hcl k e1.symm).2; have : wr.heap.size ≤ k := hk1; omega⟩, Lib.alloc_old w2 _ k hl⟩) hr
    have hG3 := hGa.more hg hat (by simp; omega) (fun e1 => by have := (hkl H e1.symm).2; omega) hown hrv
    exact hG3.keep (by simp) (fun k hp hk1 _ => ⟨hp, setO k (by omega)⟩)
  · refine ⟨hg.os.trans (hB.os.trans h.B.os), hg.tape.trans (hB.tape.trans h.B.tape), hg.output.trans (hB.output.trans h.B.output), by simp; omega, fun k hk1 => ?_⟩
    rw [setO k (by omega), old k (by omega) (far k (by omega))]
    exact h.B.block k hk1
end
end Go.Proofs.YtmmpbjpeiclacaaGreatDoor
/- The contract of json.Tables. -/
set_option linter.unusedVariables false
set_option linter.unusedSimpArgs false
namespace Go.Proofs.YtmmpbjpeiclacaaGreatDoor
open Go.RowKit
theorem tb_start (w : World) : TB w 0 [] [] [] (.slice none 0 0) (.slice none 0 0) [] (((w.alloc (.cells #[.int .i64 0, .string ⟨#[]⟩, .slice none 0 0, .slice none 0 0] 27)).alloc (.cells #[.int .i64 6, .string ⟨#[]⟩, .slice none 0 0, .slice none 0 0] 27)).alloc (.map #[] 0)) := by
  have hB : Below w.heap.size w (((w.alloc (.cells #[.int .i64 0, .string ⟨#[]⟩, .slice none 0 0, .slice none 0 0] 27)).alloc (.cells #[.int .i64 6, .string ⟨#[]⟩, .slice none 0 0, .slice none 0 0] 27)).alloc (.map #[] 0)) := (((Below.refl _ w).alloc (Nat.le_refl _) _).alloc (by simp) _).alloc (by simp; omega) _
  refine ⟨?_, ?_, ?_, GTexts.nil _ _, GK.nil _ _ _, hB, by simp⟩
  · unfold VAt
    have e : w.heap.size + 1 = (w.alloc (.cells #[.int .i64 0, .string ⟨#[]⟩, .slice none 0 0, .slice none 0 0] 27)).heap.size := by simp
    rw [Lib.alloc_old _ _ _ (by simp), e]
    exact heap_alloc_last _ _
  · unfold VAt
    rw [Lib.alloc_old _ _ _ (by simp; omega), Lib.alloc_old _ _ _ (by simp)]
    exact heap_alloc_last w _
  · have := SetAt.made ((w.alloc (.cells #[.int .i64 0, .string ⟨#[]⟩, .slice none 0 0, .slice none 0 0] 27)).alloc (.cells #[.int .i64 6, .string ⟨#[]⟩, .slice none 0 0, .slice none 0 0] 27)) 0
    rw [show ((w.alloc (.cells #[.int .i64 0, .string ⟨#[]⟩, .slice none 0 0, .slice none 0 0] 27)).alloc (.cells #[.int .i64 6, .string ⟨#[]⟩, .slice none 0 0, .slice none 0 0] 27)).heap.size = w.heap.size + 2 by simp] at this
    exact this
set_option maxHeartbeats 8000000 in
set_option maxRecDepth 100000 in
theorem Tables_any (ps : List (List UInt8 × Jsn.J)) (v : Value) (w : World) (h : RPs w ps v) (hl : ps.length ≤ 100) (hk : ∀ p ∈ ps, p.1.length ≤ 300 ∧ Jsn.sizeJ p.2 ≤ 1000000000) :
    Calls Tryz.prog 12 #[v] w fun e w' => ∃ v', e = .returned v' ∧ RV (fun _ => True) w' (Jsn.tabJ ps) v' ∧ Below w.heap.size w w' := by
  obtain ⟨a, c, rfl⟩ := h.form
  obtain ⟨i1, gi1, gz0, gz1, gz2⟩ := info_parts infoStr
  obtain ⟨i0, hi, hz0, hz1, hz2⟩ := info_parts infoVal
  have hmm := @run_makeMap Tryz.prog
  have H := hideP h
  have HKL := hideP hk
  clear h hk
  have hT0 := tb_start w
  go_enter Tryz.func12, Tryz.ntmps12
  go_upto_region 3 with fail
  generalize ((w.alloc (.cells #[.int .i64 0, .string ⟨#[]⟩, .slice none 0 0, .slice none 0 0] 27)).alloc (.cells #[.int .i64 6, .string ⟨#[]⟩, .slice none 0 0, .slice none 0 0] 27)).alloc (.map #[] 0) = w2 at *
  go_wp2
  go_loopw [12] (fun i wr => ∃ (j : Nat) (ks : List (List UInt8)) (cs : List Jsn.J) (kv cv : Value) (vs : List V4), i = .int .i64 j ∧ j ≤ ps.length ∧ Hid ((ps.take j).foldl Jsn.tabS ([], []) = (ks, cs)) ∧ TB w j ks ks cs kv cv vs wr) (fun i _ => ps.length - (intOf i).toNat)
  case atStart => exact ⟨0, [], [], _, _, _, rfl, Nat.zero_le _, rfl, hT0⟩
  case round =>
    obtain ⟨j, ks, cs, kv, cv, vs, rfl, hj, HF, hT⟩ := hrel
    clear hT0
    have hkl : ks.length ≤ 100 ∧ cs.length ≤ 100 := by
      have h1 := Jsn.tab_len (ps.take j) ([], [])
      rw [HF.out] at h1
      have h2 := h1.2 rfl
      have h3 := h1.1
      rw [List.length_take] at h3
      simp at h2 h3
      omega
    obtain ⟨ka, kc, rfl⟩ := own_form hT.K
    obtain ⟨ca, cc, rfl⟩ := own_form hT.G.own
    by_cases hlt : j < ps.length
    · obtain ⟨hnn, hc, b, o, rfl, hbl, x0, x1, x2, x3, e0, e1, e2, e3, e4, hrv⟩ := H.out.at (List.getElem?_eq_getElem hlt)
      clear hnn
      obtain ⟨da, dn, dc, db, dm, dd, hsh⟩ := hrv.shape
      have HP : Hid ((ps.take (j + 1)).foldl Jsn.tabS ([], []) = Jsn.tabS (ks, cs) ps[j]) := by
        show (ps.take (j + 1)).foldl Jsn.tabS ([], []) = _
        rw [List.take_succ_eq_append_getElem hlt, List.foldl_append, HF.out]
        rfl
      obtain ⟨hp3, hps⟩ := HKL.out _ (List.getElem_mem hlt)
      have kb := hT.B.block b hbl
      replace e0 := (cell_keep kb).trans e0
      replace e1 := (cell_keep kb).trans e1
      replace e2 := (cell_keep kb).trans e2
      replace e3 := (cell_keep kb).trans e3
      replace e4 := (cell_keep kb).trans e4
      clear HF kb
      generalize ps[j] = p at *
      cases hsh
      have HRV := hideP hrv
      clear hrv
      go_upto_region 6 with fail
      have hT1 := hT.below (w' := wr.alloc (.cells #[.string (str p.1), .int .i64 p.2.kind, .string (str p.2.text), .slice da dn dc, .slice db dm dd] 68)) ((Below.refl _ _).alloc (Nat.le_refl _) _)
      have hP1 : (wr.alloc (.cells #[.string (str p.1), .int .i64 p.2.kind, .string (str p.2.text), .slice da dn dc, .slice db dm dd] 68)).heap[wr.heap.size]? = some (.cells #[.string (str p.1), .int .i64 p.2.kind, .string (str p.2.text), .slice da dn dc, .slice db dm dd] 68) := heap_alloc_last wr _
      have hs1 : wr.heap.size < (wr.alloc (.cells #[.string (str p.1), .int .i64 p.2.kind, .string (str p.2.text), .slice da dn dc, .slice db dm dd] 68)).heap.size := by simp
      have hkw := hT.kl
      have hcw := hT.cl
      have hzw := hT.sz
      clear hT e0 e1 e2 e3 e4
      generalize wr.alloc (.cells #[.string (str p.1), .int .i64 p.2.kind, .string (str p.2.text), .slice da dn dc, .slice db dm dd] 68) = w1 at *
      have q0 : w1.cell? ⟨wr.heap.size, 0, none⟩ = some (.string (str p.1)) := by rw [Lib.cell_of_heap hP1]; rfl
      have CR := hideP (Repair_any p.1 w1 (by omega))
      have hrl := Utf.rep_len p.1
      by_cases hm : Utf.rep p.1 ∈ ks
      · have CN : Hid (∀ W, SetAt (w.heap.size + 2) j ks W → Calls Tryz.prog 33 #[.map (some (w.heap.size + 2)), .string (str (Utf.rep p.1))] W fun e w' => e = .returned (.bool false) ∧ SetAt (w.heap.size + 2) (j + 1) ks w' ∧ Kept (w.heap.size + 2) W w') := fun W hM => by
          have := isNew_any (w.heap.size + 2) j ks (Utf.rep p.1) W hM (by omega) (by omega)
          rw [decide_eq_false (by simpa using hm)] at this
          unfold withKey at this
          rw [if_pos hm] at this
          exact this
        have HP2 : Hid ((ps.take (j + 1)).foldl Jsn.tabS ([], []) = (ks, cs)) := by show _ = _; rw [HP.out]; unfold Jsn.tabS; rw [if_pos hm]
        clear HP hm
        generalize Utf.rep p.1 = key at *
        go_wp2_with (first
          | (go_at_call 23; refine CR.out.mono ?_; rintro e w3 ⟨rfl, hB3⟩; have hT3 := hT1.below hB3)
          | (go_at_call 33; refine (CN.out _ hT3.M).mono ?_; rintro e w4 ⟨rfl, hM4, hK4⟩; have hT4 := hT3.met hK4 hM4))
        exact ⟨⟨j + 1, ks, cs, _, _, vs, by go_num, by omega, HP2, hT4⟩, by simp [intOf]; omega⟩
      · have CN : Hid (∀ W, SetAt (w.heap.size + 2) j ks W → Calls Tryz.prog 33 #[.map (some (w.heap.size + 2)), .string (str (Utf.rep p.1))] W fun e w' => e = .returned (.bool true) ∧ SetAt (w.heap.size + 2) (j + 1) (ks ++ [Utf.rep p.1]) w' ∧ Kept (w.heap.size + 2) W w') := fun W hM => by
          have := isNew_any (w.heap.size + 2) j ks (Utf.rep p.1) W hM (by omega) (by omega)
          rw [decide_eq_true (by simpa using hm)] at this
          unfold withKey at this
          rw [if_neg hm] at this
          exact this
        have HP2 : Hid ((ps.take (j + 1)).foldl Jsn.tabS ([], []) = (ks ++ [Utf.rep p.1], cs ++ [p.2])) := by show _ = _; rw [HP.out]; unfold Jsn.tabS; rw [if_neg hm]
        clear HP hm
        generalize Utf.rep p.1 = key at *
        go_upto_region 9 with (first
          | (go_at_call 23; refine CR.out.mono ?_; rintro e w3 ⟨rfl, hB3⟩; have hT3 := hT1.below hB3; have hP3 := (hB3.block _ hs1).trans hP1; have hs3 := hB3.size)
          | (go_at_call 33; refine (CN.out _ hT3.M).mono ?_; rintro e w4 ⟨rfl, hM4, hK4⟩; have hT4 := hT3.met hK4 hM4; have hP4 := (hK4.block wr.heap.size (by omega) (by omega)).trans hP3; have hs4 := hK4.size; have q42 : w4.cell? ⟨w.heap.size + 1, 2, none⟩ = some (.slice ka ks.length kc) := hT4.L.cell 2)
          | (at_builtin; refine wpList_append_lies _ rfl _ _ 25 rfl (w.heap.size + 3) 9 i1 (.string ByteArray.empty) 1 16 Tryz.underlying25 gi1 gz0 gz1 gz2 rfl (by decide) _ _ _ rfl (World.ownsRow.alloc hT4.K _) ⟨w4.heap.size, 0, none⟩ 1 1 [.string (str key)] rfl rfl (cell_one_new _ _ _) (fun x hx => by simp at hx; subst hx; rfl) (by decide) (by unfold maxLen; omega) (by omega) (by simp; omega) _ rfl ?_; intro g cap w5 hown' hgrow hat hglt; have hL5 : VAt w5 (w.heap.size + 1) (.int .i64 6) (.string ⟨#[]⟩) (.slice ka ks.length kc) (.slice ca cs.length cc) := hT4.L.keep ((hgrow.block (w.heap.size + 1) (by simp; omega) (fun e => by have := (hkw _ e.symm).1; omega)).trans (Lib.alloc_old w4 _ _ (by omega))); have f5 := hL5.free 2; have q5 := hL5.cell 2))
        have hT6 := hT4.key hgrow hat (by simp) hown'
        have hP6 : (w5.setCell ⟨w.heap.size + 1, 2, none⟩ (.slice (some ⟨g, 0, none⟩) (ks.length + 1) cap)).heap[wr.heap.size]? = some (.cells #[.string (str p.1), .int .i64 p.2.kind, .string (str p.2.text), .slice da dn dc, .slice db dm dd] 68) := (Below.heap_setCell _ _ _ _ (show wr.heap.size ≠ w.heap.size + 1 by omega)).trans (((hgrow.block wr.heap.size (by simp; omega) (fun e => by have := (hkw _ e.symm).2; omega)).trans (Lib.alloc_old w4 _ _ (by omega))).trans hP4)
        have hcl6 : ks.length + 1 ≤ 101 := by omega
        clear hT4 hT3 hT1 hP4 hP3 hP1 hL5 f5 q5 hgrow hat hglt hown' hM4 hK4 hB3 CR CN q42 q0 hs1 hs3 hs4
        generalize w5.setCell ⟨w.heap.size + 1, 2, none⟩ (.slice (some ⟨g, 0, none⟩) (ks.length + 1) cap) = w6 at *
        have hL6 := hT6.L
        have hz6 := hT6.sz
        have q63 : w6.cell? ⟨w.heap.size + 1, 3, none⟩ = some (.slice ca cs.length cc) := hL6.cell 3
        have g1 : w6.cell? ⟨wr.heap.size, 1, none⟩ = some (.int .i64 p.2.kind) := by rw [Lib.cell_of_heap hP6]; rfl
        have g2 : w6.cell? ⟨wr.heap.size, 2, none⟩ = some (.string (str p.2.text)) := by rw [Lib.cell_of_heap hP6]; rfl
        have g3 : w6.cell? ⟨wr.heap.size, 3, none⟩ = some (.slice da dn dc) := by rw [Lib.cell_of_heap hP6]; rfl
        have g4 : w6.cell? ⟨wr.heap.size, 4, none⟩ = some (.slice db dm dd) := by rw [Lib.cell_of_heap hP6]; rfl
        have CC := hideP (fun W (hB : Below w.heap.size w W) => clone_all p.2 _ W (HRV.out.below hB) hps)
        have hlast := hT6.cl
        clear hP6 hkw hcw HRV
        go_region_law (first
          | (go_simp; refine (CC.out _ hT6.B.drew).mono ?_; rintro e w7 ⟨v7, rfl, hr7, hB7⟩; obtain ⟨pa, pn, pc, pb, pm, pd, rfl⟩ := hr7.shape; have hs7 : w6.heap.size ≤ w7.heap.size := hB7.size; have hL7 : VAt w7 (w.heap.size + 1) (.int .i64 6) (.string ⟨#[]⟩) (.slice (some ⟨g, 0, none⟩) (ks.length + 1) cap) (.slice ca cs.length cc) := hL6.keep (hB7.block (w.heap.size + 1) hL6.lt); have c37 : w7.cell? ⟨w.heap.size + 1, 3, none⟩ = some (.slice ca cs.length cc) := hL7.cell 3; have c3a : (w7.alloc (.cells #[.int .i64 p.2.kind, .string (str p.2.text), .slice pa pn pc, .slice pb pm pd] 27)).cell? ⟨w.heap.size + 1, 3, none⟩ = some (.slice ca cs.length cc) := (hL7.keep (Lib.alloc_old w7 _ (w.heap.size + 1) (by omega))).cell 3; have hGa : (w7.alloc (.cells #[.int .i64 p.2.kind, .string (str p.2.text), .slice pa pn pc, .slice pb pm pd] 27)).ownsRow (w.heap.size + 3) 27 4 (.slice ca cs.length cc) cs.length (flat vs) := own_keep hT6.G.own (fun k hk hl => (Lib.alloc_old w7 _ k (by omega)).trans (hB7.block k hl)); have hnew := cell_four_new w7 (.int .i64 p.2.kind) (.string (str p.2.text)) (.slice pa pn pc) (.slice pb pm pd) 27; have hLne : some (w.heap.size + 1) ≠ (Value.slice ca cs.length cc).ownBlock := fun e => by have := (hlast _ e.symm).1; omega)
          | (refine step_append_lies _ rfl (.tmp 29) (.tmp 33) 24 rfl (w.heap.size + 3) 27 i0 (vv (.int .i64 0) (.string ⟨#[]⟩) (.slice none 0 0) (.slice none 0 0)) 4 72 Tryz.underlying24 hi hz0 hz1 hz2 rfl (by decide) _ _ _ rfl hGa ⟨w7.heap.size, 0, none⟩ 1 1 [.int .i64 p.2.kind, .string (str p.2.text), .slice pa pn pc, .slice pb pm pd] rfl rfl hnew (fun x hx => by simp at hx; rcases hx with rfl | rfl | rfl | rfl <;> rfl) (by decide) (by unfold maxLen; omega) (by omega) (by simp; omega) _ rfl ?_; intro g8 cap8 w8 hown8 hgrow8 hat8 hglt8; have hL8 : VAt w8 (w.heap.size + 1) (.int .i64 6) (.string ⟨#[]⟩) (.slice (some ⟨g, 0, none⟩) (ks.length + 1) cap) (.slice ca cs.length cc) := hL7.keep ((hgrow8.block (w.heap.size + 1) (by simp; omega) hLne).trans (Lib.alloc_old w7 _ (w.heap.size + 1) (by omega))); have c38 : w8.cell? ⟨w.heap.size + 1, 3, none⟩ = some (.slice ca cs.length cc) := hL8.cell 3; have f38 := hL8.free 3))
        all_goals (
          have hT9 := hT6.val (t := p.2) (bel (Below.refl _ w6).drew hB7) hgrow8 hat8 (by simp) hr7 hown8
          clear hL8 hown8 hgrow8 hGa hnew hr7 hL7 c38 f38 c37 c3a q63 g1 g2 g3 g4
          generalize w8.setCell ⟨w.heap.size + 1, 3, none⟩ (.slice (some ⟨g8, 0, none⟩) (cs.length + 1) cap8) = w9 at *
          go_wp2
          exact ⟨⟨j + 1, ks ++ [key], cs ++ [p.2], _, _, _, by go_num, by omega, HP2, hT9⟩, by simp [intOf]; omega⟩)
    · have hje : j = ps.length := by omega
      subst hje
      have hV := hT.L
      have hR := hT.R
      have hz := hT.sz
      go_wp2_with (first
        | ((with_reducible show wpList _ _ _ ({ op := Op.load 27 _, .. } :: _) _ _); refine wpList_load_V _ rfl rfl _ _ _ _ _ rfl hV ?_)
        | ((with_reducible show wpList _ _ _ ({ op := Op.store 27 _ _, .. } :: _) _ _); refine wpList_store_V _ _ rfl rfl _ _ _ _ _ rfl rfl hR (ones_mk _ _ _ _ _ _ _ _) ?_))
      have hs7 := setRow_len wr w.heap.size #[.int .i64 6, .string ⟨#[]⟩, .slice ka ks.length kc, .slice ca cs.length cc]
      refine ret_V rfl rfl rfl (setRow_V hR _ _ _ _) ⟨_, rfl, ?_, setRow_below hT.B (Nat.le_refl _)⟩
      have hJ : Jsn.tabJ ps = .mk 6 [] ks cs := by
        unfold Jsn.tabJ
        have := HF.out
        rw [List.take_length] at this
        rw [this]
      rw [hJ]
      refine RV_mk.2 ⟨_, _, rfl, RTs_own (row_setR hT.K (by omega)), ?_⟩
      exact hT.G.kids.reads.keep (by rw [hs7]; exact Nat.le_refl _) (fun q hq hl => ⟨trivial, setRow_other _ (by omega)⟩)
end Go.Proofs.YtmmpbjpeiclacaaGreatDoor
