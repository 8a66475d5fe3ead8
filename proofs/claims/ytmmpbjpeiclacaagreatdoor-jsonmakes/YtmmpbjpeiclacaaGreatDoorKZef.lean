/- Texts laid as one. -/
import Derived.Test.YtmmpbjpeiclacaaGreatDoorKZcd
/- Contracts of the writer's list, table, value. -/
set_option linter.unusedVariables false
set_option linter.unusedSimpArgs false
namespace Go.Proofs.YtmmpbjpeiclacaaGreatDoor
open Go.RowKit
def WrPost (b : Nat) (w : World) (X : Option (List UInt8)) (e : Ending) (w' : World) : Prop := e = .returned (.tuple #[]) ∧ Wk b w w' ∧ WS b w' X
/-- A value that may be, somewhere. -/
def May1 (t : Jsn.J) : Prop := ∃ d n m, Jsn.mayC t d n = some m
def WrC (t : Jsn.J) : Prop := ∀ (v : Value) (b : Nat) (w : World) (x : Option (List UInt8)), RV (· < b) w t v → May1 t → Jsn.sizeJ t ≤ 1000000000 → WS b w x → Calls Tryz.prog 43 #[.pointer (some ⟨b, 0, none⟩), v] w (WrPost b w (putJ x (Jsn.textJ t)))
theorem mayL_mem : ∀ (cs : List Jsn.J) (d n m : Nat), Jsn.mayL cs d n = some m → ∀ c ∈ cs, May1 c
  | [], _, _, _, _, c, hc => by cases hc
  | a :: cs, d, n, m, h, c, hc => by
    unfold Jsn.mayL at h
    cases ha : Jsn.mayC a d n with
    | none => rw [ha] at h; cases h
    | some q =>
      rw [ha] at h
      rcases List.mem_cons.1 hc with rfl | hc
      · exact ⟨_, _, _, ha⟩
      · exact mayL_mem cs d q m h c hc
theorem Wk.lt_block {b : Nat} {w w' : World} (h : Wk b w w') (k : Nat) (hk : k < b) : w'.heap[k]? = w.heap[k]? := h.bel.block k hk
theorem Wk.val {b k : Nat} {w w' : World} {cs : Array Value} (h : Wk b w w') (hk : w.heap[k]? = some (.cells cs 27 (0, 0))) (hb : k ≠ b) : w'.heap[k]? = some (.cells cs 27 (0, 0)) :=
  h.others k _ hk (by simp; omega) (by intro c fz e; cases e)
theorem val_new (w : World) (o : Obj) : (w.alloc o).heap[w.heap.size]? = some o := by
  unfold World.alloc
  exact Array.getElem?_push_size
set_option maxHeartbeats 4000000 in
set_option maxRecDepth 100000 in
theorem list_w (cs : List Jsn.J) (ih : ∀ c ∈ cs, WrC c) (hm : ∀ c ∈ cs, May1 c) (x0 x1 x2 cv : Value) (b : Nat) (w : World) (x : Option (List UInt8)) (hk : RKs (· < b) w cs cv) (hW : WS b w x) (hsz : Jsn.sizeL cs ≤ 1000000000) (hl : cs.length ≤ 1000000000) :
    Calls Tryz.prog 68 #[.pointer (some ⟨b, 0, none⟩), vv x0 x1 x2 cv] w (WrPost b w (putJ x (91 :: (Jsn.itemsJ true cs ++ [93])))) := by
  unfold WrPost
  obtain ⟨a, c, rfl⟩ := hk.form
  have hb := hW.lt
  have hp := fun s (h : s.length ≤ 1000000000) => put_any s h b
  have hp1 := hp [91] (by decide)
  have hp2 := hp [93] (by decide)
  clear hp
  generalize hX : putJ x (91 :: (Jsn.itemsJ true cs ++ [93])) = X
  have HX : Hid (putJ (putJ x [91]) (Jsn.itemsJ (decide (0 = 0)) (cs.drop 0) ++ [93]) = X) := by
    show _ = _
    rw [← hX, putJ_app]
    rfl
  clear hX
  have hA : Below w.heap.size w (w.alloc (.cells #[x0, x1, x2, .slice a cs.length c] 27)) := (Below.refl _ w).alloc (Nat.le_refl _) _
  have hWA := hW.keep hA
  have hkA := Wk.of (b := b) hA (by omega)
  have hbk : (w.alloc (.cells #[x0, x1, x2, .slice a cs.length c] 27)).heap[w.heap.size]? = some (.cells #[x0, x1, x2, .slice a cs.length c] 27 (0, 0)) := val_new _ _
  go_enter Tryz.func68, Tryz.ntmps68
  go_wp2_with (first
    | (go_at_call 66; refine (hp1 _ _ hWA).mono ?_; rintro e w1 ⟨rfl, hk1, hW1⟩; have hK1 := hkA.trans hk1; have hbk1 := hk1.val hbk (by omega); have c3 : w1.cell? ⟨w.heap.size, 3, none⟩ = some (.slice a cs.length c) := by rw [Lib.cell_of_heap hbk1]; rfl))
  go_loopw [11] (fun i wr => ∃ (j : Nat) (y : Option (List UInt8)), i = .int .i64 j ∧ j ≤ cs.length ∧ WS b wr y ∧ Wk b w wr ∧ Hid (putJ y (Jsn.itemsJ (decide (j = 0)) (cs.drop j) ++ [93]) = X)) (fun i _ => cs.length - (intOf i).toNat)
  case atStart => exact ⟨0, putJ x [91], rfl, Nat.zero_le _, hW1, hK1, HX⟩
  case round =>
    obtain ⟨j, y, rfl, hj, hWj, hK, HE⟩ := hrel
    clear hp1 hW1 hK1 HX hWA hkA hbk hbk1 c3
    have hbj := hWj.lt
    by_cases hlt : j < cs.length
    · have hat : cs[j]? = some cs[j] := List.getElem?_eq_getElem hlt
      obtain ⟨g, o, rfl, hcl, hgb, hgl, y0, y1, y2, y3, e0, e1, e2, e3, hrv⟩ := hk.at hat
      have hkg := hK.lt_block g hgb
      have f0 := (cell_keep hkg (o := o + j * 4)).trans e0
      have f1 := (cell_keep hkg (o := o + j * 4 + 1)).trans e1
      have f2 := (cell_keep hkg (o := o + j * 4 + 2)).trans e2
      have f3 := (cell_keep hkg (o := o + j * 4 + 3)).trans e3
      obtain ⟨aa, na, ca, ab, nb, cb, hsh⟩ := hrv.shape
      cases hsh
      have hBw : Below wr.heap.size wr (wr.alloc (.cells #[.int .i64 cs[j].kind, .string (str cs[j].text), .slice aa na ca, .slice ab nb cb] 27)) := (Below.refl _ wr).alloc (Nat.le_refl _) _
      have hKw := hK.trans (Wk.of (b := b) hBw (by omega))
      have hbw : (wr.alloc (.cells #[.int .i64 cs[j].kind, .string (str cs[j].text), .slice aa na ca, .slice ab nb cb] 27)).heap[wr.heap.size]? = some (.cells #[.int .i64 cs[j].kind, .string (str cs[j].text), .slice aa na ca, .slice ab nb cb] 27 (0, 0)) := val_new _ _
      have hcm := comma_any b j _ y (hWj.keep hBw)
      have hE := HE.out
      rw [List.drop_eq_getElem_cons hlt, Jsn.items_cons] at hE
      have HY : Hid (putJ (putJ (putJ y (if j = 0 then [] else [44])) (Jsn.textJ cs[j])) (Jsn.itemsJ (decide (j + 1 = 0)) (cs.drop (j + 1)) ++ [93]) = X) := by
        show _ = _
        rw [← hE, putJ_app, putJ_app]
        congr 1
        by_cases hj0 : j = 0 <;> simp [hj0]
      have hI := fun W y (h1 : RV (· < b) W cs[j] (vv (.int .i64 cs[j].kind) (.string (str cs[j].text)) (.slice aa na ca) (.slice ab nb cb))) h2 => ih cs[j] (List.getElem_mem hlt) _ b W y h1 (hm _ (List.getElem_mem hlt)) (Nat.le_trans (Jsn.sizeL_mem (List.getElem_mem hlt)) hsz) h2
      clear hE HE hat
      generalize cs[j] = t at *
      generalize putJ y (if j = 0 then [] else [44]) = y' at *
      go_wp2_with (first
        | (go_at_call 88; refine hcm.mono ?_; rintro e w2 ⟨rfl, hk2, hW2⟩; have hK2 := hKw.trans hk2; have hb2 := hk2.val hbw (by omega); have d0 : w2.cell? ⟨wr.heap.size, 0, none⟩ = some (.int .i64 t.kind) := by { rw [Lib.cell_of_heap hb2]; rfl }; have d1 : w2.cell? ⟨wr.heap.size, 1, none⟩ = some (.string (str t.text)) := by { rw [Lib.cell_of_heap hb2]; rfl }; have d2 : w2.cell? ⟨wr.heap.size, 2, none⟩ = some (.slice aa na ca) := by { rw [Lib.cell_of_heap hb2]; rfl }; have d3 : w2.cell? ⟨wr.heap.size, 3, none⟩ = some (.slice ab nb cb) := by { rw [Lib.cell_of_heap hb2]; rfl }; have hI2 := hI w2 _ (RV.keep hK2.bel.size (fun k hq hl => ⟨hq, hK2.lt_block k hq⟩) hrv) hW2)
        | (go_at_call 43; refine hI2.mono ?_; rintro e w3 ⟨rfl, hk3, hW3⟩))
      go_roundw
      case rel => exact ⟨j + 1, _, by go_num, by omega, hW3, hK2.trans hk3, HY⟩
      case measure => simp [intOf]; omega
    · have HY : Hid (putJ y [93] = X) := by
        show _ = _
        rw [← HE.out, List.drop_of_length_le (by omega)]
        cases decide (j = 0) <;> simp [Jsn.itemsJ]
      clear HE
      go_wp2_with (first
        | (go_at_call 66; refine (hp2 _ _ hWj).mono ?_; rintro e w2 ⟨rfl, hk2, hW2⟩))
      go_end0
      exact ⟨rfl, hK.trans hk2, by rw [← HY.out]; exact hW2⟩
set_option maxHeartbeats 4000000 in
set_option maxRecDepth 100000 in
theorem table_w (ks : List (List UInt8)) (cs : List Jsn.J) (hkl : cs.length ≤ ks.length) (hkt : ∀ k ∈ ks, Utf.isText k = true) (hkz : ∀ k ∈ ks, k.length ≤ 1000000000) (ih : ∀ c ∈ cs, WrC c) (hm : ∀ c ∈ cs, May1 c) (x0 x1 kv cv : Value) (b : Nat) (w : World) (x : Option (List UInt8)) (hks : RTs (· < b) w ks kv) (hk : RKs (· < b) w cs cv) (hW : WS b w x) (hsz : Jsn.sizeL cs ≤ 1000000000) (hl : cs.length ≤ 1000000000) :
    Calls Tryz.prog 69 #[.pointer (some ⟨b, 0, none⟩), vv x0 x1 kv cv] w (WrPost b w (putJ x (123 :: (Jsn.pairsJ true ks cs ++ [125])))) := by
  unfold WrPost
  obtain ⟨a, c, rfl⟩ := hk.form
  obtain ⟨ka, kc, rfl⟩ := hks.form
  have hb := hW.lt
  have hp := fun s (h : s.length ≤ 1000000000) => put_any s h b
  have hp1 := hp [123] (by decide)
  have hp2 := hp [125] (by decide)
  have hp3 := hp [58] (by decide)
  clear hp
  generalize hX : putJ x (123 :: (Jsn.pairsJ true ks cs ++ [125])) = X
  have HX : Hid (putJ (putJ x [123]) (Jsn.pairsJ (decide (0 = 0)) (ks.drop 0) (cs.drop 0) ++ [125]) = X) := by
    show _ = _
    rw [← hX, putJ_app]
    rfl
  clear hX
  have hA : Below w.heap.size w (w.alloc (.cells #[x0, x1, .slice ka ks.length kc, .slice a cs.length c] 27)) := (Below.refl _ w).alloc (Nat.le_refl _) _
  have hWA := hW.keep hA
  have hkA := Wk.of (b := b) hA (by omega)
  have hbk : (w.alloc (.cells #[x0, x1, .slice ka ks.length kc, .slice a cs.length c] 27)).heap[w.heap.size]? = some (.cells #[x0, x1, .slice ka ks.length kc, .slice a cs.length c] 27 (0, 0)) := val_new _ _
  go_enter Tryz.func69, Tryz.ntmps69
  go_wp2_with (first
    | (go_at_call 66; refine (hp1 _ _ hWA).mono ?_; rintro e w1 ⟨rfl, hk1, hW1⟩; have hK1 := hkA.trans hk1; have hbk1 := hk1.val hbk (by omega); have c3 : w1.cell? ⟨w.heap.size, 3, none⟩ = some (.slice a cs.length c) := by rw [Lib.cell_of_heap hbk1]; rfl))
  go_loopw [11] (fun i wr => ∃ (j : Nat) (y : Option (List UInt8)), i = .int .i64 j ∧ j ≤ cs.length ∧ WS b wr y ∧ Wk b w wr ∧ wr.heap[w.heap.size]? = some (.cells #[x0, x1, .slice ka ks.length kc, .slice a cs.length c] 27 (0, 0)) ∧ Hid (putJ y (Jsn.pairsJ (decide (j = 0)) (ks.drop j) (cs.drop j) ++ [125]) = X)) (fun i _ => cs.length - (intOf i).toNat)
  case atStart => exact ⟨0, putJ x [123], rfl, Nat.zero_le _, hW1, hK1, hbk1, HX⟩
  case round =>
    obtain ⟨j, y, rfl, hj, hWj, hK, hbx, HE⟩ := hrel
    clear hp1 hW1 hK1 HX hWA hkA hbk hbk1 c3
    have hbx2 : w.heap.size ≠ b := by omega
    have hbj := hWj.lt
    by_cases hlt : j < cs.length
    · have hat : cs[j]? = some cs[j] := List.getElem?_eq_getElem hlt
      obtain ⟨g, o, rfl, hcl, hgb, hgl, y0, y1, y2, y3, e0, e1, e2, e3, hrv⟩ := hk.at hat
      have hkg := hK.lt_block g hgb
      have f0 := (cell_keep hkg (o := o + j * 4)).trans e0
      have f1 := (cell_keep hkg (o := o + j * 4 + 1)).trans e1
      have f2 := (cell_keep hkg (o := o + j * 4 + 2)).trans e2
      have f3 := (cell_keep hkg (o := o + j * 4 + 3)).trans e3
      obtain ⟨aa, na, ca, ab, nb, cb, hsh⟩ := hrv.shape
      cases hsh
      have hltk : j < ks.length := by omega
      have hatk : ks[j]? = some ks[j] := List.getElem?_eq_getElem hltk
      obtain ⟨gk, ok, rfl, hckl, hgkb, hgkl, ek⟩ := hks.at hatk
      have hws := hK.bel.size
      have hwlt : w.heap.size < wr.heap.size := (Array.getElem?_eq_some_iff.1 hbx).1
      have hBw : Below wr.heap.size wr (wr.alloc (.cells #[.int .i64 cs[j].kind, .string (str cs[j].text), .slice aa na ca, .slice ab nb cb] 27)) := (Below.refl _ wr).alloc (Nat.le_refl _) _
      have hKw := hK.trans (Wk.of (b := b) hBw (by omega))
      have hbw : (wr.alloc (.cells #[.int .i64 cs[j].kind, .string (str cs[j].text), .slice aa na ca, .slice ab nb cb] 27)).heap[wr.heap.size]? = some (.cells #[.int .i64 cs[j].kind, .string (str cs[j].text), .slice aa na ca, .slice ab nb cb] 27 (0, 0)) := val_new _ _
      have hcm := comma_any b j _ y (hWj.keep hBw)
      have hE := HE.out
      rw [List.drop_eq_getElem_cons hlt, List.drop_eq_getElem_cons hltk, Jsn.pairs_cons] at hE
      have HY : Hid (putJ (putJ (putJ (putJ (putJ y (if j = 0 then [] else [44])) (Jsn.quoteJ ks[j])) [58]) (Jsn.textJ cs[j])) (Jsn.pairsJ (decide (j + 1 = 0)) (ks.drop (j + 1)) (cs.drop (j + 1)) ++ [125]) = X) := by
        show _ = _
        rw [← hE, putJ_app, putJ_app, putJ_app, putJ_app]
        congr 1
        by_cases hj0 : j = 0 <;> simp [hj0]
      have hI := fun W y (h1 : RV (· < b) W cs[j] (vv (.int .i64 cs[j].kind) (.string (str cs[j].text)) (.slice aa na ca) (.slice ab nb cb))) h2 => ih cs[j] (List.getElem_mem hlt) _ b W y h1 (hm _ (List.getElem_mem hlt)) (Nat.le_trans (Jsn.sizeL_mem (List.getElem_mem hlt)) hsz) h2
      have hq := fun W y => quote_any ks[j] (hkz _ (List.getElem_mem hltk)) (hkt _ (List.getElem_mem hltk)) b W y
      clear hE HE hat hatk
      generalize ks[j] = kk at *
      generalize cs[j] = t at *
      generalize putJ y (if j = 0 then [] else [44]) = y' at *
      go_wp2_with (first
        | (go_at_call 88; refine hcm.mono ?_; rintro e w2 ⟨rfl, hk2, hW2⟩; have hK2 := hKw.trans hk2; have hb2 := hk2.val hbw (by omega); have hx2 := hk2.val ((hBw.block _ hwlt).trans hbx) hbx2; have k2 : w2.cell? ⟨w.heap.size, 2, none⟩ = some (.slice (some ⟨gk, ok, none⟩) ks.length kc) := by { rw [Lib.cell_of_heap hx2]; rfl }; have k3 := (cell_keep (hK2.lt_block gk hgkb) (o := ok + j)).trans ek; have hq2 := hq w2 _ hW2)
        | (go_at_call 67; refine hq2.mono ?_; rintro e w4 ⟨rfl, hk4, hW4⟩; have hb4 := hk4.val hb2 (by omega); have hx4 := hk4.val hx2 hbx2; have hK4 := hK2.trans hk4)
        | (go_at_call 66; refine (hp3 _ _ hW4).mono ?_; rintro e w5 ⟨rfl, hk5, hW5⟩; have hb5 := hk5.val hb4 (by omega); have hx5 := hk5.val hx4 hbx2; have hK5 := hK4.trans hk5; have d0 : w5.cell? ⟨wr.heap.size, 0, none⟩ = some (.int .i64 t.kind) := by { rw [Lib.cell_of_heap hb5]; rfl }; have d1 : w5.cell? ⟨wr.heap.size, 1, none⟩ = some (.string (str t.text)) := by { rw [Lib.cell_of_heap hb5]; rfl }; have d2 : w5.cell? ⟨wr.heap.size, 2, none⟩ = some (.slice aa na ca) := by { rw [Lib.cell_of_heap hb5]; rfl }; have d3 : w5.cell? ⟨wr.heap.size, 3, none⟩ = some (.slice ab nb cb) := by { rw [Lib.cell_of_heap hb5]; rfl }; have hI5 := hI w5 _ (RV.keep hK5.bel.size (fun k hq hl => ⟨hq, hK5.lt_block k hq⟩) hrv) hW5)
        | (go_at_call 43; refine hI5.mono ?_; rintro e w3 ⟨rfl, hk3, hW3⟩))
      go_roundw
      case rel => exact ⟨j + 1, _, by go_num, by omega, hW3, hK5.trans hk3, hk3.val hx5 hbx2, HY⟩
      case measure => simp [intOf]; omega
    · have HY : Hid (putJ y [125] = X) := by
        show _ = _
        rw [← HE.out, show cs.drop j = [] from List.drop_of_length_le (by omega)]
        cases decide (j = 0) <;> simp [Jsn.pairsJ]
      clear HE
      go_wp2_with (first
        | (go_at_call 66; refine (hp2 _ _ hWj).mono ?_; rintro e w2 ⟨rfl, hk2, hW2⟩))
      go_end0
      exact ⟨rfl, hK.trans hk2, by rw [← HY.out]; exact hW2⟩
theorem keys_text {ks : List (List UInt8)} (h : Jsn.keysOK ks = true) : ∀ k ∈ ks, Utf.isText k = true := by
  unfold Jsn.keysOK at h
  rw [Bool.and_eq_true] at h
  exact List.all_eq_true.1 h.1
end Go.Proofs.YtmmpbjpeiclacaaGreatDoor
/- The contracts of the writer's value, and of Text. -/
set_option linter.unusedVariables false
set_option linter.unusedSimpArgs false
namespace Go.Proofs.YtmmpbjpeiclacaaGreatDoor
open Go.RowKit
set_option maxHeartbeats 4000000 in
set_option maxRecDepth 100000 in
theorem value_w : ∀ t, WrC t := by
  intro tr
  induction tr using Jsn.J.ind with
  | h k t ks cs ih =>
    intro v b w x hv hm hsz hW
    obtain ⟨kv, cv, rfl, hks, hcs⟩ := RV_mk.1 hv
    obtain ⟨a1, c1, rfl⟩ := hks.form
    obtain ⟨a2, c2, rfl⟩ := hcs.form
    rw [Jsn.sizeJ_mk] at hsz
    obtain ⟨d, n, m, hm⟩ := hm
    unfold Jsn.mayC at hm
    have hb := hW.lt
    rw [Jsn.textJ_mk]
    unfold WrPost
    have hB : ∀ o, Below w.heap.size w (w.alloc o) := fun o => (Below.refl _ _).alloc (Nat.le_refl _) _
    have hWB := fun o => hW.keep (hB o)
    have hkB : ∀ o, Wk b w (w.alloc o) := fun o => Wk.of (hB o) (by omega)
    have hcs' : ∀ o, RKs (· < b) (w.alloc o) cs (.slice a2 cs.length c2) := fun o => hcs.keep (hkB o).bel.size (fun k hq hl => ⟨hq, (hkB o).lt_block k hq⟩)
    have hks' : ∀ o, RTs (· < b) (w.alloc o) ks (.slice a1 ks.length c1) := fun o => hks.keep (hkB o).bel.size (fun k hq hl => ⟨hq, (hkB o).lt_block k hq⟩)
    split at hm
    · cases hm
    · by_cases h5 : k = 5
      · subst h5
        rw [if_pos rfl] at hm
        split at hm
        · rename_i hcond
          have hc := list_w cs ih (mayL_mem cs _ _ _ hm) (.int .i64 5) (.string (str t)) (.slice a1 ks.length c1) (.slice a2 cs.length c2) b _ x (hcs' _) (hWB (.cells #[.int .i64 5, .string (str t), .slice a1 ks.length c1, .slice a2 cs.length c2] 27)) (by omega) (by omega)
          rw [if_neg (by decide), if_neg (by decide), if_pos rfl]
          generalize putJ x (91 :: (Jsn.itemsJ true cs ++ [93])) = X at hc ⊢
          clear hm hcond
          go_enter Tryz.func43, Tryz.ntmps43
          go_wp2_with (first
            | (go_at_call 68; refine hc.mono ?_; rintro e w1 ⟨rfl, hk1, hW1⟩))
          go_end0
          exact ⟨rfl, (hkB _).trans hk1, hW1⟩
        · cases hm
      rw [if_neg h5] at hm
      by_cases h6 : k = 6
      · subst h6
        rw [if_pos rfl] at hm
        split at hm
        · rename_i hcond
          split at hm
          · rename_i hok
            have hc := table_w ks cs (by omega) (keys_text hok) (fun k hk => by have := Jsn.lenK_mem hk; omega) ih (mayL_mem cs _ _ _ hm) (.int .i64 6) (.string (str t)) (.slice a1 ks.length c1) (.slice a2 cs.length c2) b _ x (hks' _) (hcs' _) (hWB (.cells #[.int .i64 6, .string (str t), .slice a1 ks.length c1, .slice a2 cs.length c2] 27)) (by omega) (by omega)
            rw [if_neg (by decide), if_neg (by decide), if_neg (by decide), if_pos rfl]
            generalize putJ x (123 :: (Jsn.pairsJ true ks cs ++ [125])) = X at hc ⊢
            clear hm hcond hok
            go_enter Tryz.func43, Tryz.ntmps43
            go_wp2_with (first
              | (go_at_call 69; refine hc.mono ?_; rintro e w1 ⟨rfl, hk1, hW1⟩))
            go_end0
            exact ⟨rfl, (hkB _).trans hk1, hW1⟩
          · cases hm
        · cases hm
      rw [if_neg h6] at hm
      split at hm
      · rename_i hcond
        obtain ⟨hx1, hx2, hto⟩ := hcond
        clear hx1 hx2
        unfold Jsn.textOf at hto
        clear hm
        by_cases h1 : k = 1
        · subst h1
          rw [if_pos rfl]
          have hc := put_any Jsn.nullT (by decide) b _ x (hWB (.cells #[.int .i64 1, .string (str t), .slice a1 ks.length c1, .slice a2 cs.length c2] 27))
          generalize putJ x Jsn.nullT = X at hc ⊢
          clear hto
          go_enter Tryz.func43, Tryz.ntmps43
          go_wp2_with (first
            | (go_at_call 66; refine hc.mono ?_; rintro e w1 ⟨rfl, hk1, hW1⟩))
          go_end0
          exact ⟨rfl, (hkB _).trans hk1, hW1⟩
        rw [if_neg h1] at hto ⊢
        by_cases h4 : k = 4
        · subst h4
          rw [if_pos rfl]
          rw [if_neg (by decide), if_neg (by decide), if_pos rfl] at hto
          have hc := quote_any t (by omega) hto b _ x (hWB (.cells #[.int .i64 4, .string (str t), .slice a1 ks.length c1, .slice a2 cs.length c2] 27))
          generalize putJ x (Jsn.quoteJ t) = X at hc ⊢
          clear hto
          go_enter Tryz.func43, Tryz.ntmps43
          go_wp2_with (first
            | (go_at_call 67; refine hc.mono ?_; rintro e w1 ⟨rfl, hk1, hW1⟩))
          go_end0
          exact ⟨rfl, (hkB _).trans hk1, hW1⟩
        · rw [if_neg h4, if_neg h5, if_neg h6]
          have hc := put_any t (by omega) b _ x (hWB (.cells #[.int .i64 k, .string (str t), .slice a1 ks.length c1, .slice a2 cs.length c2] 27))
          generalize putJ x t = X at hc ⊢
          clear hto
          have q1 : (k == 1) = false := by simpa using h1
          have q4 : (k == 4) = false := by simpa using h4
          have q5 : (k == 5) = false := by simpa using h5
          have q6 : (k == 6) = false := by simpa using h6
          go_enter Tryz.func43, Tryz.ntmps43
          go_wp2_with (first
            | (go_at_call 66; refine hc.mono ?_; rintro e w1 ⟨rfl, hk1, hW1⟩))
          go_end0
          exact ⟨rfl, (hkB _).trans hk1, hW1⟩
      · cases hm
def textR (t : Jsn.J) : List UInt8 × Int := if Jsn.mayJ t = true then (if (Jsn.textJ t).length ≤ 65536 then (Jsn.textJ t, 0) else ([], 5)) else ([], 1)
theorem fresh_writer (w : World) : WS w.heap.size (w.alloc (.cells #[.slice none 0 0, .bool false] 81)) (some []) :=
  .has ⟨.slice none 0 0, val_new _ _, OwnsBytes.nil _ _, by simp [Value.ownBlock], by simp⟩
set_option maxHeartbeats 4000000 in
set_option maxRecDepth 100000 in
theorem Text_any (t : Jsn.J) (v : Value) (w : World) (hv : RV (fun _ => True) w t v) (hsz : Jsn.sizeJ t ≤ 1000000000) :
    Calls Tryz.prog 20 #[v] w fun e w' => e = .returned (.tuple #[.string (str (textR t).1), .int .i64 (textR t).2]) ∧ Below w.heap.size w w' := by
  obtain ⟨aa, na, ca, ab, nb, cb, rfl⟩ := hv.shape
  have hA : Below w.heap.size w (w.alloc (.cells #[.int .i64 t.kind, .string (str t.text), .slice aa na ca, .slice ab nb cb] 27)) := (Below.refl _ w).alloc (Nat.le_refl _) _
  have hb0 : (w.alloc (.cells #[.int .i64 t.kind, .string (str t.text), .slice aa na ca, .slice ab nb cb] 27)).heap[w.heap.size]? = some (.cells #[.int .i64 t.kind, .string (str t.text), .slice aa na ca, .slice ab nb cb] 27 (0, 0)) := val_new _ _
  have hM := May_any t _ _ (RV.keep (Q' := fun _ => True) hA.size (fun k _ hl => ⟨trivial, hA.block k hl⟩) hv) hsz
  unfold textR
  cases hmay : Jsn.mayJ t with
  | false =>
    rw [hmay] at hM
    rw [if_neg (by decide)]
    clear hmay
    go_enter Tryz.func20, Tryz.ntmps20
    go_wp2_with (first
      | (go_at_call 21; refine hM.mono ?_; rintro e w1 ⟨rfl, hB1⟩))
    go_ret2
    exact ⟨rfl, hA.trans (hB1.mono hA.size)⟩
  | true =>
    rw [hmay] at hM
    rw [if_pos rfl]
    have hM1 : May1 t := by
      unfold Jsn.mayJ at hmay
      obtain ⟨m, hm⟩ := Option.isSome_iff_exists.1 hmay
      exact ⟨0, 0, m, hm⟩
    clear hmay
    have hval := fun b W h1 h2 => value_w t (vv (.int .i64 t.kind) (.string (str t.text)) (.slice aa na ca) (.slice ab nb cb)) b W (some []) h1 hM1 hsz h2
    by_cases hl : (Jsn.textJ t).length ≤ 65536
    · rw [if_pos hl]
      rw [putJ_yes (by simpa using hl), List.nil_append] at hval
      generalize Jsn.textJ t = q at hval hl ⊢
      go_enter Tryz.func20, Tryz.ntmps20
      go_wp2_with (first
        | (go_at_call 21; refine hM.mono ?_; rintro e w1 ⟨rfl, hB1⟩; have hs1 := hB1.size; have hfw := fresh_writer w1; have hB2 : Below w1.heap.size w1 (w1.alloc (.cells #[.slice none 0 0, .bool false] 81)) := (Below.refl _ _).alloc (Nat.le_refl _) _; have hBB := bel (bel hA hB1) hB2; have hb1 := (hB2.block w.heap.size (by simp at hs1; omega)).trans ((hB1.block w.heap.size (by simp)).trans hb0); have d0 : (w1.alloc (.cells #[.slice none 0 0, .bool false] 81)).cell? ⟨w.heap.size, 0, none⟩ = some (.int .i64 t.kind) := by { rw [Lib.cell_of_heap hb1]; rfl }; have d1 : (w1.alloc (.cells #[.slice none 0 0, .bool false] 81)).cell? ⟨w.heap.size, 1, none⟩ = some (.string (str t.text)) := by { rw [Lib.cell_of_heap hb1]; rfl }; have d2 : (w1.alloc (.cells #[.slice none 0 0, .bool false] 81)).cell? ⟨w.heap.size, 2, none⟩ = some (.slice aa na ca) := by { rw [Lib.cell_of_heap hb1]; rfl }; have d3 : (w1.alloc (.cells #[.slice none 0 0, .bool false] 81)).cell? ⟨w.heap.size, 3, none⟩ = some (.slice ab nb cb) := by { rw [Lib.cell_of_heap hb1]; rfl }; have hV := hval w1.heap.size _ (RV.keep hBB.size (fun k _ hl => ⟨by simp at hs1; omega, hBB.block k hl⟩) hv) hfw)
        | (go_at_call 43; refine hV.mono ?_; rintro e w2 ⟨rfl, hk2, hW2⟩; obtain ⟨vo, hbo, hown, hne, hol⟩ : WAt w1.heap.size w2 q false := by { cases hW2; assumption }; have hcv := conv_owned hown; have g0 : w2.cell? ⟨w1.heap.size, 0, none⟩ = some vo := by { rw [Lib.cell_of_heap hbo]; rfl }; have g1 : w2.cell? ⟨w1.heap.size, 1, none⟩ = some (.bool false) := by { rw [Lib.cell_of_heap hbo]; rfl }))
      go_ret2
      exact ⟨rfl, hBB.trans (hk2.bel.mono (by simp at hs1; omega))⟩
    · rw [if_neg hl]
      rw [putJ_no (by simpa using hl)] at hval
      clear hl
      go_enter Tryz.func20, Tryz.ntmps20
      go_wp2_with (first
        | (go_at_call 21; refine hM.mono ?_; rintro e w1 ⟨rfl, hB1⟩; have hs1 := hB1.size; have hfw := fresh_writer w1; have hB2 : Below w1.heap.size w1 (w1.alloc (.cells #[.slice none 0 0, .bool false] 81)) := (Below.refl _ _).alloc (Nat.le_refl _) _; have hBB := bel (bel hA hB1) hB2; have hb1 := (hB2.block w.heap.size (by simp at hs1; omega)).trans ((hB1.block w.heap.size (by simp)).trans hb0); have d0 : (w1.alloc (.cells #[.slice none 0 0, .bool false] 81)).cell? ⟨w.heap.size, 0, none⟩ = some (.int .i64 t.kind) := by { rw [Lib.cell_of_heap hb1]; rfl }; have d1 : (w1.alloc (.cells #[.slice none 0 0, .bool false] 81)).cell? ⟨w.heap.size, 1, none⟩ = some (.string (str t.text)) := by { rw [Lib.cell_of_heap hb1]; rfl }; have d2 : (w1.alloc (.cells #[.slice none 0 0, .bool false] 81)).cell? ⟨w.heap.size, 2, none⟩ = some (.slice aa na ca) := by { rw [Lib.cell_of_heap hb1]; rfl }; have d3 : (w1.alloc (.cells #[.slice none 0 0, .bool false] 81)).cell? ⟨w.heap.size, 3, none⟩ = some (.slice ab nb cb) := by { rw [Lib.cell_of_heap hb1]; rfl }; have hV := hval w1.heap.size _ (RV.keep hBB.size (fun k _ hl => ⟨by simp at hs1; omega, hBB.block k hl⟩) hv) hfw)
        | (go_at_call 43; refine hV.mono ?_; rintro e w2 ⟨rfl, hk2, hW2⟩; obtain ⟨out, vo, hbo, hown, hne, hol⟩ : ∃ out, WAt w1.heap.size w2 out true := by { cases hW2; exact ⟨_, by assumption⟩ }; have g1 : w2.cell? ⟨w1.heap.size, 1, none⟩ = some (.bool true) := by { rw [Lib.cell_of_heap hbo]; rfl }))
      go_ret2
      exact ⟨rfl, hBB.trans (hk2.bel.mono (by simp at hs1; omega))⟩
end Go.Proofs.YtmmpbjpeiclacaaGreatDoor
