/- The contract of Same. -/
import Derived.Test.YtfjgmejobldjoaaGreatDoorKZF
set_option linter.unusedVariables false
set_option linter.unusedSimpArgs false
namespace Jsn
mutual
/-- Whether two are the same. -/
def sameJ : J → J → Bool
  | .mk k t ks cs, .mk k2 t2 ks2 cs2 => decide (k = k2) && (decide (t = t2) && (decide (ks = ks2) && sameL cs cs2))
def sameL : List J → List J → Bool
  | [], [] => true
  | a :: l, c :: cs => sameJ a c && sameL l cs
  | [], _ :: _ => false
  | _ :: _, [] => false
end
theorem sameL_refl : ∀ cs : List J, (∀ c ∈ cs, sameJ c c = true) → sameL cs cs = true
  | [], _ => by unfold sameL; rfl
  | a :: cs, h => by
    unfold sameL
    rw [h a (by simp), sameL_refl cs (fun c hc => h c (by simp [hc]))]
    rfl
theorem sameJ_refl (v : J) : sameJ v v = true := by
  induction v using J.ind with
  | h k t ks cs ih =>
    unfold sameJ
    simp [sameL_refl cs ih]
theorem sameL_len : ∀ (a c : List J), ¬ a.length = c.length → sameL a c = false
  | [], [], h => absurd rfl h
  | [], _ :: _, _ => by unfold sameL; rfl
  | _ :: _, [], _ => by unfold sameL; rfl
  | a :: l, c :: cs, h => by
    unfold sameL
    rw [sameL_len l cs (by simpa using h), Bool.and_false]
theorem sameL_cons (a c : J) (l cs : List J) : sameL (a :: l) (c :: cs) = (sameJ a c && sameL l cs) := by rw [sameL]
end Jsn
namespace Go.Proofs.YtfjgmejobldjoaaGreatDoor
open Go.RowKit
theorem RTs.len {Q : Nat → Prop} {w : World} {ts : List (List UInt8)} {v : Value} (h : RTs Q w ts v) (hz : ts = []) : ∃ a c, v = .slice a 0 c := by
  obtain ⟨a, c, rfl⟩ := h.form
  subst hz
  exact ⟨a, c, rfl⟩
theorem getD_str (ts : List (List UInt8)) (j : Nat) (h : j < ts.length) : (ts.map str).getD j ByteArray.empty = str ts[j] := by
  rw [List.getD_eq_getElem?_getD, List.getElem?_map, List.getElem?_eq_getElem h]
  rfl
theorem map_str_inj {a c : List (List UInt8)} (h : a.map str = c.map str) : a = c := by
  have : (a.map str).map (fun b => b.data.toList) = (c.map str).map (fun b => b.data.toList) := by rw [h]
  simpa [List.map_map, Function.comp_def, str_data] using this
theorem Equal_any (Q : Nat → Prop) (ks1 ks2 : List (List UInt8)) (v1 v2 : Value) (w : World) (h1 : RTs Q w ks1 v1) (h2 : RTs Q w ks2 v2) (hl1 : ks1.length ≤ 1000000000) (hl2 : ks2.length ≤ 1000000000) :
    Calls Tryz.prog 30 #[v1, v2] w fun e w' => e = .returned (.bool (decide (ks1 = ks2))) ∧ Below w.heap.size w w' := by
  by_cases hz1 : ks1 = []
  · obtain ⟨a1, c1, rfl⟩ := h1.len hz1
    obtain ⟨a2, c2, rfl⟩ := h2.form
    refine (Tryz.slices_Equal_string_empty a1 a2 c1 ks2.length c2 w (by omega)).mono ?_
    rintro e w' ⟨rfl, rfl⟩
    refine ⟨ret_bool ?_, Below.refl _ _⟩
    subst hz1
    rw [decide_eq_decide]
    constructor
    · intro h; exact (List.eq_nil_of_length_eq_zero h).symm
    · intro h; rw [← h]; rfl
  · by_cases hz2 : ks2 = []
    · obtain ⟨a2, c2, rfl⟩ := h2.len hz2
      obtain ⟨a1, c1, rfl⟩ := h1.form
      refine (Tryz.slices_Equal_string_lens a1 a2 ks1.length c1 0 c2 w (fun h => hz1 (List.eq_nil_of_length_eq_zero h))).mono ?_
      rintro e w' ⟨rfl, rfl⟩
      refine ⟨ret_bool ?_, Below.refl _ _⟩
      subst hz2
      exact (decide_eq_false hz1).symm
    · rcases h1 with ⟨_, _, _, h⟩ | ⟨b1, o1, c1, _, rfl, _, _, e1⟩
      · exact absurd h hz1
      rcases h2 with ⟨_, _, _, h⟩ | ⟨b2, o2, c2, _, rfl, _, _, e2⟩
      · exact absurd h hz2
      refine (Tryz.slices_Equal_string b1 o1 ks1.length c1 b2 o2 ks2.length c2 (ks1.map str) (ks2.map str) w (by simp) (by simp) (by omega) (by omega) (fun j hj => ?_) (fun j hj => ?_)).mono ?_
      · rw [List.length_map] at hj
        rw [getD_str _ _ hj]
        exact e1 j _ (List.getElem?_eq_getElem hj)
      · rw [List.length_map] at hj
        rw [getD_str _ _ hj]
        exact e2 j _ (List.getElem?_eq_getElem hj)
      · rintro e w' ⟨rfl, q, rfl⟩
        refine ⟨ret_bool ?_, below_drewN q (Below.refl _ _)⟩
        rw [decide_eq_decide, List.take_of_length_le (by simp), List.take_of_length_le (by simp)]
        exact ⟨map_str_inj, fun h => by rw [h]⟩
def SameC (t : Jsn.J) : Prop := ∀ (t2 : Jsn.J) (v1 v2 : Value) (w : World), RV (fun _ => True) w t v1 → RV (fun _ => True) w t2 v2 → Jsn.sizeJ t ≤ 1000000000 → Jsn.sizeJ t2 ≤ 1000000000 → Calls Tryz.prog 11 #[v1, v2] w fun e w' => e = .returned (.bool (Jsn.sameJ t t2)) ∧ Below w.heap.size w w'
theorem RV.below {w w' : World} {t : Jsn.J} {v : Value} (h : RV (fun _ => True) w t v) (hB : Below w.heap.size w w') : RV (fun _ => True) w' t v := RV.keep hB.size (fun k _ hl => ⟨trivial, hB.block k hl⟩) h
set_option maxHeartbeats 4000000 in
set_option maxRecDepth 100000 in
theorem EqualFunc_any (cs ds : List Jsn.J) (ih : ∀ c ∈ cs, SameC c) (cv dv : Value) (w : World) (hc : RKs (fun _ => True) w cs cv) (hd : RKs (fun _ => True) w ds dv) (hsz : Jsn.sizeL cs ≤ 1000000000) (hsz2 : Jsn.sizeL ds ≤ 1000000000) (hl : cs.length ≤ 1000000000) (hl2 : ds.length ≤ 1000000000) :
    Calls Tryz.prog 31 #[cv, dv, .func (.func 11) #[] #[]] w fun e w' => e = .returned (.bool (Jsn.sameL cs ds)) ∧ Below w.heap.size w w' := by
  obtain ⟨a1, c1, rfl⟩ := hc.form
  obtain ⟨a2, c2, rfl⟩ := hd.form
  by_cases hlen : cs.length = ds.length
  · generalize hX : Jsn.sameL cs ds = X
    have HX : Hid (Jsn.sameL (cs.drop 0) (ds.drop 0) = X) := hX
    clear hX
    have HL : Hid (cs.length = ds.length) := hlen
    have hbq : ((cs.length : Int) != (ds.length : Int)) = false := by rw [bne_eq_false_iff_eq]; omega
    clear hlen
    go_enter Tryz.func31, Tryz.ntmps31
    go_wp2
    go_loopw [17] (fun i wr => ∃ j : Nat, i = .int .i64 j ∧ j ≤ cs.length ∧ Below w.heap.size w wr ∧ Hid (Jsn.sameL (cs.drop j) (ds.drop j) = X)) (fun i _ => cs.length - (intOf i).toNat)
    case atStart => exact ⟨0, rfl, Nat.zero_le _, Below.refl _ _, HX⟩
    case round =>
      obtain ⟨j, rfl, hj, hB, HE⟩ := hrel
      clear HX hbq
      by_cases hlt : j < cs.length
      · have hlt2 : j < ds.length := by have := HL.out; omega
        have hat : cs[j]? = some cs[j] := List.getElem?_eq_getElem hlt
        have hat2 : ds[j]? = some ds[j] := List.getElem?_eq_getElem hlt2
        obtain ⟨g, o, rfl, hcl, _, hgl, y0, y1, y2, y3, e0, e1, e2, e3, hrv⟩ := hc.at hat
        obtain ⟨g2, o2, rfl, hcl2, _, hgl2, z0, z1, z2, z3, u0, u1, u2, u3, hrv2⟩ := hd.at hat2
        have hkg := hB.block g hgl
        have f0 := (cell_keep hkg (o := o + j * 4)).trans e0
        have f1 := (cell_keep hkg (o := o + j * 4 + 1)).trans e1
        have f2 := (cell_keep hkg (o := o + j * 4 + 2)).trans e2
        have f3 := (cell_keep hkg (o := o + j * 4 + 3)).trans e3
        obtain ⟨aa, na, ca, ab, nb, cb, hsh⟩ := hrv.shape
        cases hsh
        obtain ⟨ba, ma, da, bb, mb, db, hsh⟩ := hrv2.shape
        cases hsh
        have hBw : Below wr.heap.size wr (wr.alloc (.cells #[.int .i64 cs[j].kind, .string (str cs[j].text), .slice aa na ca, .slice ab nb cb] 25)) := (Below.refl _ wr).alloc (Nat.le_refl _) _
        have hB1 := bel hB hBw
        have hkg2 := hB1.block g2 hgl2
        have v0 := (cell_keep hkg2 (o := o2 + j * 4)).trans u0
        have v1 := (cell_keep hkg2 (o := o2 + j * 4 + 1)).trans u1
        have v2 := (cell_keep hkg2 (o := o2 + j * 4 + 2)).trans u2
        have v3 := (cell_keep hkg2 (o := o2 + j * 4 + 3)).trans u3
        have hBv : Below (wr.alloc (.cells #[.int .i64 cs[j].kind, .string (str cs[j].text), .slice aa na ca, .slice ab nb cb] 25)).heap.size (wr.alloc (.cells #[.int .i64 cs[j].kind, .string (str cs[j].text), .slice aa na ca, .slice ab nb cb] 25)) ((wr.alloc (.cells #[.int .i64 cs[j].kind, .string (str cs[j].text), .slice aa na ca, .slice ab nb cb] 25)).alloc (.cells #[.int .i64 ds[j].kind, .string (str ds[j].text), .slice ba ma da, .slice bb mb db] 25)) := (Below.refl _ _).alloc (Nat.le_refl _) _
        have hB2 := bel hB1 hBv
        have hI := ih cs[j] (List.getElem_mem hlt) ds[j] _ _ _ (hrv.below hB2) (hrv2.below hB2) (Nat.le_trans (Jsn.sizeL_mem (List.getElem_mem hlt)) hsz) (Nat.le_trans (Jsn.sizeL_mem (List.getElem_mem hlt2)) hsz2)
        have hE := HE.out
        rw [List.drop_eq_getElem_cons hlt, List.drop_eq_getElem_cons hlt2, Jsn.sameL_cons] at hE
        clear hat hat2 HE
        have hjd : j ≤ ds.length := by omega
        generalize cs[j] = t at *
        generalize ds[j] = t2 at *
        cases hs : Jsn.sameJ t t2 with
        | false =>
          rw [hs] at hI hE
          have HY : Hid (X = false) := by show _ = _; rw [← hE]; rfl
          clear hE hs
          go_wp2_with (first
            | (go_at_call 11; refine hI.mono ?_; rintro e w1 ⟨rfl, hB3⟩))
          go_ret
          exact ⟨by rw [HY.out]; rfl, bel hB2 hB3⟩
        | true =>
          rw [hs] at hI hE
          have HY : Hid (Jsn.sameL (cs.drop (j + 1)) (ds.drop (j + 1)) = X) := by show _ = _; rw [← hE]; rfl
          clear hE hs
          go_wp2_with (first
            | (go_at_call 11; refine hI.mono ?_; rintro e w1 ⟨rfl, hB3⟩))
          go_roundw
          case rel => exact ⟨j + 1, by go_num, by omega, bel hB2 hB3, HY⟩
          case measure => simp [intOf]; omega
      · have HY : Hid (X = true) := by
          have hL := HL.out
          show _ = _
          rw [← HE.out, List.drop_of_length_le (by omega), List.drop_of_length_le (by omega)]
          unfold Jsn.sameL
          rfl
        clear HE
        go_wp2
        go_ret
        exact ⟨by rw [HY.out]; rfl, hB⟩
  · rw [Jsn.sameL_len _ _ hlen]
    have hbq : ((cs.length : Int) == (ds.length : Int)) = false := by simp; omega
    clear hlen
    go_enter Tryz.func31, Tryz.ntmps31
    go_wp2
    go_ret
    exact ⟨rfl, Below.refl _ _⟩
set_option maxHeartbeats 4000000 in
set_option maxRecDepth 100000 in
theorem Same_all : ∀ t, SameC t := by
  intro tr
  induction tr using Jsn.J.ind with
  | h k t ks cs ih =>
    intro tr2 v1 v2 w hv1 hv2 hsz hsz2
    obtain ⟨k2, t2, ks2, cs2⟩ := tr2
    obtain ⟨kv, cv, rfl, hks, hcs⟩ := RV_mk.1 hv1
    obtain ⟨kv2, cv2, rfl, hks2, hcs2⟩ := RV_mk.1 hv2
    obtain ⟨a1, c1, rfl⟩ := hks.form
    obtain ⟨a2, c2, rfl⟩ := hcs.form
    obtain ⟨a3, c3, rfl⟩ := hks2.form
    obtain ⟨a4, c4, rfl⟩ := hcs2.form
    rw [Jsn.sizeJ_mk] at hsz hsz2
    have hB0 : Below w.heap.size w (w.alloc (.cells #[.int .i64 k, .string (str t), .slice a1 ks.length c1, .slice a2 cs.length c2] 25)) := (Below.refl _ w).alloc (Nat.le_refl _) _
    have hB1 : Below w.heap.size w ((w.alloc (.cells #[.int .i64 k, .string (str t), .slice a1 ks.length c1, .slice a2 cs.length c2] 25)).alloc (.cells #[.int .i64 k2, .string (str t2), .slice a3 ks2.length c3, .slice a4 cs2.length c4] 25)) := bel hB0 ((Below.refl _ _).alloc (Nat.le_refl _) _)
    have hbA := (((Below.refl _ _).alloc (o := .cells #[.int .i64 k2, .string (str t2), .slice a3 ks2.length c3, .slice a4 cs2.length c4] 25) (Nat.le_refl _)).block w.heap.size (by simp)).trans (val_new w (.cells #[.int .i64 k, .string (str t), .slice a1 ks.length c1, .slice a2 cs.length c2] 25))
    have hbC := val_new (w.alloc (.cells #[.int .i64 k, .string (str t), .slice a1 ks.length c1, .slice a2 cs.length c2] 25)) (.cells #[.int .i64 k2, .string (str t2), .slice a3 ks2.length c3, .slice a4 cs2.length c4] 25)
    rw [show (w.alloc (.cells #[.int .i64 k, .string (str t), .slice a1 ks.length c1, .slice a2 cs.length c2] 25)).heap.size = w.heap.size + 1 by simp] at hbC
    have hEq := fun W (hB : Below w.heap.size w W) => Equal_any (fun _ => True) ks ks2 _ _ W (hks.keep hB.size (fun k _ hl => ⟨trivial, hB.block k hl⟩)) (hks2.keep hB.size (fun k _ hl => ⟨trivial, hB.block k hl⟩)) (by omega) (by omega)
    have hEf := fun W (hB : Below w.heap.size w W) => EqualFunc_any cs cs2 ih _ _ W (hcs.keep hB.size (fun k _ hl => ⟨trivial, hB.block k hl⟩)) (hcs2.keep hB.size (fun k _ hl => ⟨trivial, hB.block k hl⟩)) (by omega) (by omega) (by omega) (by omega)
    unfold Jsn.sameJ
    by_cases hk : k = k2
    · rw [decide_eq_true hk]
      have qk : (k == k2) = true := by simpa using hk
      by_cases ht : t = t2
      · rw [decide_eq_true ht]
        have qt := str_beq_yes ht
        have hE1 := hEq _ hB1
        by_cases hkk : ks = ks2
        · rw [decide_eq_true hkk] at hE1 ⊢
          clear hk ht hkk
          go_enter Tryz.func11, Tryz.ntmps11
          go_wp2_with (first
            | (go_at_call 30; refine hE1.mono ?_; rintro e w1 ⟨rfl, hB2⟩; have hB3 := bel hB1 hB2; have hA1 := (hB2.block w.heap.size (by simp; omega)).trans hbA; have hC1 := (hB2.block (w.heap.size + 1) (by simp)).trans hbC; have p3 : w1.cell? ⟨w.heap.size, 3, none⟩ = some (.slice a2 cs.length c2) := by { rw [Lib.cell_of_heap hA1]; rfl }; have q3 : w1.cell? ⟨w.heap.size + 1, 3, none⟩ = some (.slice a4 cs2.length c4) := by { rw [Lib.cell_of_heap hC1]; rfl }; have hF1 := hEf _ hB3)
            | (go_at_call 31; refine hF1.mono ?_; rintro e w2 ⟨rfl, hB4⟩))
          go_ret
          exact ⟨by simp, bel hB3 hB4⟩
        · rw [decide_eq_false hkk] at hE1 ⊢
          clear hk ht hkk
          go_enter Tryz.func11, Tryz.ntmps11
          go_wp2_with (first
            | (go_at_call 30; refine hE1.mono ?_; rintro e w1 ⟨rfl, hB2⟩))
          go_ret
          exact ⟨by simp, bel hB1 hB2⟩
      · rw [decide_eq_false ht]
        have qt := str_beq_no ht
        clear hk ht
        go_enter Tryz.func11, Tryz.ntmps11
        go_wp2
        go_ret
        exact ⟨by simp, hB1⟩
    · rw [decide_eq_false hk]
      have qk : (k == k2) = false := by simpa using hk
      clear hk
      go_enter Tryz.func11, Tryz.ntmps11
      go_wp2
      go_ret
      exact ⟨by simp, hB1⟩
end Go.Proofs.YtfjgmejobldjoaaGreatDoor
