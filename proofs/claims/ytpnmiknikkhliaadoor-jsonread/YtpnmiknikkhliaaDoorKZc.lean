/- Texts laid as one. -/
import Derived.Test.YtpnmiknikkhliaaDoorKZb
import Derived.Test.YtpnmiknikkhliaaDoorKYd
/- The contract of Same. -/
set_option linter.unusedVariables false
set_option linter.unusedSimpArgs false
namespace Jsn
mutual
/-- Whether two are the same. -/
def sameJ : J → J → Bool
  | .mk k t ks cs, .mk k2 t2 ks2 cs2 => decide (k = k2) && (decide (t = t2) && (decide (ks = ks2) && sameL cs cs2))
def sameL : List J → List J → Bool
  | [], [] => true
  | a :: l, c :: cs => sameJ a c && sameL l cs
  | [], _ :: _ => false
  | _ :: _, [] => false
end
theorem sameL_refl : ∀ cs : List J, (∀ c ∈ cs, sameJ c c = true) → sameL cs cs = true
  | [], _ => by unfold sameL; rfl
  | a :: cs, h => by
    unfold sameL
    rw [h a (by simp), sameL_refl cs (fun c hc => h c (by simp [hc]))]
    rfl
theorem sameJ_refl (v : J) : sameJ v v = true := by
  induction v using J.ind with
  | h k t ks cs ih =>
    unfold sameJ
    simp [sameL_refl cs ih]
theorem sameL_len : ∀ (a c : List J), ¬ a.length = c.length → sameL a c = false
  | [], [], h => absurd rfl h
  | [], _ :: _, _ => by unfold sameL; rfl
  | _ :: _, [], _ => by unfold sameL; rfl
  | a :: l, c :: cs, h => by
    unfold sameL
    rw [sameL_len l cs (by simpa using h), Bool.and_false]
theorem sameL_cons (a c : J) (l cs : List J) : sameL (a :: l) (c :: cs) = (sameJ a c && sameL l cs) := by rw [sameL]
end Jsn
namespace Go.Proofs.YtpnmiknikkhliaaDoor
open Go.RowKit
theorem RTs.len {Q : Nat → Prop} {w : World} {ts : List (List UInt8)} {v : Value} (h : RTs Q w ts v) (hz : ts = []) : ∃ a c, v = .slice a 0 c := by
  obtain ⟨a, c, rfl⟩ := h.form
  subst hz
  exact ⟨a, c, rfl⟩
theorem getD_str (ts : List (List UInt8)) (j : Nat) (h : j < ts.length) : (ts.map str).getD j ByteArray.empty = str ts[j] := by
  rw [List.getD_eq_getElem?_getD, List.getElem?_map, List.getElem?_eq_getElem h]
  rfl
theorem map_str_inj {a c : List (List UInt8)} (h : a.map str = c.map str) : a = c := by
  have : (a.map str).map (fun b => b.data.toList) = (c.map str).map (fun b => b.data.toList) := by rw [h]
  simpa [List.map_map, Function.comp_def, str_data] using this
theorem Equal_any (Q : Nat → Prop) (ks1 ks2 : List (List UInt8)) (v1 v2 : Value) (w : World) (h1 : RTs Q w ks1 v1) (h2 : RTs Q w ks2 v2) (hl1 : ks1.length ≤ 1000000000) (hl2 : ks2.length ≤ 1000000000) :
    Calls Tryd.prog 24 #[v1, v2] w fun e w' => e = .returned (.bool (decide (ks1 = ks2))) ∧ Below w.heap.size w w' := by
  by_cases hz1 : ks1 = []
  · obtain ⟨a1, c1, rfl⟩ := h1.len hz1
    obtain ⟨a2, c2, rfl⟩ := h2.form
    refine (Tryd.slices_Equal_string_empty a1 a2 c1 ks2.length c2 w (by omega)).mono ?_
    rintro e w' ⟨rfl, rfl⟩
    refine ⟨ret_bool ?_, Below.refl _ _⟩
    subst hz1
    rw [decide_eq_decide]
    constructor
    · intro h; exact (List.eq_nil_of_length_eq_zero h).symm
    · intro h; rw [← h]; rfl
  · by_cases hz2 : ks2 = []
    · obtain ⟨a2, c2, rfl⟩ := h2.len hz2
      obtain ⟨a1, c1, rfl⟩ := h1.form
      refine (Tryd.slices_Equal_string_lens a1 a2 ks1.length c1 0 c2 w (fun h => hz1 (List.eq_nil_of_length_eq_zero h))).mono ?_
      rintro e w' ⟨rfl, rfl⟩
      refine ⟨ret_bool ?_, Below.refl _ _⟩
      subst hz2
      exact (decide_eq_false hz1).symm
    · rcases h1 with ⟨_, _, _, h⟩ | ⟨b1, o1, c1, _, rfl, _, _, e1⟩
      · exact absurd h hz1
      rcases h2 with ⟨_, _, _, h⟩ | ⟨b2, o2, c2, _, rfl, _, _, e2⟩
      · exact absurd h hz2
      refine (Tryd.slices_Equal_string b1 o1 ks1.length c1 b2 o2 ks2.length c2 (ks1.map str) (ks2.map str) w (by simp) (by simp) (by omega) (by omega) (fun j hj => ?_) (fun j hj => ?_)).mono ?_
      · rw [List.length_map] at hj
        rw [getD_str _ _ hj]
        exact e1 j _ (List.getElem?_eq_getElem hj)
      · rw [List.length_map] at hj
        rw [getD_str _ _ hj]
        exact e2 j _ (List.getElem?_eq_getElem hj)
      · rintro e w' ⟨rfl, q, rfl⟩
        refine ⟨ret_bool ?_, below_drewN q (Below.refl _ _)⟩
        rw [decide_eq_decide, List.take_of_length_le (by simp), List.take_of_length_le (by simp)]
        exact ⟨map_str_inj, fun h => by rw [h]⟩
def SameC (t : Jsn.J) : Prop := ∀ (t2 : Jsn.J) (v1 v2 : Value) (w : World), RV (fun _ => True) w t v1 → RV (fun _ => True) w t2 v2 → Jsn.sizeJ t ≤ 1000000000 → Jsn.sizeJ t2 ≤ 1000000000 → Calls Tryd.prog 14 #[v1, v2] w fun e w' => e = .returned (.bool (Jsn.sameJ t t2)) ∧ Below w.heap.size w w'
theorem RV.below {w w' : World} {t : Jsn.J} {v : Value} (h : RV (fun _ => True) w t v) (hB : Below w.heap.size w w') : RV (fun _ => True) w' t v := RV.keep hB.size (fun k _ hl => ⟨trivial, hB.block k hl⟩) h
set_option maxHeartbeats 4000000 in
set_option maxRecDepth 100000 in
theorem EqualFunc_any (cs ds : List Jsn.J) (ih : ∀ c ∈ cs, SameC c) (cv dv : Value) (w : World) (hc : RKs (fun _ => True) w cs cv) (hd : RKs (fun _ => True) w ds dv) (hsz : Jsn.sizeL cs ≤ 1000000000) (hsz2 : Jsn.sizeL ds ≤ 1000000000) (hl : cs.length ≤ 1000000000) (hl2 : ds.length ≤ 1000000000) :
    Calls Tryd.prog 25 #[cv, dv, .func (.func 14) #[] #[]] w fun e w' => e = .returned (.bool (Jsn.sameL cs ds)) ∧ Below w.heap.size w w' := by
  obtain ⟨a1, c1, rfl⟩ := hc.form
  obtain ⟨a2, c2, rfl⟩ := hd.form
  by_cases hlen : cs.length = ds.length
  · generalize hX : Jsn.sameL cs ds = X
    have HX : Hid (Jsn.sameL (cs.drop 0) (ds.drop 0) = X) := hX
    clear hX
    have HL : Hid (cs.length = ds.length) := hlen
    have hbq : ((cs.length : Int) != (ds.length : Int)) = false := by rw [bne_eq_false_iff_eq]; omega
    clear hlen
    go_enter Tryd.func25, Tryd.ntmps25
    go_wp2
    go_loopw [17] (fun i wr => ∃ j : Nat, i = .int .i64 j ∧ j ≤ cs.length ∧ Below w.heap.size w wr ∧ Hid (Jsn.sameL (cs.drop j) (ds.drop j) = X)) (fun i _ => cs.length - (intOf i).toNat)
    case atStart => exact ⟨0, rfl, Nat.zero_le _, Below.refl _ _, HX⟩
    case round =>
      obtain ⟨j, rfl, hj, hB, HE⟩ := hrel
      clear HX hbq
      by_cases hlt : j < cs.length
      · have hlt2 : j < ds.length := by have := HL.out; omega
        have hat : cs[j]? = some cs[j] := List.getElem?_eq_getElem hlt
        have hat2 : ds[j]? = some ds[j] := List.getElem?_eq_getElem hlt2
        obtain ⟨g, o, rfl, hcl, _, hgl, y0, y1, y2, y3, e0, e1, e2, e3, hrv⟩ := hc.at hat
        obtain ⟨g2, o2, rfl, hcl2, _, hgl2, z0, z1, z2, z3, u0, u1, u2, u3, hrv2⟩ := hd.at hat2
        have hkg := hB.block g hgl
        have f0 := (cell_keep hkg (o := o + j * 4)).trans e0
        have f1 := (cell_keep hkg (o := o + j * 4 + 1)).trans e1
        have f2 := (cell_keep hkg (o := o + j * 4 + 2)).trans e2
        have f3 := (cell_keep hkg (o := o + j * 4 + 3)).trans e3
        obtain ⟨aa, na, ca, ab, nb, cb, hsh⟩ := hrv.shape
        cases hsh
        obtain ⟨ba, ma, da, bb, mb, db, hsh⟩ := hrv2.shape
        cases hsh
        have hBw : Below wr.heap.size wr (wr.alloc (.cells #[.int .i64 cs[j].kind, .string (str cs[j].text), .slice aa na ca, .slice ab nb cb] 25)) := (Below.refl _ wr).alloc (Nat.le_refl _) _
        have hB1 := bel hB hBw
        have hkg2 := hB1.block g2 hgl2
        have v0 := (cell_keep hkg2 (o := o2 + j * 4)).trans u0
        have v1 := (cell_keep hkg2 (o := o2 + j * 4 + 1)).trans u1
        have v2 := (cell_keep hkg2 (o := o2 + j * 4 + 2)).trans u2
        have v3 := (cell_keep hkg2 (o := o2 + j * 4 + 3)).trans u3
        have hBv : Below (wr.alloc (.cells #[.int .i64 cs[j].kind, .string (str cs[j].text), .slice aa na ca, .slice ab nb cb] 25)).heap.size (wr.alloc (.cells #[.int .i64 cs[j].kind, .string (str cs[j].text), .slice aa na ca, .slice ab nb cb] 25)) ((wr.alloc (.cells #[.int .i64 cs[j].kind, .string (str cs[j].text), .slice aa na ca, .slice ab nb cb] 25)).alloc (.cells #[.int .i64 ds[j].kind, .string (str ds[j].text), .slice ba ma da, .slice bb mb db] 25)) := (Below.refl _ _).alloc (Nat.le_refl _) _
        have hB2 := bel hB1 hBv
        have hI := ih cs[j] (List.getElem_mem hlt) ds[j] _ _ _ (hrv.below hB2) (hrv2.below hB2) (Nat.le_trans (Jsn.sizeL_mem (List.getElem_mem hlt)) hsz) (Nat.le_trans (Jsn.sizeL_mem (List.getElem_mem hlt2)) hsz2)
        have hE := HE.out
        rw [List.drop_eq_getElem_cons hlt, List.drop_eq_getElem_cons hlt2, Jsn.sameL_cons] at hE
        clear hat hat2 HE
        have hjd : j ≤ ds.length := by omega
        generalize cs[j] = t at *
        generalize ds[j] = t2 at *
        cases hs : Jsn.sameJ t t2 with
        | false =>
          rw [hs] at hI hE
          have HY : Hid (X = false) := by show _ = _; rw [← hE]; rfl
          clear hE hs
          go_wp2_with (first
            | (go_at_call 14; refine hI.mono ?_; rintro e w1 ⟨rfl, hB3⟩))
          go_ret
          exact ⟨by rw [HY.out]; rfl, bel hB2 hB3⟩
        | true =>
          rw [hs] at hI hE
          have HY : Hid (Jsn.sameL (cs.drop (j + 1)) (ds.drop (j + 1)) = X) := by show _ = _; rw [← hE]; rfl
          clear hE hs
          go_wp2_with (first
            | (go_at_call 14; refine hI.mono ?_; rintro e w1 ⟨rfl, hB3⟩))
          go_roundw
          case rel => exact ⟨j + 1, by go_num, by omega, bel hB2 hB3, HY⟩
          case measure => simp [intOf]; omega
      · have HY : Hid (X = true) := by
          have hL := HL.out
          show _ = _
          rw [← HE.out, List.drop_of_length_le (by omega), List.drop_of_length_le (by omega)]
          unfold Jsn.sameL
          rfl
        clear HE
        go_wp2
        go_ret
        exact ⟨by rw [HY.out]; rfl, hB⟩
  · rw [Jsn.sameL_len _ _ hlen]
    have hbq : ((cs.length : Int) == (ds.length : Int)) = false := by simp; omega
    clear hlen
    go_enter Tryd.func25, Tryd.ntmps25
    go_wp2
    go_ret
    exact ⟨rfl, Below.refl _ _⟩
set_option maxHeartbeats 4000000 in
set_option maxRecDepth 100000 in
theorem Same_all : ∀ t, SameC t := by
  intro tr
  induction tr using Jsn.J.ind with
  | h k t ks cs ih =>
    intro tr2 v1 v2 w hv1 hv2 hsz hsz2
    obtain ⟨k2, t2, ks2, cs2⟩ := tr2
    obtain ⟨kv, cv, rfl, hks, hcs⟩ := RV_mk.1 hv1
    obtain ⟨kv2, cv2, rfl, hks2, hcs2⟩ := RV_mk.1 hv2
    obtain ⟨a1, c1, rfl⟩ := hks.form
    obtain ⟨a2, c2, rfl⟩ := hcs.form
    obtain ⟨a3, c3, rfl⟩ := hks2.form
    obtain ⟨a4, c4, rfl⟩ := hcs2.form
    rw [Jsn.sizeJ_mk] at hsz hsz2
    have hB0 : Below w.heap.size w (w.alloc (.cells #[.int .i64 k, .string (str t), .slice a1 ks.length c1, .slice a2 cs.length c2] 25)) := (Below.refl _ w).alloc (Nat.le_refl _) _
    have hB1 : Below w.heap.size w ((w.alloc (.cells #[.int .i64 k, .string (str t), .slice a1 ks.length c1, .slice a2 cs.length c2] 25)).alloc (.cells #[.int .i64 k2, .string (str t2), .slice a3 ks2.length c3, .slice a4 cs2.length c4] 25)) := bel hB0 ((Below.refl _ _).alloc (Nat.le_refl _) _)
    have hbA := (((Below.refl _ _).alloc (o := .cells #[.int .i64 k2, .string (str t2), .slice a3 ks2.length c3, .slice a4 cs2.length c4] 25) (Nat.le_refl _)).block w.heap.size (by simp)).trans (val_new w (.cells #[.int .i64 k, .string (str t), .slice a1 ks.length c1, .slice a2 cs.length c2] 25))
    have hbC := val_new (w.alloc (.cells #[.int .i64 k, .string (str t), .slice a1 ks.length c1, .slice a2 cs.length c2] 25)) (.cells #[.int .i64 k2, .string (str t2), .slice a3 ks2.length c3, .slice a4 cs2.length c4] 25)
    rw [show (w.alloc (.cells #[.int .i64 k, .string (str t), .slice a1 ks.length c1, .slice a2 cs.length c2] 25)).heap.size = w.heap.size + 1 by simp] at hbC
    have hEq := fun W (hB : Below w.heap.size w W) => Equal_any (fun _ => True) ks ks2 _ _ W (hks.keep hB.size (fun k _ hl => ⟨trivial, hB.block k hl⟩)) (hks2.keep hB.size (fun k _ hl => ⟨trivial, hB.block k hl⟩)) (by omega) (by omega)
    have hEf := fun W (hB : Below w.heap.size w W) => EqualFunc_any cs cs2 ih _ _ W (hcs.keep hB.size (fun k _ hl => ⟨trivial, hB.block k hl⟩)) (hcs2.keep hB.size (fun k _ hl => ⟨trivial, hB.block k hl⟩)) (by omega) (by omega) (by omega) (by omega)
    unfold Jsn.sameJ
    by_cases hk : k = k2
    · rw [decide_eq_true hk]
      have qk : (k == k2) = true := by simpa using hk
      by_cases ht : t = t2
      · rw [decide_eq_true ht]
        have qt := str_beq_yes ht
        have hE1 := hEq _ hB1
        by_cases hkk : ks = ks2
        · rw [decide_eq_true hkk] at hE1 ⊢
          clear hk ht hkk
          go_enter Tryd.func14, Tryd.ntmps14
          go_wp2_with (first
            | (go_at_call 24; refine hE1.mono ?_; rintro e w1 ⟨rfl, hB2⟩; have hB3 := bel hB1 hB2; have hA1 := (hB2.block w.heap.size (by simp; omega)).trans hbA; have hC1 := (hB2.block (w.heap.size + 1) (by simp)).trans hbC; have p3 : w1.cell? ⟨w.heap.size, 3, none⟩ = some (.slice a2 cs.length c2) := by { rw [Lib.cell_of_heap hA1]; rfl }; have q3 : w1.cell? ⟨w.heap.size + 1, 3, none⟩ = some (.slice a4 cs2.length c4) := by { rw [Lib.cell_of_heap hC1]; rfl }; have hF1 := hEf _ hB3)
            | (go_at_call 25; refine hF1.mono ?_; rintro e w2 ⟨rfl, hB4⟩))
          go_ret
          exact ⟨by simp, bel hB3 hB4⟩
        · rw [decide_eq_false hkk] at hE1 ⊢
          clear hk ht hkk
          go_enter Tryd.func14, Tryd.ntmps14
          go_wp2_with (first
            | (go_at_call 24; refine hE1.mono ?_; rintro e w1 ⟨rfl, hB2⟩))
          go_ret
          exact ⟨by simp, bel hB1 hB2⟩
      · rw [decide_eq_false ht]
        have qt := str_beq_no ht
        clear hk ht
        go_enter Tryd.func14, Tryd.ntmps14
        go_wp2
        go_ret
        exact ⟨by simp, hB1⟩
    · rw [decide_eq_false hk]
      have qk : (k == k2) = false := by simpa using hk
      clear hk
      go_enter Tryd.func14, Tryd.ntmps14
      go_wp2
      go_ret
      exact ⟨by simp, hB1⟩
end Go.Proofs.YtpnmiknikkhliaaDoor
/- The contract of the law's alive. -/
set_option linter.unusedVariables false
set_option linter.unusedSimpArgs false
namespace Jsn
def exS : List UInt8 := [123, 34, 97, 34, 58, 91, 49, 44, 34, 92, 117, 48, 48, 101, 57, 34, 93, 125]
def exT : List UInt8 := [123, 34, 97, 34, 58, 91, 49, 44, 34, 195, 169, 34, 93, 125]
theorem ex_fault : faultJ exS = (0, 0) := by decide +kernel
theorem ex_may : mayJ (parseJ exS) = true := by decide +kernel
theorem ex_text : textJ (parseJ exS) = exT := by decide +kernel
theorem ex_size : sizeJ (parseJ exS) ≤ 1000000000 := by decide +kernel
end Jsn
namespace Go.Proofs.YtpnmiknikkhliaaDoor
open Go.RowKit
/-- A value's block, and its fault's behind it. -/
structure VF (W : World) (b : Nat) (x0 x1 x2 x3 : Value) (y a : Int) : Prop where
  v : W.heap[b]? = some (.cells #[x0, x1, x2, x3] 25 (0, 0))
  f : W.heap[b + 1]? = some (.cells #[.int .i64 y, .int .i64 a] 37 (0, 0))
theorem VF.keep {W W' : World} {b : Nat} {x0 x1 x2 x3 : Value} {y a : Int} (h : VF W b x0 x1 x2 x3 y a) (hB : Below W.heap.size W W') : VF W' b x0 x1 x2 x3 y a :=
  ⟨(hB.block _ (Array.getElem?_eq_some_iff.1 h.v).1).trans h.v, (hB.block _ (Array.getElem?_eq_some_iff.1 h.f).1).trans h.f⟩
theorem VF.cells {W : World} {b : Nat} {x0 x1 x2 x3 : Value} {y a : Int} (h : VF W b x0 x1 x2 x3 y a) : W.cell? ⟨b, 0, none⟩ = some x0 ∧ W.cell? ⟨b, 1, none⟩ = some x1 ∧ W.cell? ⟨b, 2, none⟩ = some x2 ∧ W.cell? ⟨b, 3, none⟩ = some x3 ∧ W.cell? ⟨b + 1, 0, none⟩ = some (.int .i64 y) ∧ W.cell? ⟨b + 1, 1, none⟩ = some (.int .i64 a) := by
  refine ⟨?_, ?_, ?_, ?_, ?_, ?_⟩
  · rw [Lib.cell_of_heap h.v]; rfl
  · rw [Lib.cell_of_heap h.v]; rfl
  · rw [Lib.cell_of_heap h.v]; rfl
  · rw [Lib.cell_of_heap h.v]; rfl
  · rw [Lib.cell_of_heap h.f]; rfl
  · rw [Lib.cell_of_heap h.f]; rfl
theorem VF.new (w : World) (x0 x1 x2 x3 : Value) (y a : Int) : VF ((w.alloc (.cells #[x0, x1, x2, x3] 25)).alloc (.cells #[.int .i64 y, .int .i64 a] 37)) w.heap.size x0 x1 x2 x3 y a ∧ Below w.heap.size w ((w.alloc (.cells #[x0, x1, x2, x3] 25)).alloc (.cells #[.int .i64 y, .int .i64 a] 37)) := by
  have hb : Below (w.alloc (.cells #[x0, x1, x2, x3] 25)).heap.size (w.alloc (.cells #[x0, x1, x2, x3] 25)) ((w.alloc (.cells #[x0, x1, x2, x3] 25)).alloc (.cells #[.int .i64 y, .int .i64 a] 37)) := (Below.refl _ _).alloc (Nat.le_refl _) _
  have hs : (w.alloc (.cells #[x0, x1, x2, x3] 25)).heap.size = w.heap.size + 1 := by simp
  refine ⟨⟨(hb.block w.heap.size (by omega)).trans (val_new _ _), ?_⟩, bel ((Below.refl _ _).alloc (Nat.le_refl _) _) hb⟩
  have := val_new (w.alloc (.cells #[x0, x1, x2, x3] 25)) (.cells #[.int .i64 y, .int .i64 a] 37)
  rw [hs] at this
  exact this
theorem ex_textR : textR (Jsn.parseJ Jsn.exS) = (Jsn.exT, 0) := by
  unfold textR
  rw [if_pos Jsn.ex_may, Jsn.ex_text, if_pos (by decide)]
set_option maxHeartbeats 4000000 in
set_option maxRecDepth 100000 in
theorem alive7_any (w : World) :
    Calls Tryd.prog 7 #[] w fun e w' => e = .returned (.bool true) ∧ Below w.heap.size w w' := by
  have hP := Parse_any Jsn.exS w (by decide)
  rw [Jsn.ex_fault] at hP
  have hsz := Jsn.ex_size
  have hT := fun v w hv => Text_any (Jsn.parseJ Jsn.exS) v w hv hsz
  have hM := fun v w hv => May_any (Jsn.parseJ Jsn.exS) v w hv hsz
  rw [ex_textR] at hT
  rw [Jsn.ex_may] at hM
  clear hsz
  have hx : (str Jsn.exT).toList = [123, 34, 97, 34, 58, 91, 49, 44, 34, 195, 169, 34, 93, 125] := str_list Jsn.exT
  generalize Jsn.parseJ Jsn.exS = t at hP hT hM
  go_enter Tryd.func7, Tryd.ntmps7
  go_wp2_with (first
    | (go_at_call 13; refine hP.mono ?_; rintro e w1 ⟨hB1, v, rfl, hrv⟩; obtain ⟨aa, na, ca, ab, nb, cb, rfl⟩ := hrv.shape; have hr1 := RV.keep (Q' := fun _ => True) (Nat.le_refl _) (fun k _ _ => ⟨trivial, rfl⟩) hrv; clear hP; obtain ⟨hV, hN⟩ := VF.new w1 (.int .i64 t.kind) (.string (str t.text)) (.slice aa na ca) (.slice ab nb cb) 0 0; have hB2 := bel hB1 hN; have hr2 := RV.below hr1 hN)
    | (go_at_call 11; refine (hT _ _ hr2).mono ?_; rintro e w2 ⟨rfl, hB3⟩; clear hT; have hB4 := bel hB2 hB3; have hr3 := hr2.below hB3; have hV3 := hV.keep hB3; obtain ⟨k0, k1, k2, k3, k4, k5⟩ := hV3.cells)
    | (go_at_call 12; refine (hM _ _ hr3).mono ?_; rintro e w3 ⟨rfl, hB5⟩; clear hM))
  go_ret
  exact ⟨rfl, bel hB4 hB5⟩
end Go.Proofs.YtpnmiknikkhliaaDoor
