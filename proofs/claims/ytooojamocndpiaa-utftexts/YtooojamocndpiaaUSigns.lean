/- The contracts of utf.Signs, the reference's Signs, and the law's own 'same'. -/
import Derived.Test.YtooojamocndpiaaURText
import Derived.Laws.IdiomStrings
namespace Go.Proofs.Ytooojamocndpiaa
open Go.RowKit
def signsZ (l : List UInt8) : List Int := (Utf.signs l).map fun c : Nat => (c : Int)
theorem runes_from (l : List UInt8) : ∀ (n k : Nat) (acc : Array Value), l.length - k ≤ n → Utf.isText (l.drop k) = true → Conv.runesFrom (str l) n k acc = acc ++ (cellsR (signsZ (l.drop k))).toArray := by
  intro n
  induction n with
  | zero =>
    intro k acc h _
    rw [List.drop_of_length_le (by omega)]
    unfold signsZ
    rw [Utf.signs_nil]
    simp [Conv.runesFrom, cellsR]
  | succ n ih =>
    intro k acc h ht
    by_cases hk : k < l.length
    · have hne := drop_ne hk
      rw [Utf.isText_go _ hne, Bool.and_eq_true] at ht
      have hw := Utf.dec_whole _ hne ht.1
      have hp := Utf.part_pos (l.drop k)
      unfold Conv.runesFrom
      rw [str_size, if_pos hk, dec_at]
      simp only
      rw [hw, ih _ _ (by omega) (by rw [← List.drop_drop]; exact ht.2)]
      unfold signsZ
      rw [Utf.signs_go _ hne, ← List.drop_drop]
      simp [cellsR]
    · rw [List.drop_of_length_le (by omega)]
      unfold Conv.runesFrom signsZ
      rw [str_size, if_neg hk, Utf.signs_nil]
      simp [cellsR]
theorem signsZ_len (l : List UInt8) : (signsZ l).length ≤ l.length := by
  unfold signsZ
  rw [List.length_map]
  exact Utf.signs_len l
/-- A text made signs: the slice, and that it reads as they do. -/
theorem conv_signs (l : List UInt8) (w : World) (ht : Utf.isText l = true) (hz : l.length ≤ 1000000000) :
    ∃ v w', (convert 9 23 (.string (str l))).run Try.prog w = .ok v w' ∧ ReadsCells w' v (cellsR (signsZ l)) ∧ Below w.heap.size w w' := by
  have hr : Conv.runesFrom (str l) (str l).size 0 #[] = (cellsR (signsZ l)).toArray := by
    rw [str_size, runes_from l l.length 0 #[] (by omega) (by simpa using ht)]
    simp
  have hn : (Conv.runesFrom (str l) (str l).size 0 #[]).size = (signsZ l).length := by rw [hr, List.size_toArray, cellsR_length]
  have hl := signsZ_len l
  refine ⟨_, _, run_runes_of_string (P := Try.prog) w 9 23 21 (str l) Try.underlying9 Try.underlying23 Try.underlying21 (by rw [hn]; omega), ?_, ((Below.refl _ w).drew).alloc (Nat.le_refl _) _⟩
  refine .inr ⟨w.heap.size, 0, _, by rw [cellsR_length, hn], by rw [cellsR_length]; exact grownCap_ge _ _ _ _, fun j x hj => ?_⟩
  have hlt : j < (cellsR (signsZ l)).length := (List.getElem?_eq_some_iff.1 hj).1
  have hh := heap_new w.drew (.cells (Conv.runesFrom (str l) (str l).size 0 #[] ++ Array.replicate (grownCap w (Conv.runesFrom (str l) (str l).size 0 #[]).size 0 21 - (Conv.runesFrom (str l) (str l).size 0 #[]).size) (.int .i32 0)) 21)
  rw [Nat.zero_add]
  refine (Lib.cell_of_heap hh j).trans ?_
  rw [hr, Array.getElem?_append_left (by simpa using hlt)]
  simpa using hj
def whyText (l : List UInt8) : Int := if Utf.isText l then 0 else 9
theorem whyText_yes {l : List UInt8} (h : Utf.isText l = true) : whyText l = 0 := by unfold whyText; rw [h]; rfl
theorem whyText_no {l : List UInt8} (h : Utf.isText l = false) : whyText l = 9 := by unfold whyText; rw [h]; rfl
def signsOf (l : List UInt8) : List Int := if Utf.isText l then signsZ l else []
theorem signsOf_yes {l : List UInt8} (h : Utf.isText l = true) : signsOf l = signsZ l := by unfold signsOf; rw [h]; rfl
theorem signsOf_no {l : List UInt8} (h : Utf.isText l = false) : signsOf l = [] := by unfold signsOf; rw [h]; rfl
set_option maxHeartbeats 1000000 in
set_option maxRecDepth 100000 in
theorem Signs_any (l : List UInt8) (w : World) (hz : l.length ≤ 1000000000) :
    Calls Try.prog 11 #[.string (str l)] w fun e w' => ∃ v, e = .returned (.tuple #[v, .int .i64 (whyText l)]) ∧ ReadsCells w' v (cellsR (signsOf l)) ∧ Below w.heap.size w w' := by
  cases ht : Utf.isText l
  · rw [whyText_no ht, signsOf_no ht]
    go_enter Try.func11, Try.ntmps11
    go_wp2_with (go_at_call 13; refine (IsText_any _ _).mono ?_; rintro e w1 ⟨rfl, hb1⟩)
    go_ret2
    exact ⟨_, rfl, ReadsCells.nil _, hb1⟩
  · rw [whyText_yes ht, signsOf_yes ht]
    go_enter Try.func11, Try.ntmps11
    go_wp2_with (go_at_call 13; refine (IsText_any _ _).mono ?_; rintro e w1 ⟨rfl, hb1⟩; obtain ⟨v2, w2, hcv, hr2, hb2⟩ := conv_signs l w1 ht hz)
    go_ret2
    exact ⟨_, rfl, hr2, bel hb1 hb2⟩
theorem reads_slice {w : World} {v : Value} {cs : List Int} (h : ReadsCells w v (cellsR cs)) : ∃ a c, v = .slice a cs.length c := by
  rcases h with ⟨a, c, rfl, h0⟩ | ⟨b, o, c, rfl, _, _⟩
  · exact ⟨a, c, by rw [← cellsR_length, h0]; rfl⟩
  · exact ⟨_, c, by rw [cellsR_length]⟩
theorem reads_at {w : World} {a : Option Addr} {n c k : Nat} {cs : List Int} {x : Int} (h : ReadsCells w (.slice a n c) (cellsR cs)) (hx : cs[k]? = some x) :
    ∃ b o, a = some ⟨b, o, none⟩ ∧ cs.length ≤ c ∧ w.cell? ⟨b, o + k, none⟩ = some (.int .i32 x) := by
  have hlt : k < cs.length := (List.getElem?_eq_some_iff.1 hx).1
  rcases h with ⟨a', c', h1, h0⟩ | ⟨b, o, c', h1, h2, h3⟩
  · have := congrArg List.length h0
    rw [cellsR_length, List.length_nil] at this
    omega
  · cases h1
    rw [cellsR_length] at h2
    refine ⟨b, o, rfl, h2, h3 k _ ?_⟩
    unfold cellsR
    rw [List.getElem?_map, hx]
    rfl
set_option maxHeartbeats 1000000 in
set_option maxRecDepth 100000 in
theorem same_any (v u : Value) (ts us : List Int) (w : World) (hv : ReadsCells w v (cellsR ts)) (hu : ReadsCells w u (cellsR us)) (hl : ts.length ≤ 1000000000) (hm : us.length ≤ 1000000000) :
    Calls Try.prog 17 #[v, u] w fun e w' => e = .returned (.bool (decide (ts = us))) ∧ ∃ n, w' = w.drewN n := by
  obtain ⟨a1, c1, rfl⟩ := reads_slice hv
  obtain ⟨a2, c2, rfl⟩ := reads_slice hu
  by_cases hlen : ts.length = us.length
  · have hb : ((ts.length : Int) != (us.length : Int)) = false := by simp [hlen]
    go_enter Try.func17, Try.ntmps17
    have HL : Hid (ts.length = us.length) := hlen
    have HV : Hid (ReadsCells w (.slice a1 ts.length c1) (cellsR ts)) := hv
    have HU : Hid (ReadsCells w (.slice a2 us.length c2) (cellsR us)) := hu
    clear hlen hv hu
    go_wp2
    go_loopw [13] (fun i wr => ∃ k m : Nat, k ≤ ts.length ∧ i = .int .i64 k ∧ Hid (ts.take k = us.take k) ∧ wr = w.drewN m) (fun i _ => ts.length - (intOf i).toNat)
    case atStart => exact ⟨0, 0, Nat.zero_le _, rfl, rfl, rfl⟩
    case round =>
      obtain ⟨k, m, hk, rfl, HE, rfl⟩ := hrel
      by_cases hlt : k < ts.length
      · obtain ⟨t, ht⟩ : ∃ t, ts[k]? = some t := ⟨_, List.getElem?_eq_getElem hlt⟩
        obtain ⟨x, hx⟩ : ∃ x, us[k]? = some x := ⟨_, List.getElem?_eq_getElem (by have := HL.out; omega)⟩
        obtain ⟨b1, o1, rfl, hc1, hw1⟩ := reads_at HV.out ht
        obtain ⟨b2, o2, rfl, hc2, hw2⟩ := reads_at HU.out hx
        have HX : Hid (ts[k]? = some t ∧ us[k]? = some x) := ⟨ht, hx⟩
        clear ht hx
        have hlt2 : k < us.length := by have := HL.out; omega
        by_cases htx : t = x
        · subst htx
          have HN : Hid (ts.take (k + 1) = us.take (k + 1)) := by
            show _ = _
            have h1 := HX.out.1
            have h2 := HX.out.2
            rw [List.take_add_one, List.take_add_one, HE.out, h1, h2]
          have htt : (t != t) = false := by simp
          go_wp2
          go_quiet (fail)
          go_wp2
          go_roundw
          case rel => exact ⟨k + 1, m + nq, by omega, by go_num, HN, rfl⟩
          case measure => simp [intOf]; omega
        · have HN : Hid (decide (ts = us) = false) := by
            show _ = _
            rw [decide_eq_false_iff_not]
            rintro rfl
            have := HX.out.1.symm.trans HX.out.2
            exact htx (Option.some.inj this)
          have hne : (t != x) = true := by simp [htx]
          go_wp2
          go_quiet (fail)
          go_wp2
          go_ret
          exact ⟨ret_bool HN.out.symm, m + nq, by simp⟩
      · have HN : Hid (decide (ts = us) = true) := by
            show _ = _
            rw [decide_eq_true_eq]
            have h1 := HE.out
            have h2 := HL.out
            rwa [List.take_of_length_le (by omega), List.take_of_length_le (by omega)] at h1
        go_wp2
        go_ret
        exact ⟨ret_bool HN.out.symm, m, rfl⟩
  · have hb : ((ts.length : Int) != (us.length : Int)) = true := by simp; omega
    have HN : Hid (decide (ts = us) = false) := by
      show _ = _
      rw [decide_eq_false_iff_not]
      rintro rfl
      exact hlen rfl
    go_enter Try.func17, Try.ntmps17
    go_wp2
    go_ret
    exact ⟨ret_bool HN.out.symm, 0, rfl⟩
theorem infoRune : (Try.prog.info? 21).map (fun i => (i.zero, i.size, i.bytes)) = some (some (.int .i32 0), 1, 4) := by kernel_rfl
theorem rune_cells (cs : List Int) : ∀ u ∈ cellsR cs, u.oneCell' = true := by
  intro u hu
  obtain ⟨c, _, rfl⟩ := List.mem_map.1 hu
  rfl
theorem row_drewN {W : World} {B e n : Nat} {v : Value} {xs : List Value} (k : Nat) (h : W.ownsRow B e 1 v n xs) : (W.drewN k).ownsRow B e 1 v n xs := by
  refine ⟨h.1, ?_⟩
  rcases h.2 with h2 | ⟨g, cap, cur, h1, h2, h3, h4⟩
  · exact .inl h2
  · exact .inr ⟨g, cap, cur, h1, h2, by simpa using h3, h4⟩
set_option maxHeartbeats 2000000 in
set_option maxRecDepth 100000 in
theorem RSigns_any (l : List UInt8) (w : World) (hz : l.length ≤ 1000000000) :
    Calls Try.prog 12 #[.string (str l)] w fun e w' => ∃ v, e = .returned (.tuple #[v, .int .i64 (whyText l)]) ∧ ReadsCells w' v (cellsR (signsOf l)) ∧ Below w.heap.size w w' := by
  obtain ⟨i0, hi, hz0, hz1, hz2⟩ := info_parts infoRune
  cases ht : Utf.isText l
  · rw [whyText_no ht, signsOf_no ht]
    go_enter Try.func12, Try.ntmps12
    go_wp2_with (go_at_call 14; refine (RIsText_any _ _ hz).mono ?_; rintro e w1 ⟨rfl, n1, rfl⟩)
    go_ret2
    exact ⟨_, rfl, ReadsCells.nil _, below_drewN n1 (Below.refl _ w)⟩
  rw [whyText_yes ht, signsOf_yes ht]
  go_enter Try.func12, Try.ntmps12
  go_wp2_with (go_at_call 14; refine (RIsText_any _ _ hz).mono ?_; rintro e w1 ⟨rfl, n1, rfl⟩)
  go_loopw [0, 4] (fun x v wr => ∃ (k : Nat) (acc : List Int), k ≤ l.length ∧ x = .string (str (l.drop k)) ∧ wr.ownsRow w.heap.size 21 1 v acc.length (cellsR acc) ∧ Hid (acc ++ signsZ (l.drop k) = signsZ l) ∧ acc.length ≤ k ∧ Below w.heap.size w wr) (fun x _ _ => lenOf x)
  case atStart => exact ⟨0, [], Nat.zero_le _, rfl, World.ownsRow_nil _ _ _ _, rfl, Nat.zero_le _, below_drewN n1 (Below.refl _ w)⟩
  case round =>
    obtain ⟨k, acc, hk, rfl, ho, HE, hal, hbw⟩ := hrel
    have hsz := str_size (l.drop k)
    have hld := List.length_drop (i := k) (l := l)
    by_cases hlt : k < l.length
    · have hne := drop_ne hlt
      have hp := Utf.part_pos (l.drop k)
      have hpl := Utf.part_len (l.drop k) hne
      have h0 : 0 < l.length - k := by omega
      have hext : (str (l.drop k)).extract (Utf.part (l.drop k)).1 (l.length - k) = str ((l.drop k).drop (Utf.part (l.drop k)).1) := by
        have := str_from (l.drop k) (Utf.part (l.drop k)).1
        rw [hld] at this
        exact this
      rw [hld] at hpl
      have HN : Hid ((acc ++ [((Utf.dec (l.drop k)).1 : Int)]) ++ signsZ (l.drop (k + (Utf.part (l.drop k)).1)) = signsZ l) := by
        show _ = _
        rw [← HE.out, List.append_assoc]
        congr 1
        unfold signsZ
        rw [Utf.signs_go (l.drop k) hne, List.drop_drop]
        rfl
      have hszw := hbw.size
      go_wp2_with (first
        | (go_at_call 23; refine (RNext_any _ (l.drop k) (str_data _) hne _ (by rw [str_size, List.length_drop]; omega)).mono ?_; rintro e w2 ⟨rfl, n2, rfl⟩)
        | (at_builtin; refine wpList_append_own _ rfl _ _ 23 rfl w.heap.size 21 i0 (.int .i32 0) 1 4 Try.underlying23 hi hz0 hz1 hz2 rfl (by decide) _ _ _ rfl ((row_drewN n2 ho).alloc _) ⟨wr.heap.size, 0, none⟩ 1 1 (cellsR [((Utf.dec (l.drop k)).1 : Int)]) rfl rfl ?c1 (rune_cells _) (by unfold maxLen; omega) (by omega) (by simp; omega) ?_))
      case c1 =>
        intro j u hj
        match j, hj with
        | 0, hj =>
          simp [cellsR] at hj; subst hj
          exact (Lib.cell_of_heap (heap_new (wr.drewN n2) _) 0).trans rfl
        | (j + 1), hj => simp [cellsR] at hj
      intro v3 w3 ho4 hg3 _
      have hb3 : Below w.heap.size w w3 := ((below_drewN n2 hbw).alloc (by simp; omega) _).grown hg3 (by simp; omega) (fun k hk => (World.ownsRow.lt ho k hk).1)
      go_wp2
      go_roundw
      case rel =>
        refine ⟨k + (Utf.part (l.drop k)).1, acc ++ [((Utf.dec (l.drop k)).1 : Int)], by omega, rfl, ?_, HN, by rw [List.length_append]; simp; omega, hb3⟩
        rw [List.length_append]
        unfold cellsR at *
        rw [List.map_append]
        exact ho4
      case measure => simp only [lenOf, str_size, List.length_drop]; omega
    · have h0 : ¬ 0 < l.length - k := by omega
      have HN : Hid (acc = signsZ l) := by
        show _ = _
        have := HE.out
        rw [List.drop_of_length_le (by omega)] at this
        unfold signsZ at this
        rw [Utf.signs_nil, List.map_nil, List.append_nil] at this
        exact this
      go_wp2
      go_ret2
      refine ⟨_, rfl, ?_, hbw⟩
      rw [← HN.out]
      apply owns_reads (B := w.heap.size) (e := 21)
      rw [cellsR_length]
      exact ho
end Go.Proofs.Ytooojamocndpiaa
