/- The contract of refs.Decode. -/
import Derived.Test.YtdllcnifkiebjaaDoorRfJ
set_option linter.unusedVariables false
set_option linter.unusedSimpArgs false
namespace Go.Proofs.YtdllcnifkiebjaaDoor
open Go.RowKit
theorem index_cases (l : List UInt8) (c : UInt8) : (Lib.indexByte l c = -1 ∧ c ∉ l) ∨ ∃ p t, l = p ++ c :: t ∧ c ∉ p ∧ Lib.indexByte l c = (p.length : Int) := by
  induction l with
  | nil => exact .inl ⟨rfl, by simp⟩
  | cons b l ih =>
    rw [Lib.indexByte]
    by_cases h : b = c
    · subst h
      exact .inr ⟨[], l, rfl, by simp, by simp⟩
    · have hn : (b == c) = false := beq_eq_false_iff_ne.2 h
      rw [hn]
      rcases ih with ⟨h1, h2⟩ | ⟨p, t, h1, h2, h3⟩
      · left
        rw [h1]
        exact ⟨rfl, by simp [h2]; exact fun e => h e.symm⟩
      · right
        have hq : ((p.length : Int) == -1) = false := by rw [beq_eq_false_iff_ne]; omega
        refine ⟨b :: p, t, by rw [h1]; rfl, by simp [h2]; exact fun e => h e.symm, ?_⟩
        rw [h3, hq]
        simp
theorem IndexByte_l (l : List UInt8) (n : Int) (h : Lib.indexByte l 38 = n) (w : World) :
    Calls Tryd.prog 35 #[.string (str l), .int .u8 38] w fun e w' => e = .returned (.int .i64 n) ∧ w' = w := by
  have h1 := Tryd.strings_IndexByte (str l) 38 w
  rw [str_data, show (38 : Int).toNat.toUInt8 = 38 from rfl, h] at h1
  exact h1
/-- One sign put behind nothing. -/
theorem Put_one (c : Int) (w : World) (hc : inR c) :
    Calls Tryd.prog 39 #[.slice none 0 0, .slice (some ⟨w.heap.size, 0, none⟩) 1 1] (w.alloc (.cells #[.int .i32 c] 21)) fun e w' => ∃ v', e = .returned v' ∧ OwnsBytes w' w.heap.size v' (Lib.encodeRune c) ∧ Below w.heap.size w w' := by
  refine (Put_any _ _ [] [c] _ (by decide) (by simp) (ReadsCells.nil _) (.inr ⟨w.heap.size, 0, 1, rfl, Nat.le_refl _, ?_⟩) ?_).mono ?_
  · intro j x hj
    match j, hj with
    | 0, hj =>
      cases hj
      rw [Nat.zero_add, Lib.cell_of_heap (heap_new w _)]
      rfl
    | (j + 1), hj => simp [cellsR] at hj
  · intro x hx
    rw [List.mem_singleton.1 hx]
    exact hc
  · rintro e w' ⟨v', rfl, ho, hb⟩
    have e1 : [] ++ puts [c] = Lib.encodeRune c := by simp [puts]
    rw [e1] at ho
    refine ⟨v', rfl, ?_, (((Below.refl _ w).alloc (Nat.le_refl _) _).trans (hb.mono (by simp)))⟩
    refine ⟨ho.1, ?_⟩
    rcases ho.2 with h | ⟨g, cap, cur, h1, h2, h3⟩
    · exact .inl h
    · refine .inr ⟨g, cap, cur, h1, Nat.le_trans ?_ h2, h3⟩
      simp
def textLen : Value → Nat
  | .string s => s.size
  | _ => 0
/-- What a round of Decode begins with. -/
def DecAt (a : Bool) (l : List UInt8) (w : World) (x : Value) (wr : World) : Prop :=
  ∃ r acc : List UInt8, x = .string (str r) ∧ acc.length + 4 * r.length ≤ 4 * l.length ∧ Lib.IsBuilderF 56 5 w.heap.size w.heap.size (Lib.byteCells acc) wr ∧ Below w.heap.size w wr ∧ Hid (acc ++ Rf.dec a r = Rf.dec a l)
theorem str_front (p r : List UInt8) : (str (p ++ r)).extract 0 p.length = str p := by rw [str_to, List.take_left]
theorem str_back (p r : List UInt8) : (str (p ++ r)).extract p.length (p ++ r).length = str r := by rw [str_from, List.drop_left]
set_option maxHeartbeats 2000000 in
set_option maxRecDepth 100000 in
theorem Decode_any (l : List UInt8) (a : Bool) (w : World) (hz : l.length ≤ 100000000) (hW : Win w) :
    Calls Tryd.prog 17 #[.string (str l), .bool a] w fun e w' => e = .returned (.string (str (Rf.dec a l))) ∧ Below w.heap.size w w' := by
  go_enter Tryd.func17, Tryd.ntmps17
  go_wp2
  go_loopw [0] (fun x wr => DecAt a l w x wr) (fun x _ => textLen x)
  case atStart => exact ⟨l, [], rfl, by simp, Lib.IsBuilderF.of (Lib.fresh_isBuilder 56 5 w), (Below.refl _ w).alloc (Nat.le_refl _) _, rfl⟩
  case round =>
    obtain ⟨r, acc, rfl, hacc, hI, hbw, HE⟩ := hrel
    have hwz := hbw.size
    have hsr := str_size r
    rcases index_cases r 38 with ⟨hx, hno⟩ | ⟨p, t, hr, hp, hx⟩
    · have hX := IndexByte_l r (-1) hx
      have HF : Hid (acc ++ r = Rf.dec a l) := by
        show _ = _
        rw [← HE.out, Rf.dec_plain a r hno]
      clear hx hno HE
      go_wp2_with fail
      go_at_call 35
      refine (hX _).mono ?_
      rintro e w1 ⟨rfl, hw⟩
      rw [hw]
      clear hw
      go_wp2_with fail
      go_at_call 36
      refine (WriteString_k w.heap.size w.heap.size _ _ _ hI (by rw [Lib.byteCells_length, str_size]; omega) hwz).mono ?_
      rintro e W1 ⟨rfl, h1, b1, k1⟩
      have hs1 := b1.size
      have h1' : Lib.IsBuilderF 56 5 w.heap.size w.heap.size (Lib.byteCells (acc ++ r)) W1 := by
        rw [Lib.byteCells_append]
        refine Or.inr ?_
        have e1 : Lib.strCells (str r) = Lib.byteCells r := by rw [← str_data r]; rfl
        rw [← e1]
        exact h1
      go_wp2_with fail
      go_at_call 37
      refine (Tryd.Builder_String_any_k w.heap.size w.heap.size (acc ++ r) _ h1' (by omega)).mono ?_
      rintro e W2 ⟨rfl, _, b2, _⟩
      go_wp2
      go_ret
      exact ⟨by rw [← HF.out]; rfl, (hbw.trans b1).trans b2⟩
    · have hX := IndexByte_l r p.length hx
      have he1 : (str r).extract 0 p.length = str p := by rw [hr]; exact str_front p _
      have he2 : (str r).extract p.length r.length = str (38 :: t) := by
        have := str_back p (38 :: t)
        rw [← hr] at this
        exact this
      have hlen : p.length + (t.length + 1) = r.length := by rw [hr, List.length_append, List.length_cons]
      have hse : (str (38 :: t)).size = t.length + 1 := str_size _
      have hnl := Rf.nx_len a (38 :: t)
      have hnb := Rf.nx_bd a (38 :: t)
      have HS : Hid (acc ++ p ++ Rf.dec a (38 :: t) = Rf.dec a l) := by
        show _ = _
        rw [← HE.out, hr, Rf.dec_part a p _ hp, List.append_assoc]
      have HY : Hid ((Rf.nx a (38 :: t)).2.2 = true → Rf.dec a (38 :: t) = Go.Lib.encodeRune (Rf.nx a (38 :: t)).1 ++ Rf.dec a ((38 :: t).drop (Rf.nx a (38 :: t)).2.1)) := Rf.dec_nx a (38 :: t)
      have HN : Hid ((Rf.nx a (38 :: t)).2.2 = false → Rf.dec a (38 :: t) = 38 :: Rf.dec a t) := Rf.dec_nx_no a 38 t
      clear hx hp HE hr
      have hNx := Next_any (38 :: t) a
      generalize Rf.nx a (38 :: t) = q at *
      obtain ⟨x, n, b⟩ := q
      simp only at hnl hnb HY HN
      rw [List.length_cons] at hnl
      obtain ⟨hnl1, hnl2⟩ := hnl
      obtain ⟨hnb0, hnb1⟩ := hnb
      have hst1 : (str (38 :: t)).extract 1 (t.length + 1) = str t := str_from (38 :: t) 1
      have hstn : (str (38 :: t)).extract n (t.length + 1) = str ((38 :: t).drop n) := str_from (38 :: t) n
      go_wp2_with fail
      go_at_call 35
      refine (hX _).mono ?_
      rintro e w1 ⟨rfl, hw⟩
      rw [hw]
      clear hw
      go_wp2_with fail
      go_at_call 36
      refine (WriteString_k w.heap.size w.heap.size _ _ _ hI (by rw [Lib.byteCells_length, str_size]; omega) hwz).mono ?_
      rintro e W1 ⟨rfl, h1, b1, k1⟩
      have hs1 := b1.size
      have hB1 := hbw.trans b1
      have h1' : Lib.BuilderAtF 56 5 w.heap.size w.heap.size (.pointer (some ⟨w.heap.size, 0, none⟩)) (Lib.byteCells (acc ++ p)) W1 := by
        rw [Lib.byteCells_append]
        have e1 : Lib.strCells (str p) = Lib.byteCells p := by rw [← str_data p]; rfl
        rw [← e1]
        exact h1
      have hW1 := hW.below hB1
      clear h1
      go_wp2_with fail
      go_at_call 15
      refine (hNx _ (by rw [List.length_cons]; omega) hW1).mono ?_
      rintro e W2 ⟨rfl, b2⟩
      have hs2 := b2.size
      have hB2 := hB1.trans (b2.mono (by omega))
      have h2 := builder_below h1' b2
      clear h1' hW1
      unfold nxV
      simp only
      cases b
      · have HN' := HN.out rfl
        have HF : Hid (acc ++ p ++ Lib.encodeRune 38 ++ Rf.dec a t = Rf.dec a l) := by
          show _ = _
          rw [← HS.out, HN', show Lib.encodeRune 38 = [38] from by decide +kernel]
          simp
        clear HY HN HS HN'
        go_wp2_with fail
        go_at_call 39
        refine (Put_one 38 W2 (by unfold inR; omega)).mono ?_
        rintro e W3 ⟨v3, rfl, ho3, b3⟩
        have hs3 := b3.size
        have h3 := builder_below h2 b3
        have hen := Utf.enc_len 38
        go_wp2_with fail
        go_at_call 38
        refine (Write_used w.heap.size w.heap.size _ v3 (Lib.encodeRune 38) W3 h3 ho3.reads hen.2 (by omega) (by rw [Lib.byteCells_length, List.length_append]; omega) (by omega)).mono ?_
        rintro e W4 ⟨⟨u4, rfl⟩, h4, b4⟩
        go_wp2
        go_roundw
        case rel =>
          refine ⟨t, acc ++ p ++ Lib.encodeRune 38, by first | rfl | (rw [hst1]), ?_, ?_, ((hB2.trans (b3.mono (by omega))).trans b4), HF⟩
          · simp only [List.length_append]; omega
          · rw [Lib.byteCells_append]
            exact .inr h4
        case measure => simp only [textLen, str_size]; omega
      · have HY' := HY.out rfl
        have HF : Hid (acc ++ p ++ Lib.encodeRune x ++ Rf.dec a ((38 :: t).drop n) = Rf.dec a l) := by
          show _ = _
          rw [← HS.out, HY']
          simp only [List.append_assoc]
        have hn1 := hnl2 rfl
        clear HY HN HS HY'
        go_wp2_with fail
        go_at_call 39
        refine (Put_one x W2 (by unfold inR; omega)).mono ?_
        rintro e W3 ⟨v3, rfl, ho3, b3⟩
        have hs3 := b3.size
        have h3 := builder_below h2 b3
        have hen := Utf.enc_len x
        go_wp2_with fail
        go_at_call 38
        refine (Write_used w.heap.size w.heap.size _ v3 (Lib.encodeRune x) W3 h3 ho3.reads hen.2 (by omega) (by rw [Lib.byteCells_length, List.length_append]; omega) (by omega)).mono ?_
        rintro e W4 ⟨⟨u4, rfl⟩, h4, b4⟩
        go_wp2
        go_roundw
        case rel =>
          refine ⟨(38 :: t).drop n, acc ++ p ++ Lib.encodeRune x, by first | rfl | (rw [hstn]), ?_, ?_, ((hB2.trans (b3.mono (by omega))).trans b4), HF⟩
          · simp only [List.length_append, List.length_drop, List.length_cons]; omega
          · rw [Lib.byteCells_append]
            exact .inr h4
        case measure => simp only [textLen, str_size, List.length_drop, List.length_cons]; omega
end Go.Proofs.YtdllcnifkiebjaaDoor
