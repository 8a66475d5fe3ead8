/- Contracts of the reference's Decode and Encode. -/
import Derived.Test.YtdllcnifkiebjaaDoorRfRt
import Derived.Test.YtdllcnifkiebjaaDoorRfL
import Derived.Test.YtdllcnifkiebjaaDoorURPut
set_option linter.unusedVariables false
set_option linter.unusedSimpArgs false
namespace Go.Proofs.YtdllcnifkiebjaaDoor
open Go.RowKit
/-- One sign put by the reference behind what is there. -/
theorem RPut_behind (c : Int) (v : Value) (l : List UInt8) (B : Nat) (w : World) (hz : l.length ≤ 1000000000) (hv : OwnsBytes w B v l) :
    Calls Tryd.prog 23 #[v, .slice (some ⟨w.heap.size, 0, none⟩) 1 1] (w.alloc (.cells #[.int .i32 c] 21)) fun e w' => ∃ v', e = .returned v' ∧ OwnsBytes w' w.heap.size v' (l ++ Lib.encodeRune c) ∧ Below w.heap.size w w' := by
  have hv2 : ReadsCells (w.alloc (.cells #[.int .i32 c] 21)) v (cellsB l) := hv.reads.below ((Below.refl _ w).alloc (Nat.le_refl _) _)
  refine (RPut_any v _ l [c] _ hz (by simp) hv2 (.inr ⟨w.heap.size, 0, 1, rfl, Nat.le_refl _, ?_⟩)).mono ?_
  · intro j x hj
    match j, hj with
    | 0, hj =>
      cases hj
      rw [Nat.zero_add, Lib.cell_of_heap (heap_new w _)]
      rfl
    | (j + 1), hj => simp [cellsR] at hj
  · rintro e w' ⟨v', rfl, ho, hb⟩
    have e1 : l ++ puts [c] = l ++ Lib.encodeRune c := by simp [puts]
    rw [e1] at ho
    refine ⟨v', rfl, ⟨ho.1, ?_⟩, ((Below.refl _ w).alloc (Nat.le_refl _) _).trans (hb.mono (by simp))⟩
    rcases ho.2 with h | ⟨g, cap, cur, h1, h2, h3⟩
    · exact .inl h
    · refine .inr ⟨g, cap, cur, h1, Nat.le_trans ?_ h2, h3⟩
      simp
theorem owns_form {w : World} {B : Nat} {v : Value} {l : List UInt8} (h : OwnsBytes w B v l) : ∃ ad cp, v = .slice ad l.length cp := by
  rcases h.reads with ⟨a, c, rfl, h0⟩ | ⟨b, o, c, rfl, _, _⟩
  · exact ⟨a, c, by rw [← cellsB_length, h0]; rfl⟩
  · exact ⟨_, c, by rw [cellsB_length]⟩
def RDecAt (a : Bool) (l : List UInt8) (w : World) (x v : Value) (wr : World) : Prop :=
  ∃ r acc : List UInt8, x = .string (str r) ∧ acc.length + 4 * r.length ≤ 4 * l.length ∧ OwnsBytes wr w.heap.size v acc ∧ Below w.heap.size w wr ∧ Hid (acc ++ Rf.dec a r = Rf.dec a l)
theorem OwnsBytes.mono {w : World} {B B' : Nat} {v : Value} {l : List UInt8} (h : OwnsBytes w B v l) (hb : B' ≤ B) : OwnsBytes w B' v l := by
  refine ⟨h.1, ?_⟩
  rcases h.2 with h | ⟨g, cap, cur, h1, h2, h3⟩
  · exact .inl h
  · exact .inr ⟨g, cap, cur, h1, Nat.le_trans hb h2, h3⟩
set_option maxHeartbeats 2000000 in
set_option maxRecDepth 100000 in
theorem RDecode_any (l : List UInt8) (a : Bool) (w : World) (hz : l.length ≤ 100000000) :
    Calls Tryd.prog 18 #[.string (str l), .bool a] w fun e w' => e = .returned (.string (str (Rf.dec a l))) ∧ Below w.heap.size w w' := by
  obtain ⟨i0, hi, hz0, hz1, hz2⟩ := info_parts infoByte
  go_enter Tryd.func18, Tryd.ntmps18
  go_wp2
  go_loopw [0, 5] (fun x v wr => RDecAt a l w x v wr) (fun x _ _ => textLen x)
  case atStart => exact ⟨l, [], rfl, by simp, OwnsBytes.nil _ _, Below.refl _ _, rfl⟩
  case round =>
    obtain ⟨r, acc, rfl, hacc, hO, hbw, HE⟩ := hrel
    have hwz := hbw.size
    have hsr := str_size r
    cases r with
    | nil =>
      have HF : Hid (acc = Rf.dec a l) := by
        show _ = _
        rw [← HE.out, Rf.dec_nil, List.append_nil]
      have hcv := conv_owned hO
      obtain ⟨ad, cp, rfl⟩ := owns_form hO
      have h0 : ¬ (0 : Int) < 0 := by omega
      go_wp2
      go_ret
      exact ⟨by rw [← HF.out]; rfl, hbw⟩
    | cons c t =>
      have hlc : (c :: t).length = t.length + 1 := List.length_cons
      rw [hlc] at hsr hacc
      have hlI : (0 : Int) < (t.length : Int) + 1 := by omega
      have hhd : ∀ h, (str (c :: t))[0]'h = c := fun _ => rfl
      have hR := fun W => RNx_any (c :: t) a W (by rw [hlc]; omega)
      have hnl := Rf.nx_len a (c :: t)
      have HY : Hid ((Rf.nx a (c :: t)).2.2 = true → Rf.dec a (c :: t) = Go.Lib.encodeRune (Rf.nx a (c :: t)).1 ++ Rf.dec a ((c :: t).drop (Rf.nx a (c :: t)).2.1)) := Rf.dec_nx a (c :: t)
      have HN : Hid ((Rf.nx a (c :: t)).2.2 = false → Rf.dec a (c :: t) = c :: Rf.dec a t) := Rf.dec_nx_no a c t
      generalize Rf.nx a (c :: t) = q at *
      obtain ⟨x, n, b⟩ := q
      simp only at hnl HY HN
      rw [hlc] at hnl
      obtain ⟨hnl1, hnl2⟩ := hnl
      have hst1 : (str (c :: t)).extract 1 (t.length + 1) = str t := str_from (c :: t) 1
      have hstn : (str (c :: t)).extract n (t.length + 1) = str ((c :: t).drop n) := str_from (c :: t) n
      unfold nxV at hR
      simp only at hR
      go_wp2_with fail
      go_at_call 16
      refine (hR _).mono ?_
      rintro e W2 ⟨rfl, b2⟩
      have hs2 := b2.size
      have hB2 := hbw.trans (b2.mono hwz)
      have hO2 := hO.below b2
      cases b
      · have HF : Hid (acc ++ [c] ++ Rf.dec a t = Rf.dec a l) := by
          show _ = _
          rw [← HE.out, HN.out rfl]
          simp
        clear HY HN HE hR
        obtain ⟨ad, cp, rfl⟩ := owns_form hO2
        go_wp2_with (at_builtin; refine wpList_append_own _ rfl _ _ 34 rfl w.heap.size 5 i0 (.int .u8 0) 1 1 Tryd.underlying34 hi hz0 hz1 hz2 rfl (by decide) _ _ _ rfl (World.ownsRow.alloc hO2 _) ⟨W2.heap.size, 0, none⟩ 1 1 [.int .u8 c.toNat] rfl rfl (cell_one_new _ _ _) (fun x hx => by simp at hx; subst hx; rfl) (by unfold maxLen; omega) (by omega) (by simp; omega) ?_)
        intro v3 W3 ho3 hg3 _
        have hB3 : Below w.heap.size w W3 := (hB2.alloc (by omega) _).grown hg3 (by simp; omega) (fun k hk => (World.ownsRow.lt hO2 k hk).1)
        have ho3' : OwnsBytes W3 w.heap.size v3 (acc ++ [c]) := by
          unfold OwnsBytes
          have e1 : cellsB (acc ++ [c]) = cellsB acc ++ [.int .u8 c.toNat] := by simp [cellsB]
          rw [e1, List.length_append]
          exact ho3
        go_wp2
        go_roundw
        case rel => exact ⟨t, acc ++ [c], by first | rfl | (rw [hst1]), by simp only [List.length_append, List.length_singleton]; omega, ho3', hB3, HF⟩
        case measure => simp only [textLen, str_size]; omega
      · have HF : Hid (acc ++ Lib.encodeRune x ++ Rf.dec a ((c :: t).drop n) = Rf.dec a l) := by
          show _ = _
          rw [← HE.out, HY.out rfl]
          simp only [List.append_assoc]
        have hn1 := hnl2 rfl
        have hen := Utf.enc_len x
        clear HY HN HE hR
        go_wp2_with fail
        go_at_call 23
        refine (RPut_behind x _ acc w.heap.size W2 (by omega) hO2).mono ?_
        rintro e W3 ⟨v3, rfl, ho3, b3⟩
        have hB3 := hB2.trans (b3.mono (by omega))
        have ho3' := ho3.mono (show w.heap.size ≤ W2.heap.size from by omega)
        go_wp2
        go_roundw
        case rel => exact ⟨(c :: t).drop n, acc ++ Lib.encodeRune x, by first | rfl | (rw [hstn]), by simp only [List.length_append, List.length_drop, List.length_cons]; omega, ho3', hB3, HF⟩
        case measure => simp only [textLen, str_size, List.length_drop, List.length_cons]; omega
end Go.Proofs.YtdllcnifkiebjaaDoor
