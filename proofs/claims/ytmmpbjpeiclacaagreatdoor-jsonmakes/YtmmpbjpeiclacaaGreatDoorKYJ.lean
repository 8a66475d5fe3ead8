/- The contract of the parser's quoted. -/
import Derived.Test.YtmmpbjpeiclacaaGreatDoorKYghi
import Derived.Test.YtmmpbjpeiclacaaGreatDoorKYW
set_option linter.unusedVariables false
set_option linter.unusedSimpArgs false
namespace Go.Proofs.YtmmpbjpeiclacaaGreatDoor
open Go.RowKit
theorem builder_keep {T e : TypeId} {B b : Nat} {bs : List Value} {w w' : World} (h : Lib.IsBuilderF T e B b bs w) (hk : ∀ k, B ≤ k → k < w.heap.size → w'.heap[k]? = w.heap[k]?) : Lib.IsBuilderF T e B b bs w' := by
  have hx : ∀ {o : Nat} {x : _}, B ≤ o → w.heap[o]? = some x → w'.heap[o]? = some x := fun {o x} ho hx => (hk o ho (Array.getElem?_eq_some_iff.1 hx).1).trans hx
  have hy : ∀ p, Lib.BuilderAtF T e B b p bs w → Lib.BuilderAtF T e B b p bs w' := by
    rintro p ⟨hB, v, hb, hown, hne⟩
    refine ⟨hB, v, hx hB hb, ⟨hown.1, ?_⟩, hne⟩
    rcases hown.2 with h | ⟨g, cap, cur, fz, h1, h2, h3, h4⟩
    · exact .inl h
    · exact .inr ⟨g, cap, cur, fz, h1, h2, hx h2 h3, h4⟩
  exact h.imp (hy _) (hy _)
theorem Kept.behind {b : Nat} {w w' w'' : World} (h : Kept b w w') (hb : Below w.heap.size w' w'') : Kept b w w'' :=
  ⟨hb.os.trans h.os, hb.tape.trans h.tape, hb.output.trans h.output, Nat.le_trans h.size hb.size, fun k hk hne => (hb.block k hk).trans (h.block k hk hne)⟩
theorem Ps.behind {b n B : Nat} {s l : List UInt8} {w w' : World} (h : Ps b s l n w) (hB : b < B) (hb : Below B w w') : Ps b s l n w' :=
  ⟨(hb.block b hB).trans h.at_, h.suf, h.len, h.cnt⟩
/-- How much is left, off the parser's own cell. -/
def leftOf (b : Nat) (s : List UInt8) (w : World) : Nat := match w.cell? ⟨b, 1, none⟩ with
  | some (.int _ q) => s.length - q.toNat
  | _ => 0
theorem Ps.left {b n : Nat} {s l : List UInt8} {w : World} (h : Ps b s l n w) : leftOf b s w = l.length := by
  obtain ⟨p, hp, c1⟩ := h.c1
  unfold leftOf
  rw [c1]
  simp
  omega
theorem quoted_q {x : Jsn.R (List UInt8)} {acc t : List UInt8} : x.map (acc ++ t ++ ·) = (x.map (t ++ ·)).map (acc ++ ·) := by
  cases x with
  | ok a l => simp [Jsn.R.map]
  | err y k => rfl
theorem sign_bd {m : Nat} {l z : List UInt8} {x : Int} (h : Jsn.signR m l = .ok x z) : 0 ≤ x ∧ x ≤ 1114111 := by
  unfold Jsn.signR at h
  cases h1 : Jsn.four m 4 0 l with
  | err y k => rw [h1] at h; cases h
  | ok s l1 =>
    rw [h1] at h
    have hb := four_bd4 h1
    dsimp only [Jsn.R.bind] at h
    split at h
    · cases h; omega
    · split at h
      · cases h
      · cases h2 : Jsn.mustR m 92 l1 with
        | err y k => rw [h2] at h; cases h
        | ok _ l2 =>
          rw [h2] at h
          dsimp only at h
          cases h3 : Jsn.mustR m 117 l2 with
          | err y k => rw [h3] at h; cases h
          | ok _ l3 =>
            rw [h3] at h
            dsimp only at h
            cases h4 : Jsn.four m 4 0 l3 with
            | err y k => rw [h4] at h; cases h
            | ok g l4 =>
              rw [h4] at h
              have hb4 := four_bd4 h4
              dsimp only at h
              split at h
              · cases h
              · cases h; omega
theorem esc_bd {m : Nat} {l z : List UInt8} {x : Int} (h : Jsn.escR m l = .ok x z) : 0 ≤ x ∧ x ≤ 1114111 := by
  cases l with
  | nil => cases h
  | cons c r =>
    unfold Jsn.escR at h
    dsimp only at h
    split at h
    · rename_i v hv
      cases h
      rcases simple_yes c _ hv with ⟨_, rfl⟩ | ⟨_, rfl⟩ | ⟨_, rfl⟩ | ⟨_, rfl⟩ | ⟨_, rfl⟩ | ⟨_, rfl⟩ | ⟨_, rfl⟩ | ⟨_, rfl⟩ <;> decide
    · split at h
      · exact sign_bd h
      · cases h
set_option maxHeartbeats 4000000 in
theorem quoted_any {b n : Nat} {s r0 : List UInt8} {x : UInt8} {w : World} (h : Ps b s (x :: r0) n w) :
    Calls Tryz.prog 84 #[.pointer (some ⟨b, 0, none⟩)] w fun e w' => Kept b w w' ∧ Ans (Jsn.quotedR r0) (fun t z => e = .returned (.string (str t)) ∧ Ps b s z n w') (fun y k => e = boom s y k) := by
  obtain ⟨f, hf, c1⟩ := h.c1
  simp only [List.length_cons] at hf
  have f1 := h.free 1
  have hlen := h.len
  have hbl := h.lt
  generalize hX : Jsn.quotedR r0 = X
  have HX : Hid (X = (Jsn.quotedR r0).map (([] : List UInt8) ++ ·)) := by
    show _ = _
    rw [← hX]
    cases Jsn.quotedR r0 <;> rfl
  clear hX
  have hA := h.tail f hf
  have hsz : (w.setCell ⟨b, 1, none⟩ (.int .i64 ((f : Int) + 1))).heap.size = w.heap.size := by simp
  have hI := Lib.IsBuilderF.of (Lib.fresh_isBuilder 53 5 (w.setCell ⟨b, 1, none⟩ (.int .i64 ((f : Int) + 1))))
  have hT := hA.step ((Below.refl _ _).alloc (o := .cells #[.pointer none, .slice none 0 0] 53) (Nat.le_refl _))
  have hKT := (Kept.set b 1 w (.int .i64 ((f : Int) + 1))).trans (Kept.of (b := b) ((Below.refl _ _).alloc (o := .cells #[.pointer none, .slice none 0 0] 53) (Nat.le_refl _)))
  rw [hsz] at hI
  have HSZ := show Hid _ from hsz
  clear hsz
  go_enter Tryz.func84, Tryz.ntmps84
  go_wp2
  go_loopw [] (fun wr => ∃ (acc z : List UInt8), Lib.IsBuilderF 53 5 w.heap.size w.heap.size (Lib.byteCells acc) wr ∧ Ps b s z n wr ∧ Kept b w wr ∧ Hid (X = (Jsn.quotedR z).map (acc ++ ·)) ∧ acc.length + 4 * z.length ≤ 4 * s.length) (fun wr => leftOf b s wr)
  case atStart => exact ⟨[], r0, hI, hT, hKT, HX, by simp; omega⟩
  case round =>
    obtain ⟨acc, z, hI, hP, hK, HE, hac⟩ := hrel
    clear hA hT hKT HX HSZ
    have hws := hK.size
    cases z with
    | nil =>
      have HY : Hid (X = .err 4 0) := by show _ = _; rw [HE.out, Jsn.quotedR_nil]; rfl
      go_wp2_with (first
        | (go_at_call 100; refine (peek_end hP).mono ?_; rintro e w1 ⟨rfl, hK1⟩))
      exact ⟨rfl, hK.trans hK1, by rw [HY.out]; rfl⟩
    | cons c r =>
      have hE := HE.out
      rw [Jsn.quotedR_cons] at hE
      have hpk := peek_ok hP
      simp only [List.length_cons] at hac
      by_cases h34 : c = 34
      · rw [if_pos h34] at hE
        have HY : Hid (X = .ok acc r) := by show _ = _; rw [hE]; show Jsn.R.ok (acc ++ []) r = _; rw [List.append_nil]
        subst h34
        clear hE HE
        go_wp2_with (first
          | (go_at_call 100; refine hpk.mono ?_; rintro e w1 ⟨rfl, hP1, hK1⟩; obtain ⟨p, hp, d1⟩ := hP1.c1; simp only [List.length_cons] at hp; have e1 := hP1.free 1; have hT1 := hP1.tail p hp; have hI1 := builder_keep hI (fun k hk hlt => hK1.block k hlt (by omega)); have hI2 := builder_keep (w' := w1.setCell ⟨b, 1, none⟩ (.int .i64 ((p : Int) + 1))) hI1 (fun k hk _ => Below.heap_setCell _ _ _ _ (by show k ≠ b; omega)); have hs1 := hK1.size)
          | (go_at_call 27; refine (Tryz.Builder_String_any_k w.heap.size w.heap.size acc _ hI2 (by simp; omega)).mono ?_; rintro e w2 ⟨rfl, _, hb2, _⟩))
        go_ret
        exact ⟨((hK.trans hK1).trans (Kept.set _ _ _ _)).behind hb2, by rw [HY.out]; exact ⟨rfl, hT1.behind hbl hb2⟩⟩
      · rw [if_neg h34] at hE
        have q34 : ((c.toNat : Int) == 34) = false := ne_byte h34
        by_cases h92 : c = 92
        · rw [if_pos h92] at hE
          subst h92
          have hes := fun w (hP : Ps b s (92 :: r) n w) => escaped_any hP
          cases hz : Jsn.escR (r.length + 1) r with
          | err y k =>
            have HY : Hid (X = .err y k) := by show _ = _; rw [hE, hz]; rfl
            clear hE HE
            go_wp2_with (first
              | (go_at_call 100; refine hpk.mono ?_; rintro e w1 ⟨rfl, hP1, hK1⟩)
              | (go_at_call 103; refine (hes _ hP1).mono ?_; rintro e w2 ⟨hK2, hA2⟩; rw [hz] at hA2; replace hA2 : e = boom s y k := hA2; subst hA2))
            exact ⟨rfl, (hK.trans hK1).trans hK2, by rw [HY.out]; rfl⟩
          | ok v z =>
            have hbd := esc_bd hz
            have hzl := Jsn.esc_len hz
            have hel := Utf.enc_len v
            have HY : Hid (X = (Jsn.quotedR z).map ((acc ++ Lib.encodeRune v) ++ ·)) := by show _ = _; rw [hE, hz, quoted_q]; rfl
            clear hE HE
            go_wp2_with (first
              | (go_at_call 100; refine hpk.mono ?_; rintro e w1 ⟨rfl, hP1, hK1⟩; have hs1 := hK1.size)
              | (go_at_call 103; refine (hes _ hP1).mono ?_; rintro e w2 ⟨hK2, hA2⟩; rw [hz] at hA2; obtain ⟨rfl, hP2⟩ := hA2; have hI2 := builder_keep hI (fun k hk hlt => (hK1.trans hK2).block k hlt (by omega)); have hs2 := hK2.size)
              | (go_at_call 46; refine (WriteRune_k w.heap.size w.heap.size _ v (by omega) (by omega) _ hI2 (by rw [Lib.byteCells_length]; omega) (by omega)).mono ?_; rintro e w3 ⟨rfl, hB3, hb3, _⟩))
            go_roundw
            case rel =>
              refine ⟨acc ++ Lib.encodeRune v, z, .inr ?_, hP2.behind hbl hb3, ((hK.trans hK1).trans hK2).behind hb3, HY, by simp only [List.length_append]; omega⟩
              rw [Lib.byteCells_append, Lib.byteCells_encodeRune]
              exact hB3
            case measure =>
              rw [(hP2.behind hbl hb3).left, hP.left]
              simp only [List.length_cons]
              omega
        · rw [if_neg h92] at hE
          have q92 : ((c.toNat : Int) == 92) = false := ne_byte h92
          by_cases h32 : c < 32
          · rw [if_pos h32] at hE
            have HY : Hid (X = .err 3 (r.length + 1)) := hE
            have q32 : (c.toNat : Int) < 32 := by have := UInt8.lt_iff_toNat_lt.1 h32; simp at this; omega
            clear hE HE
            go_wp2_with (first
              | (go_at_call 100; refine hpk.mono ?_; rintro e w1 ⟨rfl, hP1, hK1⟩; obtain ⟨p, hp, d1⟩ := hP1.c1; simp only [List.length_cons] at hp))
            obtain rfl : p = s.length - (r.length + 1) := by omega
            exact ⟨rfl, hK.trans hK1, by rw [HY.out]; rfl⟩
          · rw [if_neg h32] at hE
            have q32 : ¬ (c.toNat : Int) < 32 := by
              intro e
              apply h32
              rw [UInt8.lt_iff_toNat_lt]
              simp
              omega
            have HY : Hid (X = (Jsn.quotedR r).map ((acc ++ [c]) ++ ·)) := by show _ = _; rw [hE, quoted_q]; rfl
            clear hE HE
            go_wp2_with (first
              | (go_at_call 100; refine hpk.mono ?_; rintro e w1 ⟨rfl, hP1, hK1⟩; obtain ⟨p, hp, d1⟩ := hP1.c1; simp only [List.length_cons] at hp; have e1 := hP1.free 1; have hT1 := hP1.tail p hp; have hI1 := builder_keep hI (fun k hk hlt => hK1.block k hlt (by omega)); have hI2 := builder_keep (w' := w1.setCell ⟨b, 1, none⟩ (.int .i64 ((p : Int) + 1))) hI1 (fun k hk _ => Below.heap_setCell _ _ _ _ (by show k ≠ b; omega)); have hs1 := hK1.size)
              | (go_at_call 24; refine (WriteByte_k w.heap.size w.heap.size _ _ _ hI2 (by rw [Lib.byteCells_length]; omega) (by simp; omega)).mono ?_; rintro e w3 ⟨rfl, hB3, hb3, _⟩))
            go_roundw
            case rel =>
              refine ⟨acc ++ [c], r, .inr ?_, hT1.behind hbl hb3, ((hK.trans hK1).trans (Kept.set _ _ _ _)).behind hb3, HY, by simp only [List.length_append, List.length_singleton]; omega⟩
              rw [Lib.byteCells_append]
              exact hB3
            case measure =>
              rw [(hT1.behind hbl hb3).left, hP.left]
              simp only [List.length_cons]
              omega
end Go.Proofs.YtmmpbjpeiclacaaGreatDoor
