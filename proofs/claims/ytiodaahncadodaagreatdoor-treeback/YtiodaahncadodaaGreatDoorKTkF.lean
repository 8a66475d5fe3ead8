/- The contract of a reader's tag. -/
import Derived.Test.YtiodaahncadodaaGreatDoorKTkE
set_option linter.unusedVariables false
set_option linter.unusedSimpArgs false
namespace Go.Proofs.YtiodaahncadodaaGreatDoor
open Go.RowKit
/-- What a round of tag begins with: T the token under way, R the result. -/
structure TagAt (b : Nat) (l a n : List UInt8) (w : World) (R T : Nat) (wr : World) (r : List UInt8) (ats : List Pr) (ad : Option Addr) (ln cp : Nat) : Prop where
  tr : Tr b r a wr
  tok : KAt wr T #[.int .i64 1, .string (str n), .slice ad ln cp, .bool false, .string ByteArray.empty]
  res : KAt wr R kCells0
  own : OwnsA wr (T + 1) (.slice ad ln cp) ats
  len : ats.length ≤ 64
  kept : Kept b w wr
  same : Hid (Tk.tg (l.dropWhile Tk.tn) [] false = Tk.tg r ats false)
  lt1 : b < w.heap.size
  lt2 : w.heap.size ≤ R
  lt3 : R < T
theorem TagAt.up {b : Nat} {l a n : List UInt8} {w : World} {R T : Nat} {wr wr' : World} {r : List UInt8} {ats : List Pr} {ad : Option Addr} {ln cp : Nat} (h : TagAt b l a n w R T wr r ats ad ln cp) (hb : Below wr.heap.size wr wr') : TagAt b l a n w R T wr' r ats ad ln cp :=
  ⟨h.tr.step hb, h.tok.step hb, h.res.step hb, OwnsPairs.below h.own hb, h.len, h.kept.trans (Kept.of hb), h.same, h.lt1, h.lt2, h.lt3⟩
/-- The reader went on. -/
theorem TagAt.on {b : Nat} {l a n : List UInt8} {w : World} {R T : Nat} {wr wr' : World} {r r' : List UInt8} {ats : List Pr} {ad : Option Addr} {ln cp : Nat} (h : TagAt b l a n w R T wr r ats ad ln cp) (hk : Kept b wr wr') (ht : Tr b r' a wr') :
    KAt wr' T #[.int .i64 1, .string (str n), .slice ad ln cp, .bool false, .string ByteArray.empty] ∧ KAt wr' R kCells0 ∧ OwnsA wr' (T + 1) (.slice ad ln cp) ats ∧ Kept b w wr' := by
  have h1 := h.lt1
  have h2 := h.lt2
  have h3 := h.lt3
  exact ⟨h.tok.kept hk (by omega), h.res.kept hk (by omega), OwnsPairs.kept h.own hk (by omega), h.kept.trans hk⟩
theorem OwnsPairs.mono {t : TypeId} {w : World} {B C : Nat} {v : Value} {ps : List Pr} (h : OwnsPairs t w C v ps) (hb : B ≤ C) : OwnsPairs t w B v ps := by
  refine ⟨h.1, ?_⟩
  rcases h.2 with h0 | ⟨g, cap, cur, hv, h1, hc⟩
  · exact .inl h0
  · exact .inr ⟨g, cap, cur, hv, Nat.le_trans hb h1, hc⟩
theorem end_cases (r : List UInt8) : (∃ t, r = [62] ++ t) ∨ (r = []) ∨ ∃ c t, r = c :: t ∧ [62].isPrefixOf r = false ∧ c ≠ 62 := by
  rcases one_cases 62 r with h | h
  · exact .inl h
  · cases r with
    | nil => exact .inr (.inl rfl)
    | cons c t => exact .inr (.inr ⟨c, t, rfl, h, not_one 62 t c h⟩)
theorem drop_gp (c : UInt8) (t : List UInt8) : ∀ l : List UInt8, l.dropWhile gp = c :: t → gp c = false
  | [], h => by cases h
  | x :: l, h => by
    cases hx : gp x
    · rw [List.dropWhile_cons, hx] at h
      cases h
      exact hx
    · rw [List.dropWhile_cons, hx] at h
      exact drop_gp c t l h
set_option maxHeartbeats 2000000 in
set_option maxRecDepth 100000 in
theorem tag_any {b : Nat} {l a : List UInt8} {w : World} (h : Tr b l a w) :
    Calls Tryz.prog 124 #[.pointer (some ⟨b, 0, none⟩)] w (TokPost b a w (tagP l)) := by
  have hz := (zero_of_info zeroK).1
  have hlen := h.len
  have hbw := h.lt
  have h0 := h.step ((Below.refl _ w).alloc (Nat.le_refl _) (.cells kCells0 56))
  have hk0 : Kept b w (w.alloc (.cells kCells0 56)) := Kept.of ((Below.refl _ w).alloc (Nat.le_refl _) _)
  have ha0 : KAt (w.alloc (.cells kCells0 56)) w.heap.size kCells0 := heap_new w _
  have HLo := fun W => Lower_any (str (l.takeWhile Tk.tn)) W (by rw [str_size]; have := tkw_le Tk.tn l; omega)
  rw [str_data] at HLo
  have HP : Hid (tagP l = match Tk.tg (l.dropWhile Tk.tn) [] false with | none => (Tk.zero, []) | some (ats, sl, r) => (⟨1, Asc.lower (l.takeWhile Tk.tn), ats, sl, []⟩, r)) := by
    show _ = _
    unfold tagP Tk.tag
    cases Tk.tg (l.dropWhile Tk.tn) [] false <;> rfl
  generalize Asc.lower (l.takeWhile Tk.tn) = n at HLo HP
  replace HLo := hideT HLo
  go_enter Tryz.func124, Tryz.ntmps124
  go_wp2_with fail
  generalize w.alloc (.cells kCells0 56) = W at *
  go_at_call 155
  refine (while_tn h0).mono ?_
  rintro e w1 ⟨rfl, h1, k1⟩
  have ha1 := ha0.kept k1 (by omega)
  have hk1 := hk0.trans k1
  clear h0 hk0 ha0 k1
  go_wp2_with fail
  go_at_call 154
  refine (HLo.out _).mono ?_
  rintro e w2 ⟨rfl, hb2⟩
  have h2 := h1.step hb2
  have ha2 := ha1.step hb2
  have hk2 := hk1.trans (Kept.of hb2)
  clear h1 ha1 hk1 hb2 HLo
  have hlt2 := ha2.lt
  have hb3 : Below w2.heap.size w2 (w2.alloc (.cells #[.int .i64 1, .string (str n), .slice none 0 0, .bool false, .string ByteArray.empty] 56)) := (Below.refl _ _).alloc (Nat.le_refl _) _
  have hI : TagAt b l a n w w.heap.size w2.heap.size (w2.alloc (.cells #[.int .i64 1, .string (str n), .slice none 0 0, .bool false, .string ByteArray.empty] 56)) (l.dropWhile Tk.tn) [] none 0 0 :=
    ⟨h2.step hb3, heap_new w2 _, ha2.step hb3, OwnsPairs.nil _ _ _, by simp, hk2.trans (Kept.of hb3), rfl, hbw, Nat.le_refl _, hlt2⟩
  go_wp2_with fail
  generalize (w2.alloc (.cells #[.int .i64 1, .string (str n), .slice none 0 0, .bool false, .string ByteArray.empty] 56)) = W3 at *
  generalize hT : w2.heap.size = T at *
  have hRT := hI.lt3
  clear h2 ha2 hk2 hb3
  go_loopw [] (fun wr => ∃ r ats ad ln cp, TagAt b l a n w w.heap.size T wr r ats ad ln cp) (fun wr => leftT b wr)
  case atStart => exact ⟨_, _, _, _, _, hI⟩
  case round =>
    clear hI
    obtain ⟨r, ats, ad, ln, cp, hA⟩ := hrel
    go_wp2_with fail
    go_at_call 155
    refine (while_gap hA.tr).mono ?_
    rintro e w4 ⟨rfl, h4, k4⟩
    obtain ⟨t4, r4, o4, hk4⟩ := hA.on k4 h4
    have hlA := hA.len
    have HS : Hid (Tk.tg (l.dropWhile Tk.tn) [] false = Tk.tg (r.dropWhile gp) ats (lastS false (r.takeWhile gp))) := by
      show _ = _
      rw [hA.same.out, tg_gaps]
    have hsz : (r.takeWhile gp).length ≤ 1000000 := by have := tkw_le gp r; have := hA.tr.len; omega
    have hml := hA.tr.left
    have hdl := Tk.dropWhile_le gp r
    clear k4 hA
    go_wp2_with fail
    go_at_call 88
    rcases end_cases (r.dropWhile gp) with ⟨t, ht⟩ | hnil | ⟨c, t, ht, hp, hc⟩
    · rw [ht] at h4 HS
      have HT : Hid (tagP l = (⟨1, n, ats, lastS false (r.takeWhile gp), []⟩, t)) := by
        show _ = _
        rw [HP.out, HS.out]
        rfl
      refine (took_yes [62] t rfl h4).mono ?_
      rintro e w5 ⟨rfl, h5, k5⟩
      have t5 := t4.kept k5 (by omega)
      have r5 := r4.kept k5 (by omega)
      have o5 := OwnsPairs.kept o4 k5 (by omega)
      have hk5 := hk4.trans k5
      have hHS := HasSuffix_l (r.takeWhile gp) w5 (by omega)
      generalize lastS false (r.takeWhile gp) = sl at hHS HT
      clear h4 t4 r4 o4 hk4 k5 HS HP
      have c3 : w5.cell? ⟨T, 3, none⟩ = some (.bool false) := Lib.cell_of_heap t5 3
      have f3 : w5.frozen? ⟨T, 3, none⟩ = false := Lib.frozen_of_heap t5 3
      have k6 : Kept T w5 (w5.setCell ⟨T, 3, none⟩ (.bool sl)) := Kept.set T 3 w5 _
      have t6 : KAt (w5.setCell ⟨T, 3, none⟩ (.bool sl)) T #[.int .i64 1, .string (str n), .slice ad ln cp, .bool sl, .string ByteArray.empty] := Go.Joins.block_setCell t5 _
      have r6 := r5.kept k6 (by omega)
      have h6 := h5.other k6 (by omega) (Nat.le_of_lt t5.lt)
      have o6 : OwnsA (w5.setCell ⟨T, 3, none⟩ (.bool sl)) (T + 1) (.slice ad ln cp) ats := OwnsPairs.kept o5 k6 (by omega)
      have hk6 := hk5.more k6 (by omega)
      go_wp2_with (first
        | (go_at_call 157; refine hHS.mono ?_; rintro e w7 ⟨rfl, hw⟩; rw [hw]; clear hw)
        | (refine wpList_load_K _ rfl rfl T _ _ _ _ _ rfl t6 ?_)
        | (refine wpList_store_K _ _ rfl rfl w.heap.size _ rfl 1 (str n) ByteArray.empty sl ad ln cp rfl rfl r6 ?_))
      refine ret_K rfl rfl rfl (setRow_K r6) ?_
      unfold TokPost
      rw [HT.out]
      have k7 := kept_setRow w.heap.size (w5.setCell ⟨T, 3, none⟩ (.bool sl)) #[.int .i64 1, .string (str n), .slice ad ln cp, .bool sl, .string ByteArray.empty]
      exact ⟨ad, ln, cp, rfl, (OwnsPairs.kept o6 k7 (by omega)).mono (by omega), h6.other k7 hbw (Nat.le_of_lt r6.lt), hk6.more k7 (Nat.le_refl _)⟩
    · rw [hnil] at h4 HS
      have HT : Hid (tagP l = (Tk.zero, [])) := by
        show _ = _
        rw [HP.out, HS.out]
        rfl
      refine (took_no [62] rfl h4).mono ?_
      rintro e w5 ⟨rfl, h5, k5⟩
      have r5 := r4.kept k5 (by omega)
      have hk5 := hk4.trans k5
      have c0 := h5.c0
      have hne : ((str ([] : List UInt8)).toList.isEmpty) = true := by rw [str_list]; rfl
      clear h4 t4 r4 o4 hk4 k5 HS HP
      go_wp2_with (refine wpList_store_K _ _ rfl rfl w.heap.size _ rfl 0 ByteArray.empty ByteArray.empty false none 0 0 rfl rfl r5 ?_)
      refine ret_K rfl rfl rfl (setRow_K r5) ?_
      unfold TokPost
      rw [HT.out]
      have k7 := kept_setRow w.heap.size w5 kCells0
      exact ⟨none, 0, 0, rfl, OwnsPairs.nil _ _ _, h5.other k7 hbw (Nat.le_of_lt r5.lt), hk5.more k7 (Nat.le_refl _)⟩
    · have hgc := drop_gp c t r ht
      rw [ht] at h4 HS hp hdl
      have HT : Hid (Tk.tg (l.dropWhile Tk.tn) [] false = Tk.tg (attrP (c :: t)).2 (Tk.add ats (attrP (c :: t)).1) false) := by
        show _ = _
        rw [HS.out, tg_step c t ats _ hgc hc]
      refine (took_no [62] hp h4).mono ?_
      rintro e w5 ⟨rfl, h5, k5⟩
      have t5 := t4.kept k5 (by omega)
      have r5 := r4.kept k5 (by omega)
      have o5 := OwnsPairs.kept o4 k5 (by omega)
      have hk5 := hk4.trans k5
      have c0 := h5.c0
      have hne : ((str (c :: t)).toList.isEmpty) = false := by rw [str_list]; rfl
      clear h4 t4 r4 o4 hk4 k5 HS HP hp hgc hc
      have hal := attrP_lt c t
      have hadl := add_len ats (attrP (c :: t)).1 hlA
      have HAt := hideT (fun W (h : Tr b (c :: t) a W) => attr_any h)
      generalize attrP (c :: t) = q at *
      obtain ⟨⟨an, av⟩, rest⟩ := q
      simp only at hal hadl HAt HT
      go_wp2_with fail
      have h5' : Tr b (c :: t) a w5.drew := h5.step (Below.refl _ _).drew
      have t5' : KAt w5.drew T #[.int .i64 1, .string (str n), .slice ad ln cp, .bool false, .string ByteArray.empty] := t5
      have r5' : KAt w5.drew w.heap.size kCells0 := r5
      have o5' : OwnsA w5.drew (T + 1) (.slice ad ln cp) ats := o5
      have hk5' : Kept b w w5.drew := hk5.drew
      have c2 : w5.drew.cell? ⟨T, 2, none⟩ = some (.slice ad ln cp) := Lib.cell_of_heap t5' 2
      clear h5 t5 r5 o5 hk5
      go_region_with (first
        | (go_at_call 159; refine (HAt.out _ h5').mono ?_; rintro e w6 ⟨rfl, h6, k6⟩; have t6 := t5'.kept k6 (by omega); have r6 := r5'.kept k6 (by omega); have o6 := OwnsPairs.kept o5' k6 (by omega); have hk6 := hk5'.trans k6; have c62 : w6.cell? ⟨T, 2, none⟩ = some (.slice ad ln cp) := Lib.cell_of_heap t6 2)
        | (go_at_call 158; refine (add_any ats _ an av (T + 1) _ o6 (by have := t6.lt; omega) hlA).mono ?_; rintro e w7 ⟨u7, rfl, o7, b7⟩; obtain ⟨ad7, cp7, rfl⟩ := o7.reads.form; have t7 := t6.belowB b7 (by omega); have r7 := r6.belowB b7 (by omega); have h7 := h6.belowB b7 (by omega); have hk7 := hk6.belowB b7 (by omega); have f7 : w7.frozen? ⟨T, 2, none⟩ = false := Lib.frozen_of_heap t7 2; have c7 : w7.cell? ⟨T, 2, none⟩ = some (.slice ad ln cp) := Lib.cell_of_heap t7 2))
      all_goals
        (try go_wp2)
        have k8 : Kept T w7 (w7.setCell ⟨T, 2, none⟩ (.slice ad7 (Tk.add ats (an, av)).length cp7)) := Kept.set T 2 w7 _
        have h8 := h7.other k8 (by omega) (Nat.le_of_lt t7.lt)
        refine ⟨⟨rest, Tk.add ats (an, av), ad7, _, cp7, h8, Go.Joins.block_setCell t7 _, r7.kept k8 (by omega), OwnsPairs.kept o7 k8 (by omega), hadl, hk7.more k8 (by omega), HT, hbw, Nat.le_refl _, hRT⟩, ?_⟩
        rw [h8.left, hml]
        rw [List.length_cons] at hdl
        omega
end Go.Proofs.YtiodaahncadodaaGreatDoor
