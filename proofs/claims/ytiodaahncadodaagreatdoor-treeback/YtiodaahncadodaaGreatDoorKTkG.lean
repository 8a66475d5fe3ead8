/- The contracts of a reader's start and end. -/
import Derived.Test.YtiodaahncadodaaGreatDoorKTkF
set_option linter.unusedVariables false
set_option linter.unusedSimpArgs false
namespace Go.Proofs.YtiodaahncadodaaGreatDoor
open Go.RowKit
/-- The name that is ahead behind a start tag. -/
def aheadP (k : Tk.Tok) (a : List UInt8) : List UInt8 := if Tk.isRaw k.name = true then k.name else a
theorem take_one {b : Nat} {c : UInt8} {l a : List UInt8} (W : World) (h : Tr b (c :: l) a W) :
    Calls Tryz.prog 120 #[.pointer (some ⟨b, 0, none⟩), .int .i64 1] W fun e w' => e = .returned (.string (str [c])) ∧ Tr b l a w' ∧ Kept b W w' := take_any 1 h (by simp)
theorem take_two {b : Nat} {c d : UInt8} {l a : List UInt8} (W : World) (h : Tr b (c :: d :: l) a W) :
    Calls Tryz.prog 120 #[.pointer (some ⟨b, 0, none⟩), .int .i64 2] W fun e w' => e = .returned (.string (str [c, d])) ∧ Tr b l a w' ∧ Kept b W w' := take_any 2 h (by simp)
set_option maxHeartbeats 1000000 in
set_option maxRecDepth 100000 in
theorem start_any {b : Nat} {l a : List UInt8} {w : World} (h : Tr b (60 :: l) a w) :
    Calls Tryz.prog 86 #[.pointer (some ⟨b, 0, none⟩)] w (TokPost b (aheadP (tagP l).1 a) w (tagP l)) := by
  have hz := (zero_of_info zeroK).1
  have hbw := h.lt
  have h0 := h.step ((Below.refl _ w).alloc (Nat.le_refl _) (.cells kCells0 56))
  have hk0 : Kept b w (w.alloc (.cells kCells0 56)) := Kept.of ((Below.refl _ w).alloc (Nat.le_refl _) _)
  have ha0 : KAt (w.alloc (.cells kCells0 56)) w.heap.size kCells0 := heap_new w _
  have HTag := hideT (fun W (h : Tr b l a W) => tag_any h)
  generalize tagP l = q at *
  obtain ⟨⟨kk, kn, ka, ks, kx⟩, r⟩ := q
  go_enter Tryz.func86, Tryz.ntmps86
  go_wp2_with fail
  generalize w.alloc (.cells kCells0 56) = W at *
  go_at_call 120
  refine (take_one _ h0).mono ?_
  rintro e w1 ⟨rfl, h1, k1⟩
  have ha1 := ha0.kept k1 (by omega)
  have hk1 := hk0.trans k1
  clear h0 hk0 ha0 k1
  go_wp2_with fail
  go_at_call 124
  refine (HTag.out _ h1).mono ?_
  rintro e w2 ⟨ad, ln, cp, rfl, o2, h2, k2⟩
  have ha2 := ha1.kept k2 (by omega)
  have hk2 := hk1.trans k2
  have o2' := OwnsPairs.mono (B := w.heap.size + 1) o2 ha1.lt
  clear h1 ha1 k2 HTag o2 hk1
  simp only at h2 o2'
  have hlt2 := ha2.lt
  have hb3 : Below w2.heap.size w2 (w2.alloc (.cells (kCells kk kn (.slice ad ln cp) ks kx) 56)) := (Below.refl _ _).alloc (Nat.le_refl _) _
  have t3 : KAt (w2.alloc (.cells (kCells kk kn (.slice ad ln cp) ks kx) 56)) w2.heap.size (kCells kk kn (.slice ad ln cp) ks kx) := heap_new w2 _
  have h3 := h2.step hb3
  have r3 := ha2.step hb3
  have o3 := OwnsPairs.below o2' hb3
  have hk3 := hk2.trans (Kept.of hb3)
  have hlt3 := hk2.size
  clear h2 ha2 hk2 o2' hb3
  go_wp2_with fail
  generalize (w2.alloc (.cells (kCells kk kn (.slice ad ln cp) ks kx) 56)) = W3 at *
  generalize w2.heap.size = T at *
  have hH := hasOwn_any kn W3
  go_at_call 125
  refine hH.mono ?_
  rintro e w4 ⟨rfl, hw⟩
  rw [hw]
  clear hw hH
  have f1 := h3.free 1
  have c1 := h3.c1
  cases hx : Tk.isRaw kn
  · have HA : Hid (aheadP ⟨kk, kn, ka, ks, kx⟩ a = a) := by
      show _ = _
      unfold aheadP
      rw [hx]
      rfl
    clear hx
    go_wp2_with (first
      | (refine wpList_load_K _ rfl rfl T _ _ _ _ _ rfl t3 ?_)
      | (refine wpList_store_K _ _ rfl rfl w.heap.size _ rfl kk (str kn) (str kx) ks ad ln cp rfl rfl r3 ?_))
    refine ret_K rfl rfl rfl (setRow_K r3) ?_
    unfold TokPost
    rw [HA.out]
    have k7 := kept_setRow w.heap.size W3 (kCells kk kn (.slice ad ln cp) ks kx)
    exact ⟨ad, ln, cp, rfl, (OwnsPairs.kept o3 k7 (by omega)).mono (by omega), h3.other k7 hbw (Nat.le_of_lt r3.lt), hk3.more k7 (Nat.le_refl _)⟩
  · have HA : Hid (aheadP ⟨kk, kn, ka, ks, kx⟩ a = kn) := by
      show _ = _
      unfold aheadP
      rw [hx]
      rfl
    clear hx
    have n1 : W3.cell? ⟨T, 1, none⟩ = some (.string (str kn)) := Lib.cell_of_heap t3 1
    have k5 : Kept b W3 (W3.setCell ⟨b, 1, none⟩ (.string (str kn))) := Kept.set b 1 W3 _
    have h5 := h3.setA kn
    have t5 := t3.kept k5 (by omega)
    have r5 := r3.kept k5 (by omega)
    have o5 := OwnsPairs.kept o3 k5 (by omega)
    have hk5 := hk3.trans k5
    clear h3 r3 o3 hk3
    go_wp2_with (first
      | (refine wpList_load_K _ rfl rfl T _ _ _ _ _ rfl t5 ?_)
      | (refine wpList_store_K _ _ rfl rfl w.heap.size _ rfl kk (str kn) (str kx) ks ad ln cp rfl rfl r5 ?_))
    refine ret_K rfl rfl rfl (setRow_K r5) ?_
    unfold TokPost
    rw [HA.out]
    have k7 := kept_setRow w.heap.size (W3.setCell ⟨b, 1, none⟩ (.string (str kn))) (kCells kk kn (.slice ad ln cp) ks kx)
    exact ⟨ad, ln, cp, rfl, (OwnsPairs.kept o5 k7 (by omega)).mono (by omega), h5.other k7 hbw (Nat.le_of_lt r5.lt), hk5.more k7 (Nat.le_refl _)⟩
theorem tagP_kind (l : List UInt8) : tagP l = (Tk.zero, []) ∨ (tagP l).1.kind = 1 := by
  unfold tagP Tk.tag
  cases Tk.tg (l.dropWhile Tk.tn) [] false with
  | none => exact .inl rfl
  | some x => exact .inr rfl
/-- What end answers, and leaves. -/
def endP (x : Tk.Tok × List UInt8) : Tk.Tok × List UInt8 := if x.1.kind = 0 then (Tk.zero, []) else (⟨2, x.1.name, [], false, []⟩, x.2)
set_option maxHeartbeats 1000000 in
set_option maxRecDepth 100000 in
theorem end_any {b : Nat} {l a : List UInt8} {w : World} (h : Tr b (60 :: 47 :: l) a w) :
    Calls Tryz.prog 87 #[.pointer (some ⟨b, 0, none⟩)] w (TokPost b a w (endP (tagP l))) := by
  have hz := (zero_of_info zeroK).1
  have hbw := h.lt
  have h0 := h.step ((Below.refl _ w).alloc (Nat.le_refl _) (.cells kCells0 56))
  have hk0 : Kept b w (w.alloc (.cells kCells0 56)) := Kept.of ((Below.refl _ w).alloc (Nat.le_refl _) _)
  have ha0 : KAt (w.alloc (.cells kCells0 56)) w.heap.size kCells0 := heap_new w _
  have HTag := hideT (fun W (h : Tr b l a W) => tag_any h)
  have hkd := tagP_kind l
  generalize tagP l = q at *
  obtain ⟨⟨kk, kn, ka, ks, kx⟩, r⟩ := q
  go_enter Tryz.func87, Tryz.ntmps87
  go_wp2_with fail
  generalize w.alloc (.cells kCells0 56) = W at *
  go_at_call 120
  refine (take_two _ h0).mono ?_
  rintro e w1 ⟨rfl, h1, k1⟩
  have ha1 := ha0.kept k1 (by omega)
  have hk1 := hk0.trans k1
  clear h0 hk0 ha0 k1
  go_wp2_with fail
  go_at_call 124
  refine (HTag.out _ h1).mono ?_
  rintro e w2 ⟨ad, ln, cp, rfl, o2, h2, k2⟩
  have ha2 := ha1.kept k2 (by omega)
  have hk2 := hk1.trans k2
  clear h1 ha1 k2 HTag o2 hk1
  simp only at h2
  have hlt2 := ha2.lt
  have hb3 : Below w2.heap.size w2 (w2.alloc (.cells (kCells kk kn (.slice ad ln cp) ks kx) 56)) := (Below.refl _ _).alloc (Nat.le_refl _) _
  have t3 : KAt (w2.alloc (.cells (kCells kk kn (.slice ad ln cp) ks kx) 56)) w2.heap.size (kCells kk kn (.slice ad ln cp) ks kx) := heap_new w2 _
  have h3 := h2.step hb3
  have r3 := ha2.step hb3
  have hk3 := hk2.trans (Kept.of hb3)
  clear h2 ha2 hk2 hb3
  rcases hkd with hq | hq
  · have e1 : kk = 0 := congrArg (·.1.kind) hq
    have e2 : r = [] := congrArg (·.2) hq
    subst e1 e2
    clear hq
    have n0 : (w2.alloc (.cells (kCells ((0 : Nat) : Int) kn (.slice ad ln cp) ks kx) 56)).cell? ⟨w2.heap.size, 0, none⟩ = some (.int .i64 0) := Lib.cell_of_heap t3 0
    go_wp2_with (refine wpList_store_K _ _ rfl rfl w.heap.size _ rfl 0 ByteArray.empty ByteArray.empty false none 0 0 rfl rfl r3 ?_)
    refine ret_K rfl rfl rfl (setRow_K r3) ?_
    have k7 := kept_setRow w.heap.size (w2.alloc (.cells (kCells ((0 : Nat) : Int) kn (.slice ad ln cp) ks kx) 56)) kCells0
    unfold TokPost
    rw [show endP (⟨0, kn, ka, ks, kx⟩, []) = (Tk.zero, []) from if_pos rfl]
    exact ⟨none, 0, 0, rfl, OwnsPairs.nil _ _ _, h3.other k7 hbw (Nat.le_of_lt r3.lt), hk3.more k7 (Nat.le_refl _)⟩
  · have hq : kk = 1 := hq
    subst hq
    have n0 : (w2.alloc (.cells (kCells ((1 : Nat) : Int) kn (.slice ad ln cp) ks kx) 56)).cell? ⟨w2.heap.size, 0, none⟩ = some (.int .i64 1) := Lib.cell_of_heap t3 0
    have n1 : (w2.alloc (.cells (kCells ((1 : Nat) : Int) kn (.slice ad ln cp) ks kx) 56)).cell? ⟨w2.heap.size, 1, none⟩ = some (.string (str kn)) := Lib.cell_of_heap t3 1
    go_wp2_with (refine wpList_store_K _ _ rfl rfl w.heap.size _ rfl 2 (str kn) ByteArray.empty false none 0 0 rfl rfl r3 ?_)
    refine ret_K rfl rfl rfl (setRow_K r3) ?_
    have k7 := kept_setRow w.heap.size (w2.alloc (.cells (kCells ((1 : Nat) : Int) kn (.slice ad ln cp) ks kx) 56)) (kCells 2 kn (.slice none 0 0) false [])
    unfold TokPost
    rw [show endP (⟨1, kn, ka, ks, kx⟩, r) = (⟨2, kn, [], false, []⟩, r) from if_neg (by show ¬ 1 = 0; omega)]
    exact ⟨none, 0, 0, rfl, OwnsPairs.nil _ _ _, h3.other k7 hbw (Nat.le_of_lt r3.lt), hk3.more k7 (Nat.le_refl _)⟩
end Go.Proofs.YtiodaahncadodaaGreatDoor
