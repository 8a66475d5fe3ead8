/- The contracts of a reader's plain, mark, own, and of ownSize. -/
import Derived.Test.YtiodaahncadodaaGreatDoorKTkN
set_option linter.unusedVariables false
set_option linter.unusedSimpArgs false
namespace Go.Proofs.YtiodaahncadodaaGreatDoor
open Go.RowKit
set_option maxHeartbeats 1000000 in
set_option maxRecDepth 100000 in
theorem plain_any {b : Nat} {s a : List UInt8} {w : World} (h : Tr b s a w) (hs : s ≠ []) (ht : Tk.isTag s = false) :
    Calls Tryz.prog 92 #[.pointer (some ⟨b, 0, none⟩)] w (TokPost b a w (Tk.textTok (Rf.dec false (s.take (Tk.upto s))), s.drop (Tk.upto s))) := by
  have hz := (zero_of_info zeroK).1
  have hbw := h.lt
  have hlen := h.len
  have hsz := str_size s
  have hpos : 1 ≤ s.length := by cases s <;> simp at hs ⊢
  have h0 := h.step ((Below.refl _ w).alloc (Nat.le_refl _) (.cells kCells0 56))
  have hk0 : Kept b w (w.alloc (.cells kCells0 56)) := Kept.of ((Below.refl _ w).alloc (Nat.le_refl _) _)
  have ha0 : KAt (w.alloc (.cells kCells0 56)) w.heap.size kCells0 := heap_new w _
  have HU : Hid (Tk.upto s = 1 + Tk.upto (s.drop 1)) := by
    show _ = _
    have hq : Tk.upto s = Tk.upto (s.drop 1) + 1 := upto_no s 0 hpos ht
    omega
  have HUl : Hid (Tk.upto s ≤ s.length) := Tk.upto_le s
  clear ht hs
  go_enter Tryz.func92, Tryz.ntmps92
  go_wp2
  generalize w.alloc (.cells kCells0 56) = W at *
  have c0 := h0.c0
  go_loopw [3] (fun i wr => wr = W ∧ ∃ k : Nat, 1 ≤ k ∧ k ≤ s.length ∧ i = .int .i64 k ∧ Hid (Tk.upto s = k + Tk.upto (s.drop k))) (fun i _ => s.length - (intOf i).toNat)
  case atStart => exact ⟨rfl, 1, Nat.le_refl _, hpos, rfl, HU⟩
  case round =>
    obtain ⟨hw, k, hk1, hk, rfl, HE⟩ := hrel
    replace hw := hw.symm
    subst hw
    have he : (str s).extract k s.length = str (s.drop k) := str_from s k
    by_cases hlt : k < s.length
    · have hB := begins_any (s.drop k) W
      cases hx : Tk.isTag (s.drop k)
      · rw [hx] at hB
        have HN : Hid (Tk.upto s = (k + 1) + Tk.upto (s.drop (k + 1))) := by
          show _ = _
          rw [HE.out, upto_no s k hlt hx]
          omega
        clear hx
        go_wp2_with (go_at_call 90; (try rw [he]); refine hB.mono ?_; rintro e w1 ⟨rfl, hw⟩; rw [hw]; clear hw)
        go_roundw
        case rel => exact ⟨by trivial, k + 1, by omega, by omega, by go_num, HN⟩
        case measure => simp [intOf]; omega
      · rw [hx] at hB
        have HN : Hid (Tk.upto s = k) := by
          show _ = _
          rw [HE.out, upto_yes _ hx]
          rfl
        clear hx HE
        have hT := take_any k h0 hk
        have HP : Hid ((Tk.textTok (Rf.dec false (s.take (Tk.upto s))), s.drop (Tk.upto s)) = (Tk.textTok (Rf.dec false (s.take k)), s.drop k)) := by show _ = _; rw [HN.out]
        clear HN
        have HDe := hideT (fun W (hW : Win W) => Decode_any (s.take k) false W (by rw [List.length_take]; omega) hW)
        generalize s.take k = x at hT HDe HP
        generalize Rf.dec false x = y at HDe HP
        go_wp2_with (first
          | (go_at_call 90; (try rw [he]); refine hB.mono ?_; rintro e w1 ⟨rfl, hw⟩; rw [hw]; clear hw)
          | (go_at_call 120; refine hT.mono ?_; rintro e w2 ⟨rfl, h2, k2⟩; have r2 := ha0.kept k2 (by omega); have hk2 := hk0.trans k2)
          | (go_at_call 121; refine (HDe.out _ h2.env.1).mono ?_; rintro e w3 ⟨rfl, hb3⟩; have h3 := h2.step hb3; have r3 := r2.step hb3; have hk3 := hk2.trans (Kept.of hb3))
          | (refine wpList_store_K _ _ rfl rfl w.heap.size _ rfl 3 ByteArray.empty (str y) false none 0 0 rfl rfl r3 ?_))
        refine ret_K rfl rfl rfl (setRow_K r3) ?_
        have k7 := kept_setRow w.heap.size w3 (kCells 3 [] (.slice none 0 0) false y)
        unfold TokPost
        rw [HP.out]
        exact ⟨none, 0, 0, rfl, OwnsPairs.nil _ _ _, h3.other k7 hbw (Nat.le_of_lt r3.lt), hk3.more k7 (Nat.le_refl _)⟩
    · have HN : Hid (Tk.upto s = k) := by
        show _ = _
        rw [HE.out, List.drop_eq_nil_of_le (by omega)]
        rfl
      clear HE
      have hT := take_any k h0 hk
      have HP : Hid ((Tk.textTok (Rf.dec false (s.take (Tk.upto s))), s.drop (Tk.upto s)) = (Tk.textTok (Rf.dec false (s.take k)), s.drop k)) := by show _ = _; rw [HN.out]
      clear HN
      have HDe := hideT (fun W (hW : Win W) => Decode_any (s.take k) false W (by rw [List.length_take]; omega) hW)
      generalize s.take k = x at hT HDe HP
      generalize Rf.dec false x = y at HDe HP
      go_wp2_with (first
        | (go_at_call 120; refine hT.mono ?_; rintro e w2 ⟨rfl, h2, k2⟩; have r2 := ha0.kept k2 (by omega); have hk2 := hk0.trans k2)
        | (go_at_call 121; refine (HDe.out _ h2.env.1).mono ?_; rintro e w3 ⟨rfl, hb3⟩; have h3 := h2.step hb3; have r3 := r2.step hb3; have hk3 := hk2.trans (Kept.of hb3))
        | (refine wpList_store_K _ _ rfl rfl w.heap.size _ rfl 3 ByteArray.empty (str y) false none 0 0 rfl rfl r3 ?_))
      refine ret_K rfl rfl rfl (setRow_K r3) ?_
      have k7 := kept_setRow w.heap.size w3 (kCells 3 [] (.slice none 0 0) false y)
      unfold TokPost
      rw [HP.out]
      exact ⟨none, 0, 0, rfl, OwnsPairs.nil _ _ _, h3.other k7 hbw (Nat.le_of_lt r3.lt), hk3.more k7 (Nat.le_refl _)⟩
set_option maxHeartbeats 1000000 in
set_option maxRecDepth 100000 in
theorem mark_any {b : Nat} {d : UInt8} {t a : List UInt8} {w : World} (h : Tr b (60 :: d :: t) a w) (hd : d ≠ 62) :
    Calls Tryz.prog 91 #[.pointer (some ⟨b, 0, none⟩)] w (TokPost b a w (markP (60 :: d :: t))) := by
  have hz := (zero_of_info zeroK).1
  have hbw := h.lt
  have hlen := h.len
  have h0 := h.step ((Below.refl _ w).alloc (Nat.le_refl _) (.cells kCells0 56))
  have hk0 : Kept b w (w.alloc (.cells kCells0 56)) := Kept.of ((Below.refl _ w).alloc (Nat.le_refl _) _)
  have ha0 : KAt (w.alloc (.cells kCells0 56)) w.heap.size kCells0 := heap_new w _
  have hfd := fd_skip t 60 d (by decide) hd
  have hdt := doctype_fd (60 :: d :: t)
  have hfl := fd_le [62] t
  have HM : Hid (markP (60 :: d :: t) = (if Tk.begins Tk.doctype (60 :: d :: t) = true then ⟨5, [], [], false, []⟩ else ⟨4, [], [], false, t.take (Tk.fd [62] t)⟩, t.drop (Tk.fd [62] t + 1))) := rfl
  have hPa : ∀ W, Tr b (60 :: d :: t) a W → Calls Tryz.prog 89 #[.pointer (some ⟨b, 0, none⟩), .string (str [62])] W fun e w' => e = .returned (.string (str (60 :: d :: t.take (Tk.fd [62] t)))) ∧ Tr b (t.drop (Tk.fd [62] t + 1)) a w' ∧ Kept b W w' := by
    intro W h
    have h1 := past_any [62] (by simp) h
    rw [hfd] at h1
    exact h1
  have HPa := hideT hPa
  clear hPa
  rw [hfd] at hdt
  rw [show (60 :: d :: t).take (Tk.fd [62] t + 2) = 60 :: d :: t.take (Tk.fd [62] t) from rfl] at hdt
  have hxl : (t.take (Tk.fd [62] t)).length ≤ t.length := by rw [List.length_take]; omega
  generalize t.drop (Tk.fd [62] t + 1) = r at HPa HM
  generalize t.take (Tk.fd [62] t) = x at HPa hdt HM hxl
  rw [← hdt] at HM
  rw [List.length_cons, List.length_cons] at hlen
  have HI := hideT (fun W => isDoctype_any (60 :: d :: x) W (by rw [List.length_cons, List.length_cons]; omega))
  have hsz : (str (60 :: d :: x)).size = x.length + 2 := str_size _
  have he : (str (60 :: d :: x)).extract 2 (x.length + 2) = str x := str_from (60 :: d :: x) 2
  clear hdt hfd hd
  cases hx : Tk.begins Tk.doctype (60 :: d :: x)
  · rw [hx] at HI HM
    clear hx
    go_enter Tryz.func91, Tryz.ntmps91
    go_wp2_with fail
    generalize w.alloc (.cells kCells0 56) = W at *
    go_wp2_with (first
      | (go_at_call 89; refine (HPa.out _ h0).mono ?_; rintro e w2 ⟨rfl, h2, k2⟩; have r2 := ha0.kept k2 (by omega); have hk2 := hk0.trans k2)
      | (go_at_call 128; refine (HI.out _).mono ?_; rintro e w3 ⟨rfl, hb3⟩; have h3 := h2.step hb3; have r3 := r2.step hb3; have hk3 := hk2.trans (Kept.of hb3))
      | (refine wpList_store_K _ _ rfl rfl w.heap.size _ rfl 4 ByteArray.empty (str x) false none 0 0 rfl rfl r3 ?_))
    refine ret_K rfl rfl rfl (setRow_K r3) ?_
    have k7 := kept_setRow w.heap.size w3 (kCells 4 [] (.slice none 0 0) false x)
    unfold TokPost
    rw [HM.out]
    exact ⟨none, 0, 0, rfl, OwnsPairs.nil _ _ _, h3.other k7 hbw (Nat.le_of_lt r3.lt), hk3.more k7 (Nat.le_refl _)⟩
  · rw [hx] at HI HM
    clear hx
    go_enter Tryz.func91, Tryz.ntmps91
    go_wp2_with fail
    generalize w.alloc (.cells kCells0 56) = W at *
    go_wp2_with (first
      | (go_at_call 89; refine (HPa.out _ h0).mono ?_; rintro e w2 ⟨rfl, h2, k2⟩; have r2 := ha0.kept k2 (by omega); have hk2 := hk0.trans k2)
      | (go_at_call 128; refine (HI.out _).mono ?_; rintro e w3 ⟨rfl, hb3⟩; have h3 := h2.step hb3; have r3 := r2.step hb3; have hk3 := hk2.trans (Kept.of hb3))
      | (refine wpList_store_K _ _ rfl rfl w.heap.size _ rfl 5 ByteArray.empty ByteArray.empty false none 0 0 rfl rfl r3 ?_))
    refine ret_K rfl rfl rfl (setRow_K r3) ?_
    have k7 := kept_setRow w.heap.size w3 (kCells 5 [] (.slice none 0 0) false [])
    unfold TokPost
    rw [HM.out]
    exact ⟨none, 0, 0, rfl, OwnsPairs.nil _ _ _, h3.other k7 hbw (Nat.le_of_lt r3.lt), hk3.more k7 (Nat.le_refl _)⟩
theorem lit_t (n q : List UInt8) (b : Bool) (h : (n == q) = b) : ((str n).toList == q) = b := by rw [str_list]; exact h
set_option maxHeartbeats 1000000 in
set_option maxRecDepth 100000 in
theorem own_any {b : Nat} {n s a : List UInt8} {w : World} (k : Nat) (h : Tr b s a w) (hk : k ≤ s.length) :
    Calls Tryz.prog 84 #[.pointer (some ⟨b, 0, none⟩), .string (str n), .int .i64 k] w (TokPost b a w (Tk.textTok (decT n (s.take k)), s.drop k)) := by
  have hz := (zero_of_info zeroK).1
  have hbw := h.lt
  have hlen := h.len
  have h0 := h.step ((Below.refl _ w).alloc (Nat.le_refl _) (.cells kCells0 56))
  have hk0 : Kept b w (w.alloc (.cells kCells0 56)) := Kept.of ((Below.refl _ w).alloc (Nat.le_refl _) _)
  have ha0 : KAt (w.alloc (.cells kCells0 56)) w.heap.size kCells0 := heap_new w _
  have HPa := hideT (fun W (h : Tr b s a W) => take_any k h hk)
  have HDe := hideT (fun W (hW : Win W) => Decode_any (s.take k) false W (by rw [List.length_take]; omega) hW)
  have HD : Hid (decT n (s.take k) = if (n == [116, 101, 120, 116, 97, 114, 101, 97] || n == [116, 105, 116, 108, 101]) = true then Rf.dec false (s.take k) else s.take k) := rfl
  generalize s.take k = x at *
  generalize decT n x = z at *
  generalize Rf.dec false x = y at *
  generalize s.drop k = r at *
  have run : ∀ (v : Bool), (n == [116, 101, 120, 116, 97, 114, 101, 97] || n == [116, 105, 116, 108, 101]) = v → v = true ∨ v = false := fun v _ => by cases v <;> simp
  cases h1 : (n == [116, 101, 120, 116, 97, 114, 101, 97])
  · have q1 := lit_t n _ _ h1
    cases h2 : (n == [116, 105, 116, 108, 101])
    · have q2 := lit_t n _ _ h2
      have HZ : Hid (z = x) := by show _ = _; rw [HD.out, h1, h2]; rfl
      clear HD h1 h2 run
      go_enter Tryz.func84, Tryz.ntmps84
      go_wp2_with fail
      generalize w.alloc (.cells kCells0 56) = W at *
      go_wp2_with (first
        | (go_at_call 120; refine (HPa.out _ h0).mono ?_; rintro e w2 ⟨rfl, h2, k2⟩; have r2 := ha0.kept k2 (by omega); have hk2 := hk0.trans k2; have hb3 : Below w2.heap.size w2 (w2.alloc (.cells #[.int .i64 3, .string ByteArray.empty, .slice none 0 0, .bool false, .string (str x)] 56)) := (Below.refl _ _).alloc (Nat.le_refl _) _; have t3 : KAt (w2.alloc (.cells #[.int .i64 3, .string ByteArray.empty, .slice none 0 0, .bool false, .string (str x)] 56)) w2.heap.size (kCells 3 [] (.slice none 0 0) false x) := heap_new w2 _; have h3 := h2.step hb3; have r3 := r2.step hb3; have hk3 := hk2.trans (Kept.of hb3))
        | (refine wpList_load_K _ rfl rfl w2.heap.size _ _ _ _ _ rfl t3 ?_)
        | (refine wpList_store_K _ _ rfl rfl w.heap.size _ rfl 3 ByteArray.empty (str x) false none 0 0 rfl rfl r3 ?_))
      refine ret_K rfl rfl rfl (setRow_K r3) ?_
      have k7 := kept_setRow w.heap.size (w2.alloc (.cells #[.int .i64 3, .string ByteArray.empty, .slice none 0 0, .bool false, .string (str x)] 56)) (kCells 3 [] (.slice none 0 0) false x)
      unfold TokPost
      rw [HZ.out]
      exact ⟨none, 0, 0, rfl, OwnsPairs.nil _ _ _, h3.other k7 hbw (Nat.le_of_lt r3.lt), hk3.more k7 (Nat.le_refl _)⟩
    · have q2 := lit_t n _ _ h2
      have HZ : Hid (z = y) := by show _ = _; rw [HD.out, h1, h2]; rfl
      clear HD h1 h2 run
      go_enter Tryz.func84, Tryz.ntmps84
      go_wp2_with fail
      generalize w.alloc (.cells kCells0 56) = W at *
      go_wp2_with (first
        | (go_at_call 120; refine (HPa.out _ h0).mono ?_; rintro e w2 ⟨rfl, h2, k2⟩; have r2 := ha0.kept k2 (by omega); have hk2 := hk0.trans k2; have hb3 : Below w2.heap.size w2 (w2.alloc (.cells #[.int .i64 3, .string ByteArray.empty, .slice none 0 0, .bool false, .string (str x)] 56)) := (Below.refl _ _).alloc (Nat.le_refl _) _; have t3 : KAt (w2.alloc (.cells #[.int .i64 3, .string ByteArray.empty, .slice none 0 0, .bool false, .string (str x)] 56)) w2.heap.size (kCells 3 [] (.slice none 0 0) false x) := heap_new w2 _; have h3 := h2.step hb3; have r3 := r2.step hb3; have hk3 := hk2.trans (Kept.of hb3); have c4 : (w2.alloc (.cells #[.int .i64 3, .string ByteArray.empty, .slice none 0 0, .bool false, .string (str x)] 56)).cell? ⟨w2.heap.size, 4, none⟩ = some (.string (str x)) := Lib.cell_of_heap t3 4))
      generalize (w2.alloc (.cells #[.int .i64 3, .string ByteArray.empty, .slice none 0 0, .bool false, .string (str x)] 56)) = W3 at *
      have hT2 := k2.size
      have hT3 := ha0.lt
      generalize w2.heap.size = T at *
      clear h0 hk0 ha0 h2 k2 r2 hk2 HPa hb3
      go_at_call 121
      refine (HDe.out _ h3.env.1).mono ?_
      rintro e w4 ⟨rfl, hb4⟩
      have h4 := h3.step hb4
      have r4 := r3.step hb4
      have t4 := t3.step hb4
      have hk4 := hk3.trans (Kept.of hb4)
      have cc4 : w4.cell? ⟨T, 4, none⟩ = some (.string (str x)) := Lib.cell_of_heap t4 4
      have ff4 : w4.frozen? ⟨T, 4, none⟩ = false := Lib.frozen_of_heap t4 4
      have k5 : Kept T w4 (w4.setCell ⟨T, 4, none⟩ (.string (str y))) := Kept.set T 4 w4 _
      have t5 : KAt (w4.setCell ⟨T, 4, none⟩ (.string (str y))) T (kCells 3 [] (.slice none 0 0) false y) := Go.Joins.block_setCell t4 _
      have r5 := r4.kept k5 (by omega)
      have h5 := h4.other k5 (by omega) (Nat.le_of_lt t4.lt)
      have hk5 := hk4.more k5 (by omega)
      clear h3 r3 t3 hk3 c4 hb4
      go_wp2_with (first
        | (refine wpList_load_K _ rfl rfl T _ _ _ _ _ rfl t5 ?_)
        | (refine wpList_store_K _ _ rfl rfl w.heap.size _ rfl 3 ByteArray.empty (str y) false none 0 0 rfl rfl r5 ?_))
      refine ret_K rfl rfl rfl (setRow_K r5) ?_
      have k7 := kept_setRow w.heap.size (w4.setCell ⟨T, 4, none⟩ (.string (str y))) (kCells 3 [] (.slice none 0 0) false y)
      unfold TokPost
      rw [HZ.out]
      exact ⟨none, 0, 0, rfl, OwnsPairs.nil _ _ _, h5.other k7 hbw (Nat.le_of_lt r5.lt), hk5.more k7 (Nat.le_refl _)⟩
  · have q1 := lit_t n _ _ h1
    have HZ : Hid (z = y) := by show _ = _; rw [HD.out, h1]; rfl
    clear HD h1 run
    go_enter Tryz.func84, Tryz.ntmps84
    go_wp2_with fail
    generalize w.alloc (.cells kCells0 56) = W at *
    go_wp2_with (first
      | (go_at_call 120; refine (HPa.out _ h0).mono ?_; rintro e w2 ⟨rfl, h2, k2⟩; have r2 := ha0.kept k2 (by omega); have hk2 := hk0.trans k2; have hb3 : Below w2.heap.size w2 (w2.alloc (.cells #[.int .i64 3, .string ByteArray.empty, .slice none 0 0, .bool false, .string (str x)] 56)) := (Below.refl _ _).alloc (Nat.le_refl _) _; have t3 : KAt (w2.alloc (.cells #[.int .i64 3, .string ByteArray.empty, .slice none 0 0, .bool false, .string (str x)] 56)) w2.heap.size (kCells 3 [] (.slice none 0 0) false x) := heap_new w2 _; have h3 := h2.step hb3; have r3 := r2.step hb3; have hk3 := hk2.trans (Kept.of hb3); have c4 : (w2.alloc (.cells #[.int .i64 3, .string ByteArray.empty, .slice none 0 0, .bool false, .string (str x)] 56)).cell? ⟨w2.heap.size, 4, none⟩ = some (.string (str x)) := Lib.cell_of_heap t3 4))
    generalize (w2.alloc (.cells #[.int .i64 3, .string ByteArray.empty, .slice none 0 0, .bool false, .string (str x)] 56)) = W3 at *
    have hT2 := k2.size
    have hT3 := ha0.lt
    generalize w2.heap.size = T at *
    clear h0 hk0 ha0 h2 k2 r2 hk2 HPa hb3
    go_at_call 121
    refine (HDe.out _ h3.env.1).mono ?_
    rintro e w4 ⟨rfl, hb4⟩
    have h4 := h3.step hb4
    have r4 := r3.step hb4
    have t4 := t3.step hb4
    have hk4 := hk3.trans (Kept.of hb4)
    have cc4 : w4.cell? ⟨T, 4, none⟩ = some (.string (str x)) := Lib.cell_of_heap t4 4
    have ff4 : w4.frozen? ⟨T, 4, none⟩ = false := Lib.frozen_of_heap t4 4
    have k5 : Kept T w4 (w4.setCell ⟨T, 4, none⟩ (.string (str y))) := Kept.set T 4 w4 _
    have t5 : KAt (w4.setCell ⟨T, 4, none⟩ (.string (str y))) T (kCells 3 [] (.slice none 0 0) false y) := Go.Joins.block_setCell t4 _
    have r5 := r4.kept k5 (by omega)
    have h5 := h4.other k5 (by omega) (Nat.le_of_lt t4.lt)
    have hk5 := hk4.more k5 (by omega)
    clear h3 r3 t3 hk3 c4 hb4
    go_wp2_with (first
      | (refine wpList_load_K _ rfl rfl T _ _ _ _ _ rfl t5 ?_)
      | (refine wpList_store_K _ _ rfl rfl w.heap.size _ rfl 3 ByteArray.empty (str y) false none 0 0 rfl rfl r5 ?_))
    refine ret_K rfl rfl rfl (setRow_K r5) ?_
    have k7 := kept_setRow w.heap.size (w4.setCell ⟨T, 4, none⟩ (.string (str y))) (kCells 3 [] (.slice none 0 0) false y)
    unfold TokPost
    rw [HZ.out]
    exact ⟨none, 0, 0, rfl, OwnsPairs.nil _ _ _, h5.other k7 hbw (Nat.le_of_lt r5.lt), hk5.more k7 (Nat.le_refl _)⟩
theorem fd_index2 (m : List UInt8) (hm : m ≠ []) : ∀ l : List UInt8, (Lib.index l m = -1 ∧ Tk.fd m l = l.length) ∨ (Lib.index l m = (Tk.fd m l : Int) ∧ ∃ r, l.drop (Tk.fd m l) = m ++ r)
  | [] => by
    left
    cases m with
    | nil => exact absurd rfl hm
    | cons a m => exact ⟨rfl, rfl⟩
  | c :: t => by
    rw [Lib.index, Tk.fd]
    cases hp : m.isPrefixOf (c :: t)
    · simp only [Bool.false_eq_true, if_false]
      rcases fd_index2 m hm t with ⟨h1, h2⟩ | ⟨h, r, hr⟩
      · left
        rw [h1]
        exact ⟨rfl, by rw [h2]; rfl⟩
      · right
        have hq : ((Tk.fd m t : Int) == -1) = false := by rw [beq_eq_false_iff_ne]; omega
        rw [h, hq]
        exact ⟨by simp, r, hr⟩
    · right
      obtain ⟨r, hr⟩ := List.isPrefixOf_iff_prefix.1 hp
      exact ⟨rfl, r, hr.symm⟩
/-- A round of ownSize. -/
theorem own_step (n s : List UInt8) (k : Nat) (hk : k ≤ s.length) (h : Tk.ends n s = k + Tk.ends n (s.drop k)) :
    (Lib.index (s.drop k) [60, 47] = -1 ∧ Tk.ends n s = s.length) ∨ ∃ j : Nat, Lib.index (s.drop k) [60, 47] = (j : Int) ∧ k + j + 2 ≤ s.length ∧ (endOf n (s.drop (k + j + 2)) = true → Tk.ends n s = k + j) ∧ (endOf n (s.drop (k + j + 2)) = false → Tk.ends n s = (k + j + 2) + Tk.ends n (s.drop (k + j + 2))) := by
  have hf := ends_fd n (s.drop k)
  rcases fd_index2 [60, 47] (by simp) (s.drop k) with ⟨h1, h2⟩ | ⟨h1, r, hr⟩
  · left
    refine ⟨h1, ?_⟩
    rw [h, hf, h2, List.drop_length, List.length_drop]
    show k + (s.length - k + 0) = s.length
    omega
  · right
    generalize Tk.fd [60, 47] (s.drop k) = j at *
    have hl := congrArg List.length hr
    rw [List.length_append, List.length_drop, List.length_drop] at hl
    have hl2 : ([60, 47] : List UInt8).length = 2 := rfl
    have hd : s.drop (k + j + 2) = r := by
      have : ((s.drop k).drop j).drop 2 = r := by rw [hr]; rfl
      rwa [List.drop_drop, List.drop_drop] at this
    refine ⟨j, h1, by omega, ?_, ?_⟩
    · intro he
      rw [hd] at he
      rw [h, hf, hr]
      show k + (j + Tk.ends n (60 :: 47 :: r)) = k + j
      rw [ends_here n r he]
      omega
    · intro he
      rw [hd] at he ⊢
      rw [h, hf, hr]
      show k + (j + Tk.ends n (60 :: 47 :: r)) = _
      rw [ends_on n r he]
      omega
set_option maxHeartbeats 1000000 in
theorem ownSize_any (n s : List UInt8) (w : World) (hE : EnvT w) (hl : Asc.lower n = n) (hn : n ≠ []) (hzn : n.length ≤ 1000000) (hz : s.length ≤ 1000000) :
    Calls Tryz.prog 83 #[.string (str n), .string (str s)] w fun e w' => e = .returned (.int .i64 (Tk.ends n s)) ∧ Below w.heap.size w w' := by
  have hne : ((str n).toList.isEmpty) = false := by
    rw [str_list]
    cases n with
    | nil => exact absurd rfl hn
    | cons c t => rfl
  have hsz := str_size s
  have HEn := hideT hE
  have HL := hideT hl
  clear hn hE hl
  go_enter Tryz.func83, Tryz.ntmps83
  go_wp2
  go_loopw [5] (fun i wr => ∃ k : Nat, k ≤ s.length ∧ i = .int .i64 k ∧ Hid (Tk.ends n s = k + Tk.ends n (s.drop k)) ∧ Below w.heap.size w wr) (fun i _ => s.length - (intOf i).toNat)
  case atStart => exact ⟨0, Nat.zero_le _, rfl, by show _ = _; rw [List.drop_zero]; omega, Below.refl _ _⟩
  case round =>
    obtain ⟨k, hk, rfl, HE, hB⟩ := hrel
    have he : (str s).extract k s.length = str (s.drop k) := str_from s k
    have hI := Index_l (s.drop k) [60, 47] wr (HEn.out.below hB) (by rw [List.length_drop]; omega)
    rcases own_step n s k hk HE.out with ⟨h1, h2⟩ | ⟨j, h1, hj, h2, h3⟩
    · rw [h1] at hI
      have HN := hideT h2
      clear h1 h2 HE
      go_wp2_with (go_at_call 118; (try rw [he]); refine hI.mono ?_; rintro e w1 ⟨rfl, hw⟩; rw [hw]; clear hw)
      go_ret
      exact ⟨by rw [HN.out]; rfl, hB⟩
    · rw [h1] at hI
      clear h1 HE
      have he2 : (str s).extract (k + j + 2) s.length = str (s.drop (k + j + 2)) := str_from s _
      have hEn := isEndOf_any n (s.drop (k + j + 2)) wr HL.out (by rw [List.length_drop]; omega) (by omega)
      cases hx : endOf n (s.drop (k + j + 2))
      · have HN := hideT (h3 hx)
        rw [hx] at hEn
        clear h2 h3 hx
        go_wp2_with (first
          | (go_at_call 118; (try rw [he]); refine hI.mono ?_; rintro e w1 ⟨rfl, hw⟩; rw [hw]; clear hw)
          | (go_at_call 119; (try rw [he2]); refine hEn.mono ?_; rintro e w2 ⟨rfl, hb2⟩))
        go_roundw
        case rel => exact ⟨k + j + 2, hj, by go_num, HN, bel hB hb2⟩
        case measure => simp [intOf]; omega
      · have HN := hideT (h2 hx)
        rw [hx] at hEn
        clear h2 h3 hx
        go_wp2_with (first
          | (go_at_call 118; (try rw [he]); refine hI.mono ?_; rintro e w1 ⟨rfl, hw⟩; rw [hw]; clear hw)
          | (go_at_call 119; (try rw [he2]); refine hEn.mono ?_; rintro e w2 ⟨rfl, hb2⟩))
        go_ret
        exact ⟨by rw [HN.out]; go_num, bel hB hb2⟩
theorem ownSize_none (s : List UInt8) (w : World) :
    Calls Tryz.prog 83 #[.string (str []), .string (str s)] w fun e w' => e = .returned (.int .i64 (0 : Nat)) ∧ w' = w := by
  have hne : ((str ([] : List UInt8)).toList.isEmpty) = true := by rw [str_list]; rfl
  go_enter Tryz.func83, Tryz.ntmps83
  go_wp2
  go_ret
  exact ⟨rfl, rfl⟩
end Go.Proofs.YtiodaahncadodaaGreatDoor
