/- Texts laid as one. -/
import Derived.Test.YtmmpbjpeiclacaaGreatDoorKZU
import Derived.BigQuiet
import Derived.Test.YtmmpbjpeiclacaaGreatDoorKYU
/- The contracts of the document's parser, at the text of a number alone. -/
set_option linter.unusedVariables false
set_option linter.unusedSimpArgs false
namespace Jsn
theorem exp_numC (c : UInt8) : isExp c = true → numC c = true := by revert c; apply byte_all; decide +kernel
theorem num_blank (c : UInt8) : numC c = true → (c == 9) = false ∧ (c == 10) = false ∧ (c == 13) = false ∧ (c == 32) = false ∧ (c == 34) = false := by revert c; apply byte_all; decide +kernel
/-- The bytes of a number's text. -/
theorem num_all {l : List UInt8} (h : isNum l = true) : l.all numC = true ∧ ∃ c r, l = c :: r ∧ (c = 45 ∨ dgB c = true) := by
  have h1 : numR l = ([], true) := of_decide_eq_true h
  obtain ⟨p, hp, m, i, f, e, hm, hi, hf, he, rfl⟩ := numR_shape h1
  rw [List.append_nil] at hp
  subst hp
  have d1 : ∀ d : List UInt8, d.all dgB = true → d.all numC = true := fun d hd => List.all_eq_true.2 fun c hc => (dg_sgn c (List.all_eq_true.1 hd c hc)).2.2.2.2
  have ei : i.all numC = true := by
    rcases hi with rfl | hi
    · decide
    · exact d1 i hi.1.2
  have ef : f.all numC = true := by
    rcases hf with rfl | ⟨d, rfl, hd⟩
    · rfl
    · rw [List.all_cons, d1 d hd.2]; decide
  have ee : e.all numC = true := by
    rcases he with rfl | ⟨c, s, d, hc, hs, hd, rfl⟩
    · rfl
    · rw [List.all_cons, List.all_append, d1 d hd.2]
      have hcn : numC c = true := exp_numC c hc
      rw [hcn]
      rcases hs with rfl | rfl | rfl <;> decide
  refine ⟨?_, ?_⟩
  · rw [List.all_append, List.all_append, List.all_append, ei, ef, ee]
    rcases hm with rfl | rfl <;> decide
  · rcases hm with rfl | rfl
    · rcases hi with rfl | hi
      · exact ⟨48, f ++ e, rfl, .inr (by decide)⟩
      · obtain ⟨⟨hne, ha⟩, _⟩ := hi
        cases i with
        | nil => exact absurd rfl hne
        | cons c r => exact ⟨c, r ++ (f ++ e), rfl, .inr (by rw [List.all_cons, Bool.and_eq_true] at ha; exact ha.1)⟩
    · exact ⟨45, i ++ (f ++ e), rfl, .inl rfl⟩
end Jsn
namespace Go.Proofs.YtmmpbjpeiclacaaGreatDoor
open Go.RowKit
set_option maxHeartbeats 4000000 in
set_option maxRecDepth 100000 in
theorem Rnum_any (c : UInt8) (w : World) :
    Calls Tryz.prog 77 #[.int .u8 c.toNat] w fun e w' => e = .returned (.bool (Jsn.numC c)) ∧ w' = w := by
  have hI := hideN (RIsDigit_j c w)
  have b1 : ((c.toNat : Int) == 45) = (c == 45) := byte_eq c 45 (by omega)
  have b2 : ((c.toNat : Int) == 43) = (c == 43) := byte_eq c 43 (by omega)
  have b3 : ((c.toNat : Int) == 46) = (c == 46) := byte_eq c 46 (by omega)
  have b4 : ((c.toNat : Int) == 101) = (c == 101) := byte_eq c 101 (by omega)
  have b5 : ((c.toNat : Int) == 69) = (c == 69) := byte_eq c 69 (by omega)
  have HN : Hid (Jsn.numC c = (Jsn.dgB c || c == 45 || c == 43 || c == 46 || c == 101 || c == 69)) := rfl
  rw [HN.out]
  clear HN
  generalize Jsn.dgB c = z0 at *
  generalize (c == 45) = z1 at *
  generalize (c == 43) = z2 at *
  generalize (c == 46) = z3 at *
  generalize (c == 101) = z4 at *
  generalize (c == 69) = z5 at *
  cases z0 <;> cases z1 <;> cases z2 <;> cases z3 <;> cases z4
  all_goals
    go_enter Tryz.func77, Tryz.ntmps77
    go_wp2_with (go_at_call 54; refine hI.out.mono ?_; rintro e w2 ⟨rfl, he⟩; replace he := he.symm; subst he)
    go_ret
    exact ⟨by simp, rfl⟩
/-- The document's parser in memory, without a fault. -/
def PR (w : World) (b : Nat) (s : List UInt8) (at_ many : Nat) : Prop := w.heap[b]? = some (.cells #[.string (str s), .int .i64 at_, .int .i64 many, .int .i64 0, .int .i64 0] 73 (0, 0))
theorem PR.lt {w : World} {b : Nat} {s : List UInt8} {a m : Nat} (h : PR w b s a m) : b < w.heap.size := (Array.getElem?_eq_some_iff.1 h).1
theorem PR.cell {w : World} {b : Nat} {s : List UInt8} {a m : Nat} (h : PR w b s a m) (i : Nat) : w.cell? ⟨b, i, none⟩ = #[.string (str s), .int .i64 a, .int .i64 m, .int .i64 0, .int .i64 0][i]? := Lib.cell_of_heap h i
theorem PR.free {w : World} {b : Nat} {s : List UInt8} {a m : Nat} (h : PR w b s a m) (i : Nat) : w.frozen? ⟨b, i, none⟩ = false := Lib.frozen_of_heap h i
theorem PR.below {w w' : World} {b : Nat} {s : List UInt8} {a m : Nat} (h : PR w b s a m) (hB : Below w.heap.size w w') : PR w' b s a m := (hB.block b h.lt).trans h
theorem PR.at_ {w : World} {b : Nat} {s : List UInt8} {a m : Nat} (h : PR w b s a m) (n : Nat) : PR (w.setCell ⟨b, 1, none⟩ (.int .i64 (n : Int))) b s n m := Go.Joins.block_setCell h _
theorem PR.many {w : World} {b : Nat} {s : List UInt8} {a m : Nat} (h : PR w b s a m) (n : Nat) : PR (w.setCell ⟨b, 2, none⟩ (.int .i64 (n : Int))) b s a n := Go.Joins.block_setCell h _
set_option maxHeartbeats 4000000 in
set_option maxRecDepth 100000 in
theorem Rnext_num (s : List UInt8) (b a m : Nat) (w : World) (hP : PR w b s a m) (ha : a < s.length) (hs : s.length ≤ 100000) (hc : Jsn.numC s[a] = true) :
    Calls Tryz.prog 52 #[.pointer (some ⟨b, 0, none⟩)] w fun e w' => e = .returned (.int .u8 (s[a].toNat : Int)) ∧ ∃ n, w' = w.drewN n := by
  have hsz := str_size s
  obtain ⟨n1, n2, n3, n4, _⟩ := Jsn.num_blank _ hc
  have b1 : ((s[a].toNat : Int) == 9) = (s[a] == 9) := byte_eq _ 9 (by omega)
  have b2 : ((s[a].toNat : Int) == 10) = (s[a] == 10) := byte_eq _ 10 (by omega)
  have b3 : ((s[a].toNat : Int) == 13) = (s[a] == 13) := byte_eq _ 13 (by omega)
  have b4 : ((s[a].toNat : Int) == 32) = (s[a] == 32) := byte_eq _ 32 (by omega)
  rw [n1] at b1
  rw [n2] at b2
  rw [n3] at b3
  rw [n4] at b4
  have hat : ((str s)[a]'(by rw [str_size]; exact ha)) = s[a] := rfl
  have q0 : w.cell? ⟨b, 0, none⟩ = some (.string (str s)) := hP.cell 0
  have q1 : w.cell? ⟨b, 1, none⟩ = some (.int .i64 a) := hP.cell 1
  have ha' : (a : Int) < (s.length : Int) := by omega
  clear n1 n2 n3 n4 hc
  generalize s[a] = c at *
  go_enter Tryz.func52, Tryz.ntmps52
  go_wp2_with fail
  go_loopw [60] (fun x wr => ∃ n, wr = w.drewN n) (fun _ _ => 0)
  case atStart => exact ⟨0, rfl⟩
  case round =>
    obtain ⟨n, rfl⟩ := hrel
    go_wp2_with fail
    go_quiet (fail)
    go_wp2_with fail
    go_quiet (fail)
    go_wp2_with fail
    go_quiet (fail)
    go_wp2_with fail
    go_ret
    exact ⟨rfl, _, by simp only [World.drewN_drewN]; rfl⟩
set_option maxHeartbeats 4000000 in
set_option maxRecDepth 100000 in
theorem Rrun_num (s : List UInt8) (b m : Nat) (w : World) (hP : PR w b s 0 m) (hs : s.length ≤ 100000) (hc : s.all Jsn.numC = true) :
    Calls Tryz.prog 55 #[.pointer (some ⟨b, 0, none⟩), .bool true] w fun e w' => e = .returned (.string (str s)) ∧ PR w' b s s.length m ∧ Kept b w w' := by
  have hsz := str_size s
  have q1 : w.cell? ⟨b, 1, none⟩ = some (.int .i64 ((0 : Nat) : Int)) := hP.cell 1
  have HC := hideN hc
  clear hc
  go_enter Tryz.func55, Tryz.ntmps55
  go_wp2_with fail
  go_loopw [50] (fun x wr => ∃ n : Nat, n ≤ s.length ∧ PR wr b s n m ∧ Kept b w wr) (fun _ wr => s.length - ((wr.cell? ⟨b, 1, none⟩).elim 0 fun v => (intOf v).toNat))
  case atStart => exact ⟨0, Nat.zero_le _, hP, Kept.refl _ _⟩
  case round =>
    obtain ⟨n, hn, hP2, hK⟩ := hrel
    have q0 : wr.cell? ⟨b, 0, none⟩ = some (.string (str s)) := hP2.cell 0
    have q1 : wr.cell? ⟨b, 1, none⟩ = some (.int .i64 n) := hP2.cell 1
    by_cases hlt : n < s.length
    · have hlt' : (n : Int) < (s.length : Int) := by omega
      have hat : ((str s)[n]'(by rw [str_size]; exact hlt)) = s[n] := rfl
      have CN := hideN (fun W => Rnum_any s[n] W)
      have hcn := List.all_eq_true.1 HC.out _ (List.getElem_mem hlt)
      rw [hcn] at CN
      clear hcn
      generalize s[n] = c at *
      go_wp2_with fail
      go_quiet ((go_at_call 77; exact Calls.quiet_of_same (CN.out _)))
      have hD := below_drewN nq (Below.refl wr.heap.size wr)
      have hP3 := hP2.below hD
      have hK3 := hK.trans (Kept.of hD)
      have HNX : Hid ((wr.cell? ⟨b, 1, none⟩).elim 0 (fun v => (intOf v).toNat) = n) := by show _ = _; rw [q1]; rfl
      clear q0 q1 hD
      generalize wr.drewN nq = wd at *
      have r1 : wd.cell? ⟨b, 1, none⟩ = some (.int .i64 n) := hP3.cell 1
      have f1 := hP3.free 1
      have hP4 := hP3.at_ (n + 1)
      rw [show ((n + 1 : Nat) : Int) = (n : Int) + 1 by omega] at hP4
      go_wp2_with fail
      have hq : (wd.setCell ⟨b, 1, none⟩ (.int .i64 ((n : Int) + 1))).cell? ⟨b, 1, none⟩ = some (.int .i64 ((n : Int) + 1)) := by
        have := Lib.cell_of_heap hP4 1
        exact this
      refine ⟨⟨n + 1, by omega, ?_, hK3.trans (Kept.set b 1 wd _)⟩, ?_⟩
      · unfold PR at hP4 ⊢
        rw [show ((n + 1 : Nat) : Int) = (n : Int) + 1 by omega]
        exact hP4
      · rw [HNX.out, hq]
        show s.length - ((n : Int) + 1).toNat < _
        omega
    · have hlt' : ¬ (n : Int) < (s.length : Int) := by omega
      have hlb : decide ((n : Int) < (s.length : Int)) = false := decide_eq_false hlt'
      obtain hnl : n = s.length := by omega
      have hfull : (str s).extract 0 s.length = str s := by have := str_to s s.length; rwa [List.take_length] at this
      subst hnl
      clear hlt'
      go_wp2_with fail
      go_quiet (fail)
      have hP3 := hP2.below (below_drewN nq (Below.refl wr.heap.size wr))
      have hK3 := hK.trans (Kept.of (below_drewN nq (Below.refl wr.heap.size wr)))
      clear q0 q1
      generalize wr.drewN nq = wd at *
      have q0 : wd.cell? ⟨b, 0, none⟩ = some (.string (str s)) := hP3.cell 0
      have q1 : wd.cell? ⟨b, 1, none⟩ = some (.int .i64 s.length) := hP3.cell 1
      go_wp2_with fail
      go_quiet (fail)
      have hP5 := hP3.below (below_drewN nq (Below.refl wd.heap.size wd))
      have hK5 := hK3.trans (Kept.of (below_drewN nq (Below.refl wd.heap.size wd)))
      go_wp2_with fail
      go_ret
      exact ⟨rfl, hP5, hK5⟩
end Go.Proofs.YtmmpbjpeiclacaaGreatDoor
/- The contracts of the document's value and Parse, at the text of a number alone. -/
set_option linter.unusedVariables false
set_option linter.unusedSimpArgs false
namespace Go.Proofs.YtmmpbjpeiclacaaGreatDoor
open Go.RowKit
theorem kept_row {b c : Nat} {w w' : World} {cs : Array Value} (h : Kept b w w') (hc : w.heap.size ≤ c) : Kept b w (w'.setRow c cs) :=
  ⟨h.os, h.tape, h.output, by rw [setRow_len]; exact h.size, fun k hk hne => (setRow_other cs (by omega)).trans (h.block k hk hne)⟩
set_option maxHeartbeats 8000000 in
set_option maxRecDepth 100000 in
theorem Rvalue_num (s : List UInt8) (b : Nat) (w : World) (hP : PR w b s 0 0) (hs : s.length ≤ 100000) (hn : Jsn.isNum s = true) :
    Calls Tryz.prog 37 #[.pointer (some ⟨b, 0, none⟩), .int .i64 0] w fun e w' => e = .returned (vv (.int .i64 3) (.string (str s)) (.slice none 0 0) (.slice none 0 0)) ∧ PR w' b s s.length 1 ∧ Kept b w w' := by
  obtain ⟨hall, c, r, rfl, hc0⟩ := Jsn.num_all hn
  have hcn : Jsn.numC c = true := by rw [List.all_cons, Bool.and_eq_true] at hall; exact hall.1
  have CX := hideN (fun W h => Rnext_num (c :: r) b 0 0 W h (by simp) hs hcn)
  have CR := hideN (fun W m h => Rrun_num (c :: r) b m W h hs hall)
  have CN := hideN (fun W => RNumber_any (c :: r) W (by omega))
  rw [hn] at CN
  have CD := hideN (fun W => RIsDigit_j c W)
  have b34 : ((c.toNat : Int) == 34) = (c == 34) := byte_eq c 34 (by omega)
  rw [(Jsn.num_blank c hcn).2.2.2.2] at b34
  have b45 : ((c.toNat : Int) == 45) = (c == 45) := byte_eq c 45 (by omega)
  have hB0 : Below w.heap.size w (w.alloc (.cells #[.int .i64 0, .string ⟨#[]⟩, .slice none 0 0, .slice none 0 0] 27)) := (Below.refl _ w).alloc (Nat.le_refl _) _
  have hV0 : VAt (w.alloc (.cells #[.int .i64 0, .string ⟨#[]⟩, .slice none 0 0, .slice none 0 0] 27)) w.heap.size (.int .i64 0) (.string ⟨#[]⟩) (.slice none 0 0) (.slice none 0 0) := val_new w _
  have hP0 := hP.below hB0
  have hbl := hP.lt
  have HC0 := hideN hc0
  have hXv : (((c :: r)[0]'(by simp)).toNat : Int) = (c.toNat : Int) := rfl
  clear hn hall hcn hP hc0
  go_enter Tryz.func37, Tryz.ntmps37
  go_upto_region 1 with fail
  generalize w.alloc (.cells #[.int .i64 0, .string ⟨#[]⟩, .slice none 0 0, .slice none 0 0] 27) = w1 at *
  go_upto_region 2 with (go_at_call 52; refine (CX.out w1 hP0).mono ?_; rintro e w2 ⟨rfl, n2, rfl⟩)
  have hP1 := hP0.below (below_drewN n2 (Below.refl w1.heap.size w1))
  have hV1 := VAtb hV0 (below_drewN n2 (Below.refl w1.heap.size w1))
  have hB1 := bel hB0 (below_drewN n2 (Below.refl w1.heap.size w1))
  clear hP0 hV0 hB0 CX
  generalize w1.drewN n2 = w3 at *
  have q1 : w3.cell? ⟨b, 1, none⟩ = some (.int .i64 0) := hP1.cell 1
  have q2 : w3.cell? ⟨b, 2, none⟩ = some (.int .i64 0) := hP1.cell 2
  have q3 : w3.cell? ⟨b, 3, none⟩ = some (.int .i64 0) := hP1.cell 3
  have f2 := hP1.free 2
  have hP2 : PR (w3.setCell ⟨b, 2, none⟩ (.int .i64 1)) b (c :: r) 0 1 := hP1.many 1
  have hV2 : VAt (w3.setCell ⟨b, 2, none⟩ (.int .i64 1)) w.heap.size (.int .i64 0) (.string ⟨#[]⟩) (.slice none 0 0) (.slice none 0 0) := VAt.keep hV1 (Below.heap_setCell w3 ⟨b, 2, none⟩ (.int .i64 1) w.heap.size (show w.heap.size ≠ b by omega))
  have hK2 : Kept b w (w3.setCell ⟨b, 2, none⟩ (.int .i64 1)) := (Kept.of hB1).trans (Kept.set b 2 w3 _)
  have hC1 : (((0 : Int) : Int) + 1) = 1 := rfl
  go_upto_region 6 with fail
  clear q1 q2 q3 f2 hV1 hB1 hP1
  generalize w3.setCell ⟨b, 2, none⟩ (.int .i64 1) = w4 at *
  have q2 : w4.cell? ⟨b, 2, none⟩ = some (.int .i64 1) := hP2.cell 2
  by_cases h45 : c = 45
  · have b45' : ((c.toNat : Int) == 45) = true := by rw [b45, h45]; rfl
    clear b45 HC0 CD h45
    go_wp2_with (first
      | (go_at_call 55; refine (CR.out w4 1 hP2).mono ?_; rintro e w5 ⟨rfl, hP5, hK5⟩; have hV5 := VAt.keep hV2 (hK5.block w.heap.size hV2.lt (show w.heap.size ≠ b by omega)))
      | (go_at_call 56; refine (CN.out w5).mono ?_; rintro e w6 ⟨rfl, he⟩; replace he := he.symm; subst he)
      | ((with_reducible show wpList _ _ _ ({ op := Op.store 27 _ _, .. } :: _) _ _); refine wpList_store_V _ _ rfl rfl _ _ _ _ _ rfl rfl hV5 (ones_mk _ _ _ _ _ _ _ _) ?_))
    refine ret_V rfl rfl rfl (setRow_V hV5 _ _ _ _) ⟨rfl, ?_, ?_⟩
    · exact (setRow_other _ (show b ≠ w.heap.size by omega)).trans hP5
    · exact kept_row (hK2.trans hK5) (Nat.le_refl _)
  · have b45' : ((c.toNat : Int) == 45) = false := by rw [b45]; simpa using h45
    have hdg : Jsn.dgB c = true := by
      rcases HC0.out with h | h
      · exact absurd h h45
      · exact h
    rw [hdg] at CD
    clear b45 HC0 h45 hdg
    go_wp2_with (first
      | (go_at_call 54; refine (CD.out w4).mono ?_; rintro e w6 ⟨rfl, he⟩; replace he := he.symm; subst he)
      | (go_at_call 55; refine (CR.out w4 1 hP2).mono ?_; rintro e w5 ⟨rfl, hP5, hK5⟩; have hV5 := VAt.keep hV2 (hK5.block w.heap.size hV2.lt (show w.heap.size ≠ b by omega)))
      | (go_at_call 56; refine (CN.out w5).mono ?_; rintro e w6 ⟨rfl, he⟩; replace he := he.symm; subst he)
      | ((with_reducible show wpList _ _ _ ({ op := Op.store 27 _ _, .. } :: _) _ _); refine wpList_store_V _ _ rfl rfl _ _ _ _ _ rfl rfl hV5 (ones_mk _ _ _ _ _ _ _ _) ?_))
    refine ret_V rfl rfl rfl (setRow_V hV5 _ _ _ _) ⟨rfl, ?_, ?_⟩
    · exact (setRow_other _ (show b ≠ w.heap.size by omega)).trans hP5
    · exact kept_row (hK2.trans hK5) (Nat.le_refl _)
set_option maxHeartbeats 8000000 in
set_option maxRecDepth 100000 in
theorem RParse_num (s : List UInt8) (w : World) (hs : s.length ≤ 1000) (hn : Jsn.isNum s = true) (hu : Utf.isText s = true) :
    Calls Tryz.prog 15 #[.string (str s)] w fun e w' => e = .returned (.tuple #[vv (.int .i64 3) (.string (str s)) (.slice none 0 0) (.slice none 0 0), fv 0 0]) ∧ Below w.heap.size w w' := by
  have CI := hideN (fun W => RIsText_any s W (by omega))
  rw [hu] at CI
  have CV := hideN (fun W b (h : PR W b s 0 0) => Rvalue_num s b W h (by omega) hn)
  have hsz := str_size s
  clear hn hu
  have hB1 : Below w.heap.size w ((w.alloc (.cells #[.int .i64 0, .string ⟨#[]⟩, .slice none 0 0, .slice none 0 0] 27)).alloc (.cells #[.int .i64 0, .int .i64 0] 41)) := ((Below.refl _ w).alloc (Nat.le_refl _) _).alloc (by simp) _
  have hV1 : VAt ((w.alloc (.cells #[.int .i64 0, .string ⟨#[]⟩, .slice none 0 0, .slice none 0 0] 27)).alloc (.cells #[.int .i64 0, .int .i64 0] 41)) w.heap.size (.int .i64 0) (.string ⟨#[]⟩) (.slice none 0 0) (.slice none 0 0) := VAtb (val_new w _) ((Below.refl _ _).alloc (Nat.le_refl _) _)
  have hF1 : FAt ((w.alloc (.cells #[.int .i64 0, .string ⟨#[]⟩, .slice none 0 0, .slice none 0 0] 27)).alloc (.cells #[.int .i64 0, .int .i64 0] 41)) (w.heap.size + 1) 0 0 := by
    have := val_new (w.alloc (.cells #[.int .i64 0, .string ⟨#[]⟩, .slice none 0 0, .slice none 0 0] 27)) (.cells #[.int .i64 0, .int .i64 0] 41)
    rw [show (w.alloc (.cells #[.int .i64 0, .string ⟨#[]⟩, .slice none 0 0, .slice none 0 0] 27)).heap.size = w.heap.size + 1 by simp] at this
    exact this
  have hz1 : ((w.alloc (.cells #[.int .i64 0, .string ⟨#[]⟩, .slice none 0 0, .slice none 0 0] 27)).alloc (.cells #[.int .i64 0, .int .i64 0] 41)).heap.size = w.heap.size + 2 := by simp
  go_enter Tryz.func15, Tryz.ntmps15
  go_upto_region 1 with fail
  generalize (w.alloc (.cells #[.int .i64 0, .string ⟨#[]⟩, .slice none 0 0, .slice none 0 0] 27)).alloc (.cells #[.int .i64 0, .int .i64 0] 41) = w1 at *
  go_upto_region 5 with (go_at_call 36; refine (CI.out w1).mono ?_; rintro e w2 ⟨rfl, n2, rfl⟩)
  have hD := below_drewN n2 (Below.refl w1.heap.size w1)
  have hB2 := bel hB1 hD
  have hV2 := VAtb hV1 hD
  have hF2 := FAt.keep hF1 (hD.block _ hF1.lt)
  have hz2 : w.heap.size + 2 ≤ (w1.drewN n2).heap.size := by have := hD.size; omega
  clear hB1 hV1 hF1 hz1 hD CI
  generalize w1.drewN n2 = w3 at *
  have hP4 : PR (w3.alloc (.cells #[.string (str s), .int .i64 0, .int .i64 0, .int .i64 0, .int .i64 0] 73)) w3.heap.size s 0 0 := val_new w3 _
  go_upto_region 6 with fail
  have hB4 : Below w3.heap.size w3 (w3.alloc (.cells #[.string (str s), .int .i64 0, .int .i64 0, .int .i64 0, .int .i64 0] 73)) := (Below.refl _ _).alloc (Nat.le_refl _) _
  have hV4 := VAtb hV2 hB4
  have hF4 := FAt.keep hF2 (hB4.block _ hF2.lt)
  have hB4' := bel hB2 hB4
  clear hV2 hF2 hB4
  generalize w3.alloc (.cells #[.string (str s), .int .i64 0, .int .i64 0, .int .i64 0, .int .i64 0] 73) = w4 at *
  have hb4 : w.heap.size + 2 ≤ w3.heap.size := hz2
  generalize w3.heap.size = b4 at *
  go_upto_region 7 with (go_at_call 37; refine (CV.out w4 b4 hP4).mono ?_; rintro e w5 ⟨rfl, hP5, hK5⟩)
  have hV5 := VAt.keep hV4 (hK5.block _ hV4.lt (by omega))
  have hF5 := FAt.keep hF4 (hK5.block _ hF4.lt (by omega))
  have hB5 : Below w.heap.size w w5 := hB4'.trans (hK5.below w.heap.size (by omega) (by have := hB4'.size; omega))
  have hB6 : Below w5.heap.size w5 (w5.alloc (.cells #[.int .i64 3, .string (str s), .slice none 0 0, .slice none 0 0] 27)) := (Below.refl _ _).alloc (Nat.le_refl _) _
  have hX6 : VAt (w5.alloc (.cells #[.int .i64 3, .string (str s), .slice none 0 0, .slice none 0 0] 27)) w5.heap.size (.int .i64 3) (.string (str s)) (.slice none 0 0) (.slice none 0 0) := val_new w5 _
  have hV6 := VAtb hV5 hB6
  have hF6 := FAt.keep hF5 (hB6.block _ hF5.lt)
  have hP6 := hP5.below hB6
  have hB6' := bel hB5 hB6
  have hx5 : w.heap.size + 2 ≤ w5.heap.size := by have := hF5.lt; omega
  clear hV4 hF4 hB4' hP4 hK5 hV5 hF5 hB5 hP5 CV
  generalize w5.alloc (.cells #[.int .i64 3, .string (str s), .slice none 0 0, .slice none 0 0] 27) = w6 at *
  generalize w5.heap.size = b5 at *
  have hV7 : VAt (w6.setRow w.heap.size #[.int .i64 3, .string (str s), .slice none 0 0, .slice none 0 0]) w.heap.size (.int .i64 3) (.string (str s)) (.slice none 0 0) (.slice none 0 0) := setRow_V hV6 _ _ _ _
  have hF7 : FAt (w6.setRow w.heap.size #[.int .i64 3, .string (str s), .slice none 0 0, .slice none 0 0]) (w.heap.size + 1) 0 0 := FAt.keep hF6 (setRow_other _ (by omega))
  have hB7 : Below w.heap.size w (w6.setRow w.heap.size #[.int .i64 3, .string (str s), .slice none 0 0, .slice none 0 0]) :=
    ⟨hB6'.os, hB6'.tape, hB6'.output, by rw [setRow_len]; exact hB6'.size, fun k hk => (setRow_other _ (by omega)).trans (hB6'.block k hk)⟩
  have p1 : w6.cell? ⟨b4, 1, none⟩ = some (.int .i64 s.length) := hP6.cell 1
  have p3 : w6.cell? ⟨b4, 3, none⟩ = some (.int .i64 0) := hP6.cell 3
  go_loopw [29] (fun _ wr => w6 = wr) (fun _ _ => 0)
  case atStart => exact rfl
  case round =>
    obtain rfl := hrel
    go_wp2_with (first
      | ((with_reducible show wpList _ _ _ ({ op := Op.load 27 _, .. } :: _) _ _); refine wpList_load_V _ rfl rfl _ _ _ _ _ rfl hX6 ?_)
      | ((with_reducible show wpList _ _ _ ({ op := Op.store 27 _ _, .. } :: _) _ _); refine wpList_store_V _ _ rfl rfl _ _ _ _ _ rfl rfl hV6 (ones_mk _ _ _ _ _ _ _ _) ?_; generalize w6.setRow w.heap.size #[.int .i64 3, .string (str s), .slice none 0 0, .slice none 0 0] = w7 at *; have g0 : w7.cell? ⟨w.heap.size + 1, 0, none⟩ = some (.int .i64 0) := hF7.cell 0; have g1 : w7.cell? ⟨w.heap.size + 1, 1, none⟩ = some (.int .i64 0) := hF7.cell 1; have e0 := hF7.free 0; have e1 := hF7.free 1))
    have hV8 : VAt ((w7.setCell ⟨w.heap.size + 1, 0, none⟩ (.int .i64 0)).setCell ⟨w.heap.size + 1, 1, none⟩ (.int .i64 0)) w.heap.size (.int .i64 3) (.string (str s)) (.slice none 0 0) (.slice none 0 0) := VAt.keep (VAt.keep hV7 (Below.heap_setCell _ _ _ _ (show w.heap.size ≠ w.heap.size + 1 by omega))) (Below.heap_setCell _ _ _ _ (show w.heap.size ≠ w.heap.size + 1 by omega))
    have hF8 : FAt ((w7.setCell ⟨w.heap.size + 1, 0, none⟩ (.int .i64 0)).setCell ⟨w.heap.size + 1, 1, none⟩ (.int .i64 0)) (w.heap.size + 1) 0 0 := Go.Joins.block_setCell (Go.Joins.block_setCell hF7 _) _
    refine bodyPost_ret (v := .tuple #[vv (.int .i64 3) (.string (str s)) (.slice none 0 0) (.slice none 0 0), fv 0 0]) (results_vf rfl rfl rfl hV8 hF8) rfl ⟨rfl, ?_⟩
    exact (hB7.setCell (p := ⟨w.heap.size + 1, 0, none⟩) (by simp) _).setCell (p := ⟨w.heap.size + 1, 1, none⟩) (by simp) _
end Go.Proofs.YtmmpbjpeiclacaaGreatDoor
