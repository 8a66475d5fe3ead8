/- The contracts of fits and Add. -/
import Derived.Test.YtnnlmnjbmbflpaaJnH
set_option linter.unusedVariables false
set_option linter.unusedSimpArgs false
namespace Go.Proofs.Ytnnlmnjbmbflpaa
open Go.RowKit
theorem all_take (rs : List (List UInt8)) (j : Nat) (h : j < rs.length) (ha : Jn.All (rs.take j)) (hr : Jn.isRec rs[j]) : Jn.All (rs.take (j + 1)) := by
  rw [List.take_succ_eq_append_getElem h]
  intro r hm
  rcases List.mem_append.1 hm with hm | hm
  · exact ha r hm
  · simp at hm
    rw [hm]
    exact hr
theorem frames_most (rs : List (List UInt8)) (h : Jn.All rs) : (Jn.frames rs).length ≤ 16392 * rs.length := by
  induction rs with
  | nil => simp [Jn.frames]
  | cons r rs ih =>
    rw [Jn.frames_cons, List.length_append, Jn.frame_length, List.length_cons]
    have := ih (fun q hq => h q (by simp [hq]))
    have := (h r (by simp)).2
    omega
set_option maxHeartbeats 2000000 in
set_option maxRecDepth 100000 in
theorem fits_any {w : World} {D : Nat → Prop} {jb b n : Nat} {d : Dk.D} {g : Value} {l : List UInt8} (h : Jk w D jb b d g l n) (hl : l.length ≤ 1000000000) {rv : Value} {xs : List Value} {rs : List (List UInt8)} (hr : RBx w rv xs rs) (hz : ∀ r ∈ rs, r.length ≤ maxLen) (hn : rs.length ≤ 1000000) {q : Int} (hq : Hid (Jn.fits d l.length rs = q)) :
    Calls Try.prog 68 #[ptr jb 0, rv] w fun e w' => e = .returned (.int .i64 q) ∧ Below w.heap.size w w' := by
  have c0 := h.j.c0
  have c1 := h.j.c1
  have H2 := h.dsk.left
  have hlb : -3000000 ≤ d.left ∧ d.left ≤ 1048576 := by
    have := h.dsk.fine
    unfold Dk.D.left
    have h1 := this.a.now
    have h2 := this.b.now
    have h3 := this.room
    have h4 := this.least
    omega
  obtain ⟨a, c, rfl⟩ := h.j.own.form
  obtain ⟨ra, rc, rfl⟩ := hr.form
  have HR := hide9 hr
  have hlen := hr.len
  have hqe := hq.out
  unfold Jn.fits at hqe
  have HQ := hide9 hqe
  generalize d.left = lf at *
  clear h hr hq hqe
  go_enter Try.func68, Try.ntmps68
  go_wp2
  go_loopw [5, 15] (fun x i wr => ∃ (j m : Nat), j ≤ rs.length ∧ i = .int .i64 j ∧ x = .int .i64 m ∧ Hid (m = l.length + (Jn.frames (rs.take j)).length) ∧ Hid (Jn.All (rs.take j)) ∧ w = wr) (fun _ i _ => rs.length - (intOf i).toNat)
  case atStart => exact ⟨0, l.length, Nat.zero_le _, rfl, rfl, (rfl : l.length = l.length + (Jn.frames []).length), (fun r hm => by simp at hm : Jn.All (rs.take 0)), rfl⟩
  case round =>
    obtain ⟨j, m, hj, rfl, rfl, HM, HA, rfl⟩ := hrel
    have hm : m ≤ 1000000000 + 16392 * 1000000 := by
      rw [HM.out]
      have := frames_most _ HA.out
      have : (rs.take j).length ≤ rs.length := by simp; omega
      omega
    by_cases hlt : j < rs.length
    · have hxl : j < xs.length := by omega
      have hxj : xs[j]? = some xs[j] := List.getElem?_eq_getElem hxl
      have hrj : rs[j]? = some rs[j] := List.getElem?_eq_getElem hlt
      obtain ⟨_, hc, b2, o, rfl, hcell⟩ := HR.out.at hxj
      have hb := HR.out.each j _ _ hxj hrj
      obtain ⟨ya, yc, hye⟩ := hb.form
      rw [hye] at hcell
      have hzj := hz _ (List.getElem_mem hlt)
      unfold maxLen at hzj
      have C2 := isRecord_any (rs[j].length : Int)
      by_cases hrec : Jn.isRec rs[j]
      · have HA2 := hide9 (all_take rs j hlt HA.out hrec)
        have HM2 : Hid (m + (8 + rs[j].length) = l.length + (Jn.frames (rs.take (j + 1))).length) := by
          show m + (8 + rs[j].length) = _
          rw [frames_take rs j hlt, List.length_append, Jn.frame_length, HM.out]
          omega
        have hrec2 := hrec.2
        rw [show (decide (1 ≤ (rs[j].length : Int)) && decide ((rs[j].length : Int) ≤ 16384)) = true by unfold Jn.isRec at hrec; simp; omega] at C2
        generalize rs[j].length = rl at *
        replace C2 := hide9 C2
        clear hrec hb hye hxj hrj
        go_wp2_with (go_at_call 63; refine (C2.out _).mono ?_; rintro e w3 ⟨rfl, he⟩; replace he := he.symm; subst he)
        exact ⟨⟨j + 1, m + (8 + rl), by omega, by go_num, by go_num, HM2, HA2, trivial⟩, by simp [intOf]; omega⟩
      · have HE : Hid (q = 1) := by
          have hx := HQ.out
          rw [if_neg (fun hx => hrec ((Jn.all_iff rs).1 hx _ (List.getElem_mem hlt)))] at hx
          exact hx.symm
        rw [show (decide (1 ≤ (rs[j].length : Int)) && decide ((rs[j].length : Int) ≤ 16384)) = false by unfold Jn.isRec at hrec; simp; omega] at C2
        generalize rs[j].length = rl at *
        replace C2 := hide9 C2
        clear hrec hb hye hxj hrj
        go_wp2_with (go_at_call 63; refine (C2.out _).mono ?_; rintro e w3 ⟨rfl, he⟩; replace he := he.symm; subst he)
        go_ret
        rw [HE.out]
        exact ⟨rfl, Below.refl _ _⟩
    · have hjl : rs.take j = rs := List.take_of_length_le (by omega)
      rw [hjl] at HM HA
      have hx := HQ.out
      rw [if_pos ((Jn.all_iff rs).2 HA.out)] at hx
      rw [show (l.length : Int) + ((Jn.frames rs).length : Int) = (m : Int) by rw [HM.out]; omega] at hx
      by_cases hf : lf < (m : Int)
      · rw [if_pos hf] at hx
        subst hx
        go_wp2_with (go_at_call 17; refine H2.mono ?_; rintro e w3 ⟨rfl, hB⟩)
        go_ret
        exact ⟨rfl, hB⟩
      · rw [if_neg hf] at hx
        subst hx
        go_wp2_with (go_at_call 17; refine H2.mono ?_; rintro e w3 ⟨rfl, hB⟩)
        go_ret
        exact ⟨rfl, hB⟩
set_option maxHeartbeats 2000000 in
set_option maxRecDepth 100000 in
theorem Add_no {w : World} {D : Nat → Prop} {jb b n : Nat} {d : Dk.D} {g : Value} {l : List UInt8} (h : Jk w D jb b d g l n) (hl : l.length ≤ 1000000000) {rv : Value} {xs : List Value} {rs : List (List UInt8)} (hr : RBx w rv xs rs) (hz : ∀ r ∈ rs, r.length ≤ maxLen) (hn : rs.length ≤ 1000000) {q : Int} (hq : Hid (Jn.fits d l.length rs = q)) (hq0 : q ≠ 0) :
    Calls Try.prog 40 #[ptr jb 0, rv] w fun e w' => e = .returned (.int .i64 q) ∧ Below w.heap.size w w' := by
  have H := isMadeJ_any h.j.made
  have H2 := fits_any h hl hr hz hn hq
  obtain ⟨ra, rc, rfl⟩ := hr.form
  have hqb : (q == 0) = false := by simpa using hq0
  clear h hr hz hq
  go_enter Try.func40, Try.ntmps40
  go_wp2_with (first
    | (go_at_call 61; refine H.mono ?_; rintro e w2 ⟨rfl, he⟩; replace he := he.symm; subst he)
    | (go_at_call 68; refine H2.mono ?_; rintro e w3 ⟨rfl, hB⟩))
  go_ret
  exact ⟨rfl, hB⟩
theorem jat_set {w : World} {jb b n n' : Nat} {g g' : Value} {l' : List UInt8} (h : w.heap[jb]? = some (.cells #[ptr b 0, g, .int .i64 (n : Int)] 86 (0, 0))) (hg : OwnsBytes w 0 g' l') (ha : g'.ownBlock ≠ some jb) : JAt ((w.setCell ⟨jb, 1, none⟩ g').setCell ⟨jb, 2, none⟩ (.int .i64 (n' : Int))) jb b g' l' n' :=
  ⟨heap_set (heap_set h g') _, hg.keep (fun k e _ => (Below.heap_setCell _ _ _ _ (fun e2 => ha (by rw [e]; exact congrArg some e2))).trans (Below.heap_setCell _ _ _ _ (fun e2 => ha (by rw [e]; exact congrArg some e2)))), ha⟩
set_option maxHeartbeats 2000000 in
set_option maxRecDepth 100000 in
theorem Add_yes {w : World} {D : Nat → Prop} {jb b n : Nat} {d : Dk.D} {g : Value} {l : List UInt8} (h : Jk w D jb b d g l n) (hl : l.length ≤ 1000000000) (hn9 : n ≤ 1000000000) {rv : Value} {xs : List Value} {rs : List (List UInt8)} (hr : ∀ w', Own (fun k => k = jb ∨ g.ownBlock = some k) w w' → RBx w' rv xs rs) (hn : rs.length ≤ 1000000) (hz : ∀ r ∈ rs, r.length ≤ maxLen) (hq : Hid (Jn.fits d l.length rs = 0)) :
    Calls Try.prog 40 #[ptr jb 0, rv] w fun e w' => ∃ g', e = .returned (.int .i64 0) ∧ JAt w' jb b g' (l ++ Jn.frames rs) (n + rs.length) ∧ Own (fun k => k = jb ∨ g.ownBlock = some k) w w' ∧ (∀ k, g'.ownBlock = some k → g.ownBlock = some k ∨ w.heap.size ≤ k) := by
  have H := isMadeJ_any h.j.made
  have H2 := fits_any h hl (hr w (Own.refl _ _)) hz hn hq
  obtain ⟨hA, hle⟩ := Jn.fits_zero hq.out
  have hlf : d.left ≤ 1048576 := by
    have := h.dsk.fine
    unfold Dk.D.left
    have h3 := this.room
    omega
  have HJ := hide9 h.j
  obtain ⟨a, c, rfl⟩ := h.j.own.form
  obtain ⟨ra, rc, rfl⟩ := (hr w (Own.refl _ _)).form
  have HR := hide9 hr
  have HZ : Hid (∀ r ∈ rs, r.length ≤ 1000000) := fun r hm => by have := (hA r hm).2; omega
  clear h hr hz hq hA
  go_enter Try.func40, Try.ntmps40
  go_wp2_with (first
    | (go_at_call 61; refine H.mono ?_; rintro e w2 ⟨rfl, he⟩; replace he := he.symm; subst he)
    | (go_at_call 68; refine H2.mono ?_; rintro e w3 ⟨rfl, hB⟩; have HJ3 := hide9 (HJ.out.below hB); have c1 := HJ3.out.c1; have H3 := frames_any HJ3.out.own (fun w' hO => HR.out w' ((Own.of hB).trans hO (fun k hk => .inl (.inr hk)))) HZ.out (by omega); clear H2)
    | (go_at_call 64; refine H3.mono ?_; rintro e w4 ⟨g4, rfl, ho4, hg4⟩; obtain ⟨L4, a4, c4, H4, rfl, ho4⟩ := ho4.gen; have hblk := (hg4.own.block jb HJ3.out.lt HJ3.out.ap).trans HJ3.out.blk; have d2 : w4.cell? ⟨jb, 2, none⟩ = some (.int .i64 (n : Int)) := Lib.cell_of_heap hblk 2; have d1 : w4.cell? ⟨jb, 1, none⟩ = some (.slice a l.length c) := Lib.cell_of_heap hblk 1; have f1 : w4.frozen? ⟨jb, 1, none⟩ = false := Lib.frozen_of_heap hblk 1; have f2 : w4.frozen? ⟨jb, 2, none⟩ = false := Lib.frozen_of_heap hblk 2; have hap : (Value.slice a4 L4.length c4).ownBlock ≠ some jb := (fun e => (hg4.blk jb e).elim HJ3.out.ap (fun hx => by have := HJ3.out.lt; omega)); have HJ5 := hide9 (jat_set hblk ho4 hap (n' := n + rs.length)); have HG4 := hide9 hg4; replace hap := hide9 hap; clear H3 hblk hg4 ho4))
  go_ret
  have hJ := HJ5.out
  simp only [Int.natCast_add] at hJ
  have hO : Own (fun k => k = jb ∨ (Value.slice a l.length c).ownBlock = some k) w w4 := (Own.of hB).trans HG4.out.own (fun k hk => .inl (.inr hk))
  refine ⟨_, rfl, ?_, hO.trans (own_two jb w4 _ _) (fun k hk => .inl (.inl hk)), fun k hk => (HG4.out.blk k hk).elim .inl (fun hx => .inr (Nat.le_trans hB.size hx))⟩
  rw [← H4.out]
  exact hJ
end Go.Proofs.Ytnnlmnjbmbflpaa
