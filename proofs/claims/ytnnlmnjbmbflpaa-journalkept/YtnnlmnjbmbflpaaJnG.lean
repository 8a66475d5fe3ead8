/- A journal in memory; the contract of Open. -/
import Derived.Test.YtnnlmnjbmbflpaaJnF
import Derived.OwnWalk
set_option linter.unusedVariables false
set_option linter.unusedSimpArgs false
namespace Go.Proofs.Ytnnlmnjbmbflpaa
open Go.RowKit
namespace Jn
theorem act_same {d : Dk.D} {f q : Int} {does : Dk.D → Dk.D} (hd : (does d).on = d.on ∧ (does d).root = d.root) (h : (d.act f q does).1 = 0) : (d.act f q does).2.on = d.on ∧ (d.act f q does).2.root = d.root := by
  unfold Dk.D.act at *
  split
  · rename_i h1
    rw [if_pos h1] at h
    exact absurd h h1
  · rename_i h1
    rw [if_neg h1] at h
    split
    · rename_i h2
      rw [if_pos h2] at h
      exact absurd h h2
    · rename_i h2
      rw [if_neg h2] at h
      split
      · rename_i h3
        rw [if_pos h3] at h
        cases h
      · exact hd
theorem put_two (d : Dk.D) (f : Int) (c : Dk.Cn) : (d.put f c).on = d.on ∧ (d.put f c).root = d.root := by unfold Dk.D.put; split <;> exact ⟨rfl, rfl⟩
theorem sync_same {d : Dk.D} {f : Int} (h : (d.sync f).1 = 0) : (d.sync f).2.on = d.on ∧ (d.sync f).2.root = d.root := act_same (put_two _ _ _) h
theorem trunc_same {d : Dk.D} {f n : Int} (h : (d.trunc f n).1 = 0) : (d.trunc f n).2.on = d.on ∧ (d.trunc f n).2.root = d.root := act_same (put_two _ _ _) h
theorem append_same {d : Dk.D} {f : Int} {l : List UInt8} (h : (d.append f l).1 = 0) : (d.append f l).2.on = d.on ∧ (d.append f l).2.root = d.root := act_same (put_two _ _ _) h
theorem cut_same {d : Dk.D} {f n : Int} (h : (cut d f n).1 = 0) : (cut d f n).2.on = d.on ∧ (cut d f n).2.root = d.root := by
  unfold cut at *
  split
  · rename_i h1
    rw [if_pos h1] at h
    exact absurd h h1
  · rename_i h1
    rw [if_neg h1] at h
    have h2 := trunc_same (d := d) (f := f) (n := n) (Classical.not_not.1 h1)
    have h3 := sync_same h
    exact ⟨h3.1.trans h2.1, h3.2.trans h2.2⟩
theorem write_same {d : Dk.D} {f : Int} {l : List UInt8} (h : (write d f l).1 = 0) : (write d f l).2.on = d.on ∧ (write d f l).2.root = d.root := by
  unfold write at *
  split
  · rename_i h1
    rw [if_pos h1] at h
    exact absurd h h1
  · rename_i h1
    rw [if_neg h1] at h
    have h2 := append_same (d := d) (f := f) (l := l) (Classical.not_not.1 h1)
    have h3 := sync_same h
    exact ⟨h3.1.trans h2.1, h3.2.trans h2.2⟩
theorem mend_same {d : Dk.D} {f : Int} (h : (mend d f).1 = 0) : (mend d f).2.on = d.on ∧ (mend d f).2.root = d.root := by
  unfold mend at *
  split
  · exact ⟨rfl, rfl⟩
  · rename_i h1
    rw [if_neg h1] at h
    exact cut_same h
end Jn
/-- A journal's block. -/
structure JAt (w : World) (jb b : Nat) (g : Value) (l : List UInt8) (n : Nat) : Prop where
  blk : w.heap[jb]? = some (.cells #[ptr b 0, g, .int .i64 (n : Int)] 86 (0, 0))
  own : OwnsBytes w 0 g l
  ap : g.ownBlock ≠ some jb
theorem JAt.lt {w : World} {jb b n : Nat} {g : Value} {l : List UInt8} (h : JAt w jb b g l n) : jb < w.heap.size := (Array.getElem?_eq_some_iff.1 h.blk).1
theorem JAt.cell {w : World} {jb b n : Nat} {g : Value} {l : List UInt8} (h : JAt w jb b g l n) (i : Nat) : w.cell? ⟨jb, i, none⟩ = (#[ptr b 0, g, .int .i64 (n : Int)] : Array Value)[i]? := Lib.cell_of_heap h.blk i
theorem JAt.free {w : World} {jb b n : Nat} {g : Value} {l : List UInt8} (h : JAt w jb b g l n) (i : Nat) : w.frozen? ⟨jb, i, none⟩ = false := Lib.frozen_of_heap h.blk i
theorem JAt.keep {w w' : World} {jb b n : Nat} {g : Value} {l : List UInt8} (h : JAt w jb b g l n) (hk : ∀ k, k < w.heap.size → k = jb ∨ g.ownBlock = some k → w'.heap[k]? = w.heap[k]?) : JAt w' jb b g l n :=
  ⟨(hk jb h.lt (.inl rfl)).trans h.blk, h.own.keep (fun k e hl => hk k hl (.inr e)), h.ap⟩
theorem JAt.below {w w' : World} {jb b n : Nat} {g : Value} {l : List UInt8} (h : JAt w jb b g l n) (hB : Below w.heap.size w w') : JAt w' jb b g l n := h.keep (fun k hk _ => hB.block k hk)
theorem JAt.new (w : World) (b : Nat) : JAt (w.alloc (.cells #[ptr b 0, .slice none 0 0, .int .i64 0] 86)) w.heap.size b (.slice none 0 0) [] 0 := ⟨heap_new w _, OwnsBytes.nil _ _, fun h => by cases h⟩
set_option maxHeartbeats 2000000 in
set_option maxRecDepth 100000 in
theorem Open_nil {w : World} {v : Value} (h : Made w v false) :
    Calls Try.prog 23 #[v] w fun e w' => e = .returned (.tuple #[.pointer none, .slice none 0 0, .int .i64 2]) ∧ w' = w := by
  have H := Root_no h
  have hv : ∃ p, v = .pointer p := by
    rcases h with ⟨rfl, _⟩ | ⟨b, rfl, _⟩
    · exact ⟨_, rfl⟩
    · exact ⟨_, rfl⟩
  obtain ⟨p, rfl⟩ := hv
  clear h
  go_enter Try.func23, Try.ntmps23
  go_wp2_with (go_at_call 19; refine H.mono ?_; rintro e w1 ⟨rfl, he⟩; replace he := he.symm; subst he)
  go_ret3
  exact ⟨rfl, rfl⟩
set_option maxHeartbeats 2000000 in
set_option maxRecDepth 100000 in
theorem Open_off {w : World} {T : Nat → Prop} {b : Nat} {d : Dk.D} (h : DskE w T b d) (hon : d.on = false) :
    Calls Try.prog 23 #[ptr b 0] w fun e w' => e = .returned (.tuple #[.pointer none, .slice none 0 0, .int .i64 12]) ∧ w' = w := by
  have H := h.root
  rw [hon] at H
  simp only [Bool.false_eq_true, if_false] at H
  clear h hon
  go_enter Try.func23, Try.ntmps23
  go_wp2_with (go_at_call 19; refine H.mono ?_; rintro e w1 ⟨rfl, he⟩; replace he := he.symm; subst he)
  go_ret3
  exact ⟨rfl, rfl⟩
theorem open_end {w w3 : World} {T T' : Nat → Prop} {b : Nat} {d' : Dk.D} {rs : List (List UInt8)} {u : Value} (hD : Dp w T T' b d' w3) (hR : Rs (fun k => T' k ∨ k < w.heap.size) w3 u rs) : ∃ T' jb u', Ending.returned (.tuple #[.pointer (some ⟨w3.heap.size, 0, none⟩), u, .int .i64 0]) = .returned (.tuple #[ptr jb 0, u', .int .i64 0]) ∧ Dp w T T' b d' (w3.alloc (.cells #[ptr b 0, .slice none 0 0, .int .i64 0] 86)) ∧ JAt (w3.alloc (.cells #[ptr b 0, .slice none 0 0, .int .i64 0] 86)) jb b (.slice none 0 0) [] 0 ∧ ¬ T' jb ∧ w.heap.size ≤ jb ∧ Rs (fun k => (T' k ∨ k = jb) ∨ k < w.heap.size) (w3.alloc (.cells #[ptr b 0, .slice none 0 0, .int .i64 0] 86)) u' rs := by
  refine ⟨T', w3.heap.size, u, rfl, hD.behind (alloc1 _ _), JAt.new w3 b, fun hx => ?_, hD.own.size, ?_⟩
  · have := hD.dsk.low _ hx
    omega
  · exact hR.own (fun k hk => hk.elim (fun h => h.elim (fun h => .inl (.inl h)) (fun e => .inr (by omega))) (fun h => .inl (.inr h))) (Own.of (alloc1 _ _))
set_option maxHeartbeats 2000000 in
set_option maxRecDepth 100000 in
theorem Open_yes {w : World} {T : Nat → Prop} {b : Nat} {d : Dk.D} (h : DskE w T b d) (hon : d.on = true) {d' : Dk.D} (e : Hid (Jn.opens d = (0, d'))) {rs : List (List UInt8)} (hr : Hid (Jn.recs d d.root = rs)) :
    Calls Try.prog 23 #[ptr b 0] w fun e w' => ∃ T' jb u, e = .returned (.tuple #[ptr jb 0, u, .int .i64 0]) ∧ Dp w T T' b d' w' ∧ JAt w' jb b (.slice none 0 0) [] 0 ∧ ¬ T' jb ∧ w.heap.size ≤ jb ∧ Rs (fun k => (T' k ∨ k = jb) ∨ k < w.heap.size) w' u rs := by
  have H := h.root
  rw [hon] at H
  simp only [if_true] at H
  have e' := e.out
  unfold Jn.opens at e'
  rw [if_neg (by simp [hon])] at e'
  have hm := mend_any h d.root h.fine.root hon (r := Jn.mend d d.root) (by exact (rfl : _ = _)) hr
  have hsame := Jn.mend_same (d := d) (f := d.root)
  generalize Jn.mend d d.root = r1 at *
  obtain ⟨c1, d1⟩ := r1
  dsimp only at *
  by_cases hc : c1 = 0
  · subst hc
    rw [if_neg (by simp)] at e'
    have hon1 : d1.on = true := by rw [(hsame rfl).1]; exact hon
    have E := hide9 e'
    have HF := hide9 (h.fine.root)
    clear e e' hsame hr h
    have hroot := HF.out
    generalize d.root = rt at *
    clear hon HF
    rcases hroot with rfl | rfl
    · have E1 : Hid (Jn.empty d1 1 = (0, d')) := E
      go_enter Try.func23, Try.ntmps23
      go_wp2_with (first
        | (go_at_call 19; refine H.mono ?_; rintro e w1 ⟨rfl, he⟩; replace he := he.symm; subst he)
        | (go_at_call 56; refine hm.mono ?_; rintro e w2 ⟨u, T2, rfl, hD2, hR⟩; have hR2 := hide9 (hR (by first | rfl | trivial)); obtain ⟨ua, uc, rfl⟩ := hR2.out.form; have H3 := empty_any hD2.dsk 1 (.inr rfl) hon1 E1; clear hR)
        | (go_at_call 57; refine H3.mono ?_; rintro e w3 ⟨T3, rfl, hD3⟩; clear H3 H hm))
      go_ret3
      exact open_end (hD2.trans hD3) (hR2.out.dp9 hD3)
    · have E1 : Hid (Jn.empty d1 0 = (0, d')) := E
      go_enter Try.func23, Try.ntmps23
      go_wp2_with (first
        | (go_at_call 19; refine H.mono ?_; rintro e w1 ⟨rfl, he⟩; replace he := he.symm; subst he)
        | (go_at_call 56; refine hm.mono ?_; rintro e w2 ⟨u, T2, rfl, hD2, hR⟩; have hR2 := hide9 (hR (by first | rfl | trivial)); obtain ⟨ua, uc, rfl⟩ := hR2.out.form; have H3 := empty_any hD2.dsk 0 (.inl rfl) hon1 E1; clear hR)
        | (go_at_call 57; refine H3.mono ?_; rintro e w3 ⟨T3, rfl, hD3⟩; clear H3 H hm))
      go_ret3
      exact open_end (hD2.trans hD3) (hR2.out.dp9 hD3)
  · rw [if_pos hc] at e'
    cases e'
    exact absurd rfl hc
set_option maxHeartbeats 2000000 in
set_option maxRecDepth 100000 in
theorem Open_err {w : World} {T : Nat → Prop} {b : Nat} {d : Dk.D} (h : DskE w T b d) (hon : d.on = true) {c : Int} {d' : Dk.D} (e : Hid (Jn.opens d = (c, d'))) (hc9 : c ≠ 0) :
    Calls Try.prog 23 #[ptr b 0] w fun e w' => ∃ T', e = .returned (.tuple #[.pointer none, .slice none 0 0, .int .i64 c]) ∧ Dp w T T' b d' w' := by
  have H := h.root
  rw [hon] at H
  simp only [if_true] at H
  have e' := e.out
  unfold Jn.opens at e'
  rw [if_neg (by simp [hon])] at e'
  have hm := mend_any h d.root h.fine.root hon (r := Jn.mend d d.root) (by exact (rfl : _ = _)) (rs := Jn.recs d d.root) (by exact (rfl : _ = _))
  have hsame := Jn.mend_same (d := d) (f := d.root)
  have hcb : (c == 0) = false := by simpa using hc9
  generalize Jn.mend d d.root = r1 at *
  generalize Jn.recs d d.root = rs at *
  obtain ⟨c1, d1⟩ := r1
  dsimp only at *
  have hroot := h.fine.root
  by_cases hc : c1 = 0
  · subst hc
    rw [if_neg (by simp)] at e'
    have hon1 : d1.on = true := by rw [(hsame rfl).1]; exact hon
    have E := hide9 e'
    clear e e' hsame h
    generalize d.root = rt at *
    clear hon
    rcases hroot with rfl | rfl
    · have E1 : Hid (Jn.empty d1 1 = (c, d')) := E
      go_enter Try.func23, Try.ntmps23
      go_wp2_with (first
        | (go_at_call 19; refine H.mono ?_; rintro e w1 ⟨rfl, he⟩; replace he := he.symm; subst he)
        | (go_at_call 56; refine hm.mono ?_; rintro e w2 ⟨u, T2, rfl, hD2, hR⟩; have H3 := empty_any hD2.dsk 1 (.inr rfl) hon1 E1; clear hR)
        | (go_at_call 57; refine H3.mono ?_; rintro e w3 ⟨T3, rfl, hD3⟩; clear H3 H hm))
      go_ret3
      exact ⟨T3, rfl, hD2.trans hD3⟩
    · have E1 : Hid (Jn.empty d1 0 = (c, d')) := E
      go_enter Try.func23, Try.ntmps23
      go_wp2_with (first
        | (go_at_call 19; refine H.mono ?_; rintro e w1 ⟨rfl, he⟩; replace he := he.symm; subst he)
        | (go_at_call 56; refine hm.mono ?_; rintro e w2 ⟨u, T2, rfl, hD2, hR⟩; have H3 := empty_any hD2.dsk 0 (.inl rfl) hon1 E1; clear hR)
        | (go_at_call 57; refine H3.mono ?_; rintro e w3 ⟨T3, rfl, hD3⟩; clear H3 H hm))
      go_ret3
      exact ⟨T3, rfl, hD2.trans hD3⟩
  · rw [if_pos hc] at e'
    cases e'
    clear e hsame h
    generalize d.root = rt at *
    clear hon
    go_enter Try.func23, Try.ntmps23
    go_wp2_with (first
      | (go_at_call 19; refine H.mono ?_; rintro e w1 ⟨rfl, he⟩; replace he := he.symm; subst he)
      | (go_at_call 56; refine hm.mono ?_; rintro e w2 ⟨u, T2, rfl, hD2, hR⟩; clear hR))
    go_ret3
    exact ⟨T2, rfl, hD2⟩
end Go.Proofs.Ytnnlmnjbmbflpaa
