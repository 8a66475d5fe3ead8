/- Texts laid as one. -/
import Derived.Test.YtcjbceidgaieaaaKJnE
import Derived.OwnWalk
import Derived.Deep.RegionHeldLaw
/- The contracts of mend, empty and Open. -/
set_option linter.unusedVariables false
set_option linter.unusedSimpArgs false
namespace Go.Proofs.Ytcjbceidgaieaaa
open Go.RowKit
set_option maxHeartbeats 2000000 in
set_option maxRecDepth 100000 in
theorem mend_any {w : World} {T : Nat → Prop} {b : Nat} {d : Dk.D} (h : DskE w T b d) (f : Int) (hf : f = 0 ∨ f = 1) (hon : d.on = true) {r : Int × Dk.D} (e : Hid (Jn.mend d f = r)) {rs : List (List UInt8)} (hr : Hid (Jn.recs d f = rs)) :
    Calls Try.prog 44 #[ptr b 0, .int .i64 f] w (fun e w' => ∃ u T', e = .returned (.tuple #[u, .int .i64 r.1]) ∧ Dp w T T' b r.2 w' ∧ (r.1 = 0 → Rs (fun k => T' k ∨ k < w.heap.size) w' u rs)) := by
  obtain ⟨l, hl⟩ : ∃ l, Hid ((d.at f).now = l) := ⟨_, rfl⟩
  have hlen : l.length ≤ 1048576 := by rw [← hl.out]; exact (h.fine.at f).now
  have H1 := h.read f hf hon hl
  have e' := e.out
  unfold Jn.mend at e'
  have hrs : Jn.scan l = rs := by rw [← hl.out]; exact hr.out
  rw [hr.out, hl.out] at e'
  have HD := hide9 h
  have hss : (Jn.frames rs).length ≤ l.length := by rw [← hrs]; exact Jn.scan_size l
  have HL := hide9 h.low
  clear e hr h
  obtain ⟨S, HS⟩ : ∃ S, Hid ((Jn.frames rs).length = S) := ⟨_, rfl⟩
  rw [HS.out] at e' hss
  obtain ⟨q, dq⟩ := r
  by_cases hq : S = l.length
  · rw [if_pos hq] at e'
    cases e'
    clear hf hon
    go_enter Try.func44, Try.ntmps44
    go_wp2_with (first
      | (go_at_call 26; refine H1.mono ?_; rintro e w1 ⟨a, c, rfl, ho1, hB1⟩; have H2 := Scan_any ho1.reads (by omega); rw [hrs, HS.out] at H2; clear H1)
      | (go_at_call 32; refine H2.mono ?_; rintro e w2 ⟨u, rfl, ho2, hB2⟩))
    go_ret2
    exact ⟨_, T, rfl, (Dp.refl HD.out).behind (bel hB1 hB2), fun _ => ho2.rs (T := fun k => T k ∨ k < w.heap.size) (fun k hk => Nat.lt_of_lt_of_le (hk.elim (HL.out k) id) hB1.size)⟩
  · rw [if_neg hq] at e'
    have E := hide9 e'
    clear e' hf hon
    by_cases hc : q = 0
    · subst hc
      go_enter Try.func44, Try.ntmps44
      go_wp2_with (first
        | (go_at_call 26; refine H1.mono ?_; rintro e w1 ⟨a, c, rfl, ho1, hB1⟩; have H2 := Scan_any ho1.reads (by omega); rw [hrs, HS.out] at H2; clear H1)
        | (go_at_call 32; refine H2.mono ?_; rintro e w2 ⟨u, rfl, ho2, hB2⟩; have H3 := cut_any (HD.out.below (bel hB1 hB2)) f S E; clear H2)
        | (go_at_call 65; refine H3.mono ?_; rintro e w3 ⟨T3, rfl, hD3⟩; clear H3))
      go_ret2
      exact ⟨_, T3, rfl, Dp.ahead (bel hB1 hB2) hD3, fun _ => (ho2.rs (T := fun k => T k ∨ k < w.heap.size) (fun k hk => Nat.lt_of_lt_of_le (hk.elim (HL.out k) id) hB1.size)).dp9 hD3⟩
    · have hcb : (q == 0) = false := by simpa using hc
      go_enter Try.func44, Try.ntmps44
      go_wp2_with (first
        | (go_at_call 26; refine H1.mono ?_; rintro e w1 ⟨a, c, rfl, ho1, hB1⟩; have H2 := Scan_any ho1.reads (by omega); rw [hrs, HS.out] at H2; clear H1)
        | (go_at_call 32; refine H2.mono ?_; rintro e w2 ⟨u, rfl, ho2, hB2⟩; have H3 := cut_any (HD.out.below (bel hB1 hB2)) f S E; clear H2)
        | (go_at_call 65; refine H3.mono ?_; rintro e w3 ⟨T3, rfl, hD3⟩; clear H3))
      go_ret2
      exact ⟨_, T3, rfl, Dp.ahead (bel hB1 hB2) hD3, fun hx => absurd hx hc⟩
set_option maxHeartbeats 2000000 in
set_option maxRecDepth 100000 in
theorem empty_any {w : World} {T : Nat → Prop} {b : Nat} {d : Dk.D} (h : DskE w T b d) (f : Int) (hf : f = 0 ∨ f = 1) (hon : d.on = true) {r : Int × Dk.D} (e : Hid (Jn.empty d f = r)) :
    Calls Try.prog 45 #[ptr b 0, .int .i64 f] w (fun e w' => ∃ T', e = .returned (.int .i64 r.1) ∧ Dp w T T' b r.2 w') := by
  obtain ⟨l, hl⟩ : ∃ l, Hid ((d.at f).now = l) := ⟨_, rfl⟩
  have hlen : l.length ≤ 1048576 := by rw [← hl.out]; exact (h.fine.at f).now
  have H1 := h.read f hf hon hl
  have e' := e.out
  unfold Jn.empty at e'
  rw [hl.out] at e'
  have HD := hide9 h
  clear e h
  obtain ⟨q, dq⟩ := r
  by_cases hq : l.length = 0
  · rw [if_pos hq] at e'
    cases e'
    rw [hq] at H1
    clear hf hon
    go_enter Try.func45, Try.ntmps45
    go_wp2_with (go_at_call 26; refine H1.mono ?_; rintro e w1 ⟨a, c, rfl, ho1, hB1⟩)
    go_ret
    exact ⟨T, rfl, (Dp.refl HD.out).behind hB1⟩
  · rw [if_neg hq] at e'
    have E := hide9 e'
    clear e' hf hon
    go_enter Try.func45, Try.ntmps45
    go_wp2_with (first
      | (go_at_call 26; refine H1.mono ?_; rintro e w1 ⟨a, c, rfl, ho1, hB1⟩; have H3 := cut_any (HD.out.below hB1) f 0 E; clear H1)
      | (go_at_call 65; refine H3.mono ?_; rintro e w3 ⟨T3, rfl, hD3⟩; clear H3))
    go_ret
    exact ⟨T3, rfl, Dp.ahead hB1 hD3⟩
end Go.Proofs.Ytcjbceidgaieaaa
/- A journal in memory; the contract of Open. -/
set_option linter.unusedVariables false
set_option linter.unusedSimpArgs false
namespace Go.Proofs.Ytcjbceidgaieaaa
open Go.RowKit
namespace Jn
theorem act_same {d : Dk.D} {f q : Int} {does : Dk.D → Dk.D} (hd : (does d).on = d.on ∧ (does d).root = d.root) (h : (d.act f q does).1 = 0) : (d.act f q does).2.on = d.on ∧ (d.act f q does).2.root = d.root := by
  unfold Dk.D.act at *
  split
  · rename_i h1
    rw [if_pos h1] at h
    exact absurd h h1
  · rename_i h1
    rw [if_neg h1] at h
    split
    · rename_i h2
      rw [if_pos h2] at h
      exact absurd h h2
    · rename_i h2
      rw [if_neg h2] at h
      split
      · rename_i h3
        rw [if_pos h3] at h
        cases h
      · exact hd
theorem put_two (d : Dk.D) (f : Int) (c : Dk.Cn) : (d.put f c).on = d.on ∧ (d.put f c).root = d.root := by unfold Dk.D.put; split <;> exact ⟨rfl, rfl⟩
theorem sync_same {d : Dk.D} {f : Int} (h : (d.sync f).1 = 0) : (d.sync f).2.on = d.on ∧ (d.sync f).2.root = d.root := act_same (put_two _ _ _) h
theorem trunc_same {d : Dk.D} {f n : Int} (h : (d.trunc f n).1 = 0) : (d.trunc f n).2.on = d.on ∧ (d.trunc f n).2.root = d.root := act_same (put_two _ _ _) h
theorem append_same {d : Dk.D} {f : Int} {l : List UInt8} (h : (d.append f l).1 = 0) : (d.append f l).2.on = d.on ∧ (d.append f l).2.root = d.root := act_same (put_two _ _ _) h
theorem cut_same {d : Dk.D} {f n : Int} (h : (cut d f n).1 = 0) : (cut d f n).2.on = d.on ∧ (cut d f n).2.root = d.root := by
  unfold cut at *
  split
  · rename_i h1
    rw [if_pos h1] at h
    exact absurd h h1
  · rename_i h1
    rw [if_neg h1] at h
    have h2 := trunc_same (d := d) (f := f) (n := n) (Classical.not_not.1 h1)
    have h3 := sync_same h
    exact ⟨h3.1.trans h2.1, h3.2.trans h2.2⟩
theorem write_same {d : Dk.D} {f : Int} {l : List UInt8} (h : (write d f l).1 = 0) : (write d f l).2.on = d.on ∧ (write d f l).2.root = d.root := by
  unfold write at *
  split
  · rename_i h1
    rw [if_pos h1] at h
    exact absurd h h1
  · rename_i h1
    rw [if_neg h1] at h
    have h2 := append_same (d := d) (f := f) (l := l) (Classical.not_not.1 h1)
    have h3 := sync_same h
    exact ⟨h3.1.trans h2.1, h3.2.trans h2.2⟩
theorem mend_same {d : Dk.D} {f : Int} (h : (mend d f).1 = 0) : (mend d f).2.on = d.on ∧ (mend d f).2.root = d.root := by
  unfold mend at *
  split
  · exact ⟨rfl, rfl⟩
  · rename_i h1
    rw [if_neg h1] at h
    exact cut_same h
end Jn
/-- A journal's block. -/
structure JAt (w : World) (jb b : Nat) (g : Value) (l : List UInt8) (n : Nat) : Prop where
  blk : w.heap[jb]? = some (.cells #[ptr b 0, g, .int .i64 (n : Int)] 78 (0, 0))
  own : OwnsBytes w 0 g l
  ap : g.ownBlock ≠ some jb
theorem JAt.lt {w : World} {jb b n : Nat} {g : Value} {l : List UInt8} (h : JAt w jb b g l n) : jb < w.heap.size := (Array.getElem?_eq_some_iff.1 h.blk).1
theorem JAt.cell {w : World} {jb b n : Nat} {g : Value} {l : List UInt8} (h : JAt w jb b g l n) (i : Nat) : w.cell? ⟨jb, i, none⟩ = (#[ptr b 0, g, .int .i64 (n : Int)] : Array Value)[i]? := Lib.cell_of_heap h.blk i
theorem JAt.free {w : World} {jb b n : Nat} {g : Value} {l : List UInt8} (h : JAt w jb b g l n) (i : Nat) : w.frozen? ⟨jb, i, none⟩ = false := Lib.frozen_of_heap h.blk i
theorem JAt.keep {w w' : World} {jb b n : Nat} {g : Value} {l : List UInt8} (h : JAt w jb b g l n) (hk : ∀ k, k < w.heap.size → k = jb ∨ g.ownBlock = some k → w'.heap[k]? = w.heap[k]?) : JAt w' jb b g l n :=
  ⟨(hk jb h.lt (.inl rfl)).trans h.blk, h.own.keep (fun k e hl => hk k hl (.inr e)), h.ap⟩
theorem JAt.below {w w' : World} {jb b n : Nat} {g : Value} {l : List UInt8} (h : JAt w jb b g l n) (hB : Below w.heap.size w w') : JAt w' jb b g l n := h.keep (fun k hk _ => hB.block k hk)
theorem JAt.new (w : World) (b : Nat) : JAt (w.alloc (.cells #[ptr b 0, .slice none 0 0, .int .i64 0] 78)) w.heap.size b (.slice none 0 0) [] 0 := ⟨heap_new w _, OwnsBytes.nil _ _, fun h => by cases h⟩
set_option maxHeartbeats 2000000 in
set_option maxRecDepth 100000 in
theorem Open_nil {w : World} {v : Value} (h : Made w v false) :
    Calls Try.prog 13 #[v] w fun e w' => e = .returned (.tuple #[.pointer none, .slice none 0 0, .int .i64 2]) ∧ w' = w := by
  have H := Root_no h
  have hv : ∃ p, v = .pointer p := by
    rcases h with ⟨rfl, _⟩ | ⟨b, rfl, _⟩
    · exact ⟨_, rfl⟩
    · exact ⟨_, rfl⟩
  obtain ⟨p, rfl⟩ := hv
  clear h
  go_enter Try.func13, Try.ntmps13
  go_wp2_with (go_at_call 25; refine H.mono ?_; rintro e w1 ⟨rfl, he⟩; replace he := he.symm; subst he)
  go_ret3
  exact ⟨rfl, rfl⟩
set_option maxHeartbeats 2000000 in
set_option maxRecDepth 100000 in
theorem Open_off {w : World} {T : Nat → Prop} {b : Nat} {d : Dk.D} (h : DskE w T b d) (hon : d.on = false) :
    Calls Try.prog 13 #[ptr b 0] w fun e w' => e = .returned (.tuple #[.pointer none, .slice none 0 0, .int .i64 12]) ∧ w' = w := by
  have H := h.root
  rw [hon] at H
  simp only [Bool.false_eq_true, if_false] at H
  clear h hon
  go_enter Try.func13, Try.ntmps13
  go_wp2_with (go_at_call 25; refine H.mono ?_; rintro e w1 ⟨rfl, he⟩; replace he := he.symm; subst he)
  go_ret3
  exact ⟨rfl, rfl⟩
theorem open_end {w w3 : World} {T T' : Nat → Prop} {b : Nat} {d' : Dk.D} {rs : List (List UInt8)} {u : Value} (hD : Dp w T T' b d' w3) (hR : Rs (fun k => T' k ∨ k < w.heap.size) w3 u rs) : ∃ T' jb u', Ending.returned (.tuple #[.pointer (some ⟨w3.heap.size, 0, none⟩), u, .int .i64 0]) = .returned (.tuple #[ptr jb 0, u', .int .i64 0]) ∧ Dp w T T' b d' (w3.alloc (.cells #[ptr b 0, .slice none 0 0, .int .i64 0] 78)) ∧ JAt (w3.alloc (.cells #[ptr b 0, .slice none 0 0, .int .i64 0] 78)) jb b (.slice none 0 0) [] 0 ∧ ¬ T' jb ∧ w.heap.size ≤ jb ∧ Rs (fun k => (T' k ∨ k = jb) ∨ k < w.heap.size) (w3.alloc (.cells #[ptr b 0, .slice none 0 0, .int .i64 0] 78)) u' rs := by
  refine ⟨T', w3.heap.size, u, rfl, hD.behind (alloc1 _ _), JAt.new w3 b, fun hx => ?_, hD.own.size, ?_⟩
  · have := hD.dsk.low _ hx
    omega
  · exact hR.own (fun k hk => hk.elim (fun h => h.elim (fun h => .inl (.inl h)) (fun e => .inr (by omega))) (fun h => .inl (.inr h))) (Own.of (alloc1 _ _))
set_option maxHeartbeats 2000000 in
set_option maxRecDepth 100000 in
theorem Open_yes {w : World} {T : Nat → Prop} {b : Nat} {d : Dk.D} (h : DskE w T b d) (hon : d.on = true) {d' : Dk.D} (e : Hid (Jn.opens d = (0, d'))) {rs : List (List UInt8)} (hr : Hid (Jn.recs d d.root = rs)) :
    Calls Try.prog 13 #[ptr b 0] w fun e w' => ∃ T' jb u, e = .returned (.tuple #[ptr jb 0, u, .int .i64 0]) ∧ Dp w T T' b d' w' ∧ JAt w' jb b (.slice none 0 0) [] 0 ∧ ¬ T' jb ∧ w.heap.size ≤ jb ∧ Rs (fun k => (T' k ∨ k = jb) ∨ k < w.heap.size) w' u rs := by
  have H := h.root
  rw [hon] at H
  simp only [if_true] at H
  have e' := e.out
  unfold Jn.opens at e'
  rw [if_neg (by simp [hon])] at e'
  have hm := mend_any h d.root h.fine.root hon (r := Jn.mend d d.root) (by exact (rfl : _ = _)) hr
  have hsame := Jn.mend_same (d := d) (f := d.root)
  generalize Jn.mend d d.root = r1 at *
  obtain ⟨c1, d1⟩ := r1
  dsimp only at *
  by_cases hc : c1 = 0
  · subst hc
    rw [if_neg (by simp)] at e'
    have hon1 : d1.on = true := by rw [(hsame rfl).1]; exact hon
    have E := hide9 e'
    have HF := hide9 (h.fine.root)
    clear e e' hsame hr h
    have hroot := HF.out
    generalize d.root = rt at *
    clear hon HF
    rcases hroot with rfl | rfl
    · have E1 : Hid (Jn.empty d1 1 = (0, d')) := E
      go_enter Try.func13, Try.ntmps13
      go_wp2_with (first
        | (go_at_call 25; refine H.mono ?_; rintro e w1 ⟨rfl, he⟩; replace he := he.symm; subst he)
        | (go_at_call 44; refine hm.mono ?_; rintro e w2 ⟨u, T2, rfl, hD2, hR⟩; have hR2 := hide9 (hR (by first | rfl | trivial)); obtain ⟨ua, uc, rfl⟩ := hR2.out.form; have H3 := empty_any hD2.dsk 1 (.inr rfl) hon1 E1; clear hR)
        | (go_at_call 45; refine H3.mono ?_; rintro e w3 ⟨T3, rfl, hD3⟩; clear H3 H hm))
      go_ret3
      exact open_end (hD2.trans hD3) (hR2.out.dp9 hD3)
    · have E1 : Hid (Jn.empty d1 0 = (0, d')) := E
      go_enter Try.func13, Try.ntmps13
      go_wp2_with (first
        | (go_at_call 25; refine H.mono ?_; rintro e w1 ⟨rfl, he⟩; replace he := he.symm; subst he)
        | (go_at_call 44; refine hm.mono ?_; rintro e w2 ⟨u, T2, rfl, hD2, hR⟩; have hR2 := hide9 (hR (by first | rfl | trivial)); obtain ⟨ua, uc, rfl⟩ := hR2.out.form; have H3 := empty_any hD2.dsk 0 (.inl rfl) hon1 E1; clear hR)
        | (go_at_call 45; refine H3.mono ?_; rintro e w3 ⟨T3, rfl, hD3⟩; clear H3 H hm))
      go_ret3
      exact open_end (hD2.trans hD3) (hR2.out.dp9 hD3)
  · rw [if_pos hc] at e'
    cases e'
    exact absurd rfl hc
set_option maxHeartbeats 2000000 in
set_option maxRecDepth 100000 in
theorem Open_err {w : World} {T : Nat → Prop} {b : Nat} {d : Dk.D} (h : DskE w T b d) (hon : d.on = true) {c : Int} {d' : Dk.D} (e : Hid (Jn.opens d = (c, d'))) (hc9 : c ≠ 0) :
    Calls Try.prog 13 #[ptr b 0] w fun e w' => ∃ T', e = .returned (.tuple #[.pointer none, .slice none 0 0, .int .i64 c]) ∧ Dp w T T' b d' w' := by
  have H := h.root
  rw [hon] at H
  simp only [if_true] at H
  have e' := e.out
  unfold Jn.opens at e'
  rw [if_neg (by simp [hon])] at e'
  have hm := mend_any h d.root h.fine.root hon (r := Jn.mend d d.root) (by exact (rfl : _ = _)) (rs := Jn.recs d d.root) (by exact (rfl : _ = _))
  have hsame := Jn.mend_same (d := d) (f := d.root)
  have hcb : (c == 0) = false := by simpa using hc9
  generalize Jn.mend d d.root = r1 at *
  generalize Jn.recs d d.root = rs at *
  obtain ⟨c1, d1⟩ := r1
  dsimp only at *
  have hroot := h.fine.root
  by_cases hc : c1 = 0
  · subst hc
    rw [if_neg (by simp)] at e'
    have hon1 : d1.on = true := by rw [(hsame rfl).1]; exact hon
    have E := hide9 e'
    clear e e' hsame h
    generalize d.root = rt at *
    clear hon
    rcases hroot with rfl | rfl
    · have E1 : Hid (Jn.empty d1 1 = (c, d')) := E
      go_enter Try.func13, Try.ntmps13
      go_wp2_with (first
        | (go_at_call 25; refine H.mono ?_; rintro e w1 ⟨rfl, he⟩; replace he := he.symm; subst he)
        | (go_at_call 44; refine hm.mono ?_; rintro e w2 ⟨u, T2, rfl, hD2, hR⟩; have H3 := empty_any hD2.dsk 1 (.inr rfl) hon1 E1; clear hR)
        | (go_at_call 45; refine H3.mono ?_; rintro e w3 ⟨T3, rfl, hD3⟩; clear H3 H hm))
      go_ret3
      exact ⟨T3, rfl, hD2.trans hD3⟩
    · have E1 : Hid (Jn.empty d1 0 = (c, d')) := E
      go_enter Try.func13, Try.ntmps13
      go_wp2_with (first
        | (go_at_call 25; refine H.mono ?_; rintro e w1 ⟨rfl, he⟩; replace he := he.symm; subst he)
        | (go_at_call 44; refine hm.mono ?_; rintro e w2 ⟨u, T2, rfl, hD2, hR⟩; have H3 := empty_any hD2.dsk 0 (.inl rfl) hon1 E1; clear hR)
        | (go_at_call 45; refine H3.mono ?_; rintro e w3 ⟨T3, rfl, hD3⟩; clear H3 H hm))
      go_ret3
      exact ⟨T3, rfl, hD2.trans hD3⟩
  · rw [if_pos hc] at e'
    cases e'
    clear e hsame h
    generalize d.root = rt at *
    clear hon
    go_enter Try.func13, Try.ntmps13
    go_wp2_with (first
      | (go_at_call 25; refine H.mono ?_; rintro e w1 ⟨rfl, he⟩; replace he := he.symm; subst he)
      | (go_at_call 44; refine hm.mono ?_; rintro e w2 ⟨u, T2, rfl, hD2, hR⟩; clear hR))
    go_ret3
    exact ⟨T2, rfl, hD2⟩
end Go.Proofs.Ytcjbceidgaieaaa
/- The contracts of a journal's calls that turn no disk: isMade, Group, Left, Size, Drop, fits, Add. -/
set_option linter.unusedVariables false
set_option linter.unusedSimpArgs false
namespace Go.Proofs.Ytcjbceidgaieaaa
open Go.RowKit
namespace Jn
def isRecB (r : List UInt8) : Bool := decide (1 ≤ r.length) && decide (r.length ≤ 16384)
theorem isRecB_iff (r : List UInt8) : isRecB r = true ↔ isRec r := by unfold isRecB isRec; simp
theorem all_iff (rs : List (List UInt8)) : rs.all isRecB = true ↔ All rs := by
  rw [List.all_eq_true]
  exact ⟨fun h r hr => (isRecB_iff r).1 (h r hr), fun h r hr => (isRecB_iff r).2 (h r hr)⟩
/-- Why records can't stand behind a group of m bytes. -/
def fits (d : Dk.D) (m : Nat) (rs : List (List UInt8)) : Int := if rs.all isRecB = true then (if d.left < (m : Int) + ((frames rs).length : Int) then 11 else 0) else 1
theorem fits_zero {d : Dk.D} {m : Nat} {rs : List (List UInt8)} (h : fits d m rs = 0) : All rs ∧ (m : Int) + ((frames rs).length : Int) ≤ d.left := by
  unfold fits at h
  split at h
  · rename_i h1
    split at h
    · cases h
    · exact ⟨(all_iff rs).1 h1, by omega⟩
  · cases h
theorem fits_some (d : Dk.D) (m : Nat) (rs : List (List UInt8)) : fits d m rs = 0 ∨ fits d m rs = 1 ∨ fits d m rs = 11 := by
  unfold fits
  split
  · split
    · exact .inr (.inr rfl)
    · exact .inl rfl
  · exact .inr (.inl rfl)
end Jn
/-- Whether what a pointer points to is a journal that Open gave. -/
def JMade (w : World) (v : Value) (m : Bool) : Prop := (v = .pointer none ∧ m = false) ∨ ∃ jb p, v = .pointer (some ⟨jb, 0, none⟩) ∧ w.cell? ⟨jb, 0, none⟩ = some (.pointer p) ∧ m = p.isSome
theorem JAt.made {w : World} {jb b n : Nat} {g : Value} {l : List UInt8} (h : JAt w jb b g l n) : JMade w (ptr jb 0) true := .inr ⟨jb, _, rfl, h.cell 0, rfl⟩
theorem JMade.form {w : World} {v : Value} {m : Bool} (h : JMade w v m) : ∃ p, v = .pointer p := by
  rcases h with ⟨rfl, _⟩ | ⟨jb, p, rfl, _⟩
  · exact ⟨_, rfl⟩
  · exact ⟨_, rfl⟩
set_option maxHeartbeats 2000000 in
set_option maxRecDepth 100000 in
theorem isMadeJ_any {w : World} {v : Value} {m : Bool} (h : JMade w v m) :
    Calls Try.prog 52 #[v] w fun e w' => e = .returned (.bool m) ∧ w' = w := by
  rcases h with ⟨rfl, rfl⟩ | ⟨jb, p, rfl, h, rfl⟩
  · go_enter Try.func52, Try.ntmps52
    go_wp2
    go_ret
    exact ⟨rfl, rfl⟩
  · cases p with
    | none =>
      go_enter Try.func52, Try.ntmps52
      go_wp2
      go_ret
      exact ⟨rfl, rfl⟩
    | some p =>
      go_enter Try.func52, Try.ntmps52
      go_wp2
      go_ret
      exact ⟨rfl, rfl⟩
set_option maxHeartbeats 2000000 in
set_option maxRecDepth 100000 in
theorem GroupJ_no {w : World} {v : Value} (h : JMade w v false) :
    Calls Try.prog 19 #[v] w fun e w' => e = .returned (.int .i64 0) ∧ w' = w := by
  have H := isMadeJ_any h
  obtain ⟨p, rfl⟩ := h.form
  clear h
  go_enter Try.func19, Try.ntmps19
  go_wp2_with (go_at_call 52; refine H.mono ?_; rintro e w2 ⟨rfl, he⟩; replace he := he.symm; subst he)
  go_ret
  exact ⟨rfl, rfl⟩
set_option maxHeartbeats 2000000 in
set_option maxRecDepth 100000 in
theorem LeftJ_no {w : World} {v : Value} (h : JMade w v false) :
    Calls Try.prog 27 #[v] w fun e w' => e = .returned (.int .i64 0) ∧ w' = w := by
  have H := isMadeJ_any h
  obtain ⟨p, rfl⟩ := h.form
  clear h
  go_enter Try.func27, Try.ntmps27
  go_wp2_with (go_at_call 52; refine H.mono ?_; rintro e w2 ⟨rfl, he⟩; replace he := he.symm; subst he)
  go_ret
  exact ⟨rfl, rfl⟩
set_option maxHeartbeats 2000000 in
set_option maxRecDepth 100000 in
theorem SizeJ_no {w : World} {v : Value} (h : JMade w v false) :
    Calls Try.prog 29 #[v] w fun e w' => e = .returned (.int .i64 0) ∧ w' = w := by
  have H := isMadeJ_any h
  obtain ⟨p, rfl⟩ := h.form
  clear h
  go_enter Try.func29, Try.ntmps29
  go_wp2_with (go_at_call 52; refine H.mono ?_; rintro e w2 ⟨rfl, he⟩; replace he := he.symm; subst he)
  go_ret
  exact ⟨rfl, rfl⟩
set_option maxHeartbeats 2000000 in
set_option maxRecDepth 100000 in
theorem DropJ_no {w : World} {v : Value} (h : JMade w v false) :
    Calls Try.prog 36 #[v] w fun e w' => e = .returned (.int .i64 0) ∧ w' = w := by
  have H := isMadeJ_any h
  obtain ⟨p, rfl⟩ := h.form
  clear h
  go_enter Try.func36, Try.ntmps36
  go_wp2_with (go_at_call 52; refine H.mono ?_; rintro e w2 ⟨rfl, he⟩; replace he := he.symm; subst he)
  go_ret
  exact ⟨rfl, rfl⟩
set_option maxHeartbeats 2000000 in
set_option maxRecDepth 100000 in
theorem CommitJ_no {w : World} {v : Value} (h : JMade w v false) :
    Calls Try.prog 35 #[v] w fun e w' => e = .returned (.int .i64 2) ∧ w' = w := by
  have H := isMadeJ_any h
  obtain ⟨p, rfl⟩ := h.form
  clear h
  go_enter Try.func35, Try.ntmps35
  go_wp2_with (go_at_call 52; refine H.mono ?_; rintro e w2 ⟨rfl, he⟩; replace he := he.symm; subst he)
  go_ret
  exact ⟨rfl, rfl⟩
set_option maxHeartbeats 2000000 in
set_option maxRecDepth 100000 in
theorem AddJ_no {w : World} {v : Value} (h : JMade w v false) (y : Value) :
    Calls Try.prog 34 #[v, y] w fun e w' => e = .returned (.int .i64 2) ∧ w' = w := by
  have H := isMadeJ_any h
  obtain ⟨p, rfl⟩ := h.form
  clear h
  go_enter Try.func34, Try.ntmps34
  go_wp2_with (go_at_call 52; refine H.mono ?_; rintro e w2 ⟨rfl, he⟩; replace he := he.symm; subst he)
  go_ret
  exact ⟨rfl, rfl⟩
set_option maxHeartbeats 2000000 in
set_option maxRecDepth 100000 in
theorem SnapshotJ_no {w : World} {v : Value} (h : JMade w v false) (y : Value) :
    Calls Try.prog 37 #[v, y] w fun e w' => e = .returned (.int .i64 2) ∧ w' = w := by
  have H := isMadeJ_any h
  obtain ⟨p, rfl⟩ := h.form
  clear h
  go_enter Try.func37, Try.ntmps37
  go_wp2_with (go_at_call 52; refine H.mono ?_; rintro e w2 ⟨rfl, he⟩; replace he := he.symm; subst he)
  go_ret
  exact ⟨rfl, rfl⟩
/-- A journal and its disk. -/
structure Jk (w : World) (D : Nat → Prop) (jb b : Nat) (d : Dk.D) (g : Value) (l : List UInt8) (n : Nat) : Prop where
  dsk : DskE w D b d
  j : JAt w jb b g l n
  nj : ¬ D jb
  ng : ∀ k, g.ownBlock = some k → ¬ D k
theorem Jk.below {w w' : World} {D : Nat → Prop} {jb b : Nat} {d : Dk.D} {g : Value} {l : List UInt8} {n : Nat} (h : Jk w D jb b d g l n) (hB : Below w.heap.size w w') : Jk w' D jb b d g l n := ⟨h.dsk.below hB, h.j.below hB, h.nj, h.ng⟩
theorem JAt.c0 {w : World} {jb b n : Nat} {g : Value} {l : List UInt8} (h : JAt w jb b g l n) : w.cell? ⟨jb, 0, none⟩ = some (ptr b 0) := h.cell 0
theorem JAt.c1 {w : World} {jb b n : Nat} {g : Value} {l : List UInt8} (h : JAt w jb b g l n) : w.cell? ⟨jb, 1, none⟩ = some g := h.cell 1
theorem JAt.c2 {w : World} {jb b n : Nat} {g : Value} {l : List UInt8} (h : JAt w jb b g l n) : w.cell? ⟨jb, 2, none⟩ = some (.int .i64 (n : Int)) := h.cell 2
set_option maxHeartbeats 2000000 in
set_option maxRecDepth 100000 in
theorem Group_yes {w : World} {jb b n : Nat} {g : Value} {l : List UInt8} (h : JAt w jb b g l n) :
    Calls Try.prog 19 #[ptr jb 0] w fun e w' => e = .returned (.int .i64 (l.length : Int)) ∧ w' = w := by
  have H := isMadeJ_any h.made
  have c1 := h.c1
  obtain ⟨a, c, rfl⟩ := h.own.form
  clear h
  go_enter Try.func19, Try.ntmps19
  go_wp2_with (go_at_call 52; refine H.mono ?_; rintro e w2 ⟨rfl, he⟩; replace he := he.symm; subst he)
  go_ret
  exact ⟨rfl, rfl⟩
set_option maxHeartbeats 2000000 in
set_option maxRecDepth 100000 in
theorem LeftJ_yes {w : World} {D : Nat → Prop} {jb b n : Nat} {d : Dk.D} {g : Value} {l : List UInt8} (h : Jk w D jb b d g l n) :
    Calls Try.prog 27 #[ptr jb 0] w fun e w' => e = .returned (.int .i64 d.left) ∧ Below w.heap.size w w' := by
  have H := isMadeJ_any h.j.made
  have c0 := h.j.c0
  have H2 := h.dsk.left
  clear h
  go_enter Try.func27, Try.ntmps27
  go_wp2_with (first
    | (go_at_call 52; refine H.mono ?_; rintro e w2 ⟨rfl, he⟩; replace he := he.symm; subst he)
    | (go_at_call 43; refine H2.mono ?_; rintro e w3 ⟨rfl, hB⟩))
  go_ret
  exact ⟨rfl, hB⟩
set_option maxHeartbeats 2000000 in
set_option maxRecDepth 100000 in
theorem Size_yes {w : World} {D : Nat → Prop} {jb b n : Nat} {d : Dk.D} {g : Value} {l : List UInt8} (h : Jk w D jb b d g l n) (hon : d.on = true) {m : List UInt8} (hm : Hid ((d.at d.root).now = m)) :
    Calls Try.prog 29 #[ptr jb 0] w fun e w' => e = .returned (.int .i64 (m.length : Int)) ∧ Below w.heap.size w w' := by
  have H := isMadeJ_any h.j.made
  have c0 := h.j.c0
  have H2 := h.dsk.root
  rw [hon] at H2
  simp only [if_true] at H2
  have H3 := h.dsk.read d.root h.dsk.fine.root hon hm
  clear h hon
  generalize d.root = rt at *
  go_enter Try.func29, Try.ntmps29
  go_wp2_with (first
    | (go_at_call 52; refine H.mono ?_; rintro e w2 ⟨rfl, he⟩; replace he := he.symm; subst he)
    | (go_at_call 25; refine H2.mono ?_; rintro e w3 ⟨rfl, he⟩; replace he := he.symm; subst he)
    | (go_at_call 26; refine H3.mono ?_; rintro e w4 ⟨a, c, rfl, ho, hB⟩))
  go_ret
  exact ⟨rfl, hB⟩
set_option maxHeartbeats 2000000 in
set_option maxRecDepth 100000 in
theorem Size_off {w : World} {D : Nat → Prop} {jb b n : Nat} {d : Dk.D} {g : Value} {l : List UInt8} (h : Jk w D jb b d g l n) (hon : d.on = false) :
    Calls Try.prog 29 #[ptr jb 0] w fun e w' => e = .returned (.int .i64 0) ∧ w' = w := by
  have H := isMadeJ_any h.j.made
  have c0 := h.j.c0
  have H2 := h.dsk.root
  rw [hon] at H2
  simp only [Bool.false_eq_true, if_false] at H2
  clear h hon
  go_enter Try.func29, Try.ntmps29
  go_wp2_with (first
    | (go_at_call 52; refine H.mono ?_; rintro e w2 ⟨rfl, he⟩; replace he := he.symm; subst he)
    | (go_at_call 25; refine H2.mono ?_; rintro e w3 ⟨rfl, he⟩; replace he := he.symm; subst he))
  go_ret
  exact ⟨rfl, rfl⟩
/-- The journal's cells are written. -/
theorem JAt.set {w : World} {jb b n n' : Nat} {g g' : Value} {l l' : List UInt8} (h : JAt w jb b g l n) (hg : OwnsBytes w 0 g' l') (ha : g'.ownBlock ≠ some jb) : JAt ((w.setCell ⟨jb, 1, none⟩ g').setCell ⟨jb, 2, none⟩ (.int .i64 (n' : Int))) jb b g' l' n' :=
  ⟨heap_set (heap_set h.blk g') _, hg.keep (fun k e _ => (Below.heap_setCell _ _ _ _ (fun e2 => ha (by rw [e]; exact congrArg some e2))).trans (Below.heap_setCell _ _ _ _ (fun e2 => ha (by rw [e]; exact congrArg some e2)))), ha⟩
theorem own_two (jb : Nat) (w : World) (x y : Value) : Own (fun k => k = jb) w ((w.setCell ⟨jb, 1, none⟩ x).setCell ⟨jb, 2, none⟩ y) := (Own.set (T := fun k => k = jb) rfl w 1 x).trans (Own.set (T := fun k => k = jb) rfl _ 2 y) (fun k hk => .inl hk)
set_option maxHeartbeats 2000000 in
set_option maxRecDepth 100000 in
theorem Drop_yes {w : World} {jb b n : Nat} {g : Value} {l : List UInt8} (h : JAt w jb b g l n) :
    Calls Try.prog 36 #[ptr jb 0] w fun e w' => e = .returned (.int .i64 (n : Int)) ∧ JAt w' jb b (.slice none 0 0) [] 0 ∧ Own (fun k => k = jb) w w' := by
  have H := isMadeJ_any h.made
  have c1 := h.c1
  have c2 := h.c2
  have f1 := h.free 1
  have f2 := h.free 2
  have HJ := hide9 (h.set (g' := .slice none 0 0) (l' := []) (n' := 0) (OwnsBytes.nil _ _) (fun e => by cases e))
  obtain ⟨a, c, rfl⟩ := h.own.form
  clear h
  go_enter Try.func36, Try.ntmps36
  go_wp2_with (go_at_call 52; refine H.mono ?_; rintro e w2 ⟨rfl, he⟩; replace he := he.symm; subst he)
  go_ret
  exact ⟨rfl, HJ.out, own_two _ _ _ _⟩
end Go.Proofs.Ytcjbceidgaieaaa
/- The contracts of fits and Add. -/
set_option linter.unusedVariables false
set_option linter.unusedSimpArgs false
namespace Go.Proofs.Ytcjbceidgaieaaa
open Go.RowKit
theorem all_take (rs : List (List UInt8)) (j : Nat) (h : j < rs.length) (ha : Jn.All (rs.take j)) (hr : Jn.isRec rs[j]) : Jn.All (rs.take (j + 1)) := by
  rw [List.take_succ_eq_append_getElem h]
  intro r hm
  rcases List.mem_append.1 hm with hm | hm
  · exact ha r hm
  · simp at hm
    rw [hm]
    exact hr
theorem frames_most (rs : List (List UInt8)) (h : Jn.All rs) : (Jn.frames rs).length ≤ 16392 * rs.length := by
  induction rs with
  | nil => simp [Jn.frames]
  | cons r rs ih =>
    rw [Jn.frames_cons, List.length_append, Jn.frame_length, List.length_cons]
    have := ih (fun q hq => h q (by simp [hq]))
    have := (h r (by simp)).2
    omega
set_option maxHeartbeats 2000000 in
set_option maxRecDepth 100000 in
theorem fits_any {w : World} {D : Nat → Prop} {jb b n : Nat} {d : Dk.D} {g : Value} {l : List UInt8} (h : Jk w D jb b d g l n) (hl : l.length ≤ 1000000000) {rv : Value} {xs : List Value} {rs : List (List UInt8)} (hr : RBx w rv xs rs) (hz : ∀ r ∈ rs, r.length ≤ maxLen) (hn : rs.length ≤ 1000000) {q : Int} (hq : Hid (Jn.fits d l.length rs = q)) :
    Calls Try.prog 62 #[ptr jb 0, rv] w fun e w' => e = .returned (.int .i64 q) ∧ Below w.heap.size w w' := by
  have c0 := h.j.c0
  have c1 := h.j.c1
  have H2 := h.dsk.left
  have hlb : -3000000 ≤ d.left ∧ d.left ≤ 1048576 := by
    have := h.dsk.fine
    unfold Dk.D.left
    have h1 := this.a.now
    have h2 := this.b.now
    have h3 := this.room
    have h4 := this.least
    omega
  obtain ⟨a, c, rfl⟩ := h.j.own.form
  obtain ⟨ra, rc, rfl⟩ := hr.form
  have HR := hide9 hr
  have hlen := hr.len
  have hqe := hq.out
  unfold Jn.fits at hqe
  have HQ := hide9 hqe
  generalize d.left = lf at *
  clear h hr hq hqe
  go_enter Try.func62, Try.ntmps62
  go_wp2
  go_loopw [5, 15] (fun x i wr => ∃ (j m : Nat), j ≤ rs.length ∧ i = .int .i64 j ∧ x = .int .i64 m ∧ Hid (m = l.length + (Jn.frames (rs.take j)).length) ∧ Hid (Jn.All (rs.take j)) ∧ w = wr) (fun _ i _ => rs.length - (intOf i).toNat)
  case atStart => exact ⟨0, l.length, Nat.zero_le _, rfl, rfl, (rfl : l.length = l.length + (Jn.frames []).length), (fun r hm => by simp at hm : Jn.All (rs.take 0)), rfl⟩
  case round =>
    obtain ⟨j, m, hj, rfl, rfl, HM, HA, rfl⟩ := hrel
    have hm : m ≤ 1000000000 + 16392 * 1000000 := by
      rw [HM.out]
      have := frames_most _ HA.out
      have : (rs.take j).length ≤ rs.length := by simp; omega
      omega
    by_cases hlt : j < rs.length
    · have hxl : j < xs.length := by omega
      have hxj : xs[j]? = some xs[j] := List.getElem?_eq_getElem hxl
      have hrj : rs[j]? = some rs[j] := List.getElem?_eq_getElem hlt
      obtain ⟨_, hc, b2, o, rfl, hcell⟩ := HR.out.at hxj
      have hb := HR.out.each j _ _ hxj hrj
      obtain ⟨ya, yc, hye⟩ := hb.form
      rw [hye] at hcell
      have hzj := hz _ (List.getElem_mem hlt)
      unfold maxLen at hzj
      have C2 := isRecord_any (rs[j].length : Int)
      by_cases hrec : Jn.isRec rs[j]
      · have HA2 := hide9 (all_take rs j hlt HA.out hrec)
        have HM2 : Hid (m + (8 + rs[j].length) = l.length + (Jn.frames (rs.take (j + 1))).length) := by
          show m + (8 + rs[j].length) = _
          rw [frames_take rs j hlt, List.length_append, Jn.frame_length, HM.out]
          omega
        have hrec2 := hrec.2
        rw [show (decide (1 ≤ (rs[j].length : Int)) && decide ((rs[j].length : Int) ≤ 16384)) = true by unfold Jn.isRec at hrec; simp; omega] at C2
        generalize rs[j].length = rl at *
        replace C2 := hide9 C2
        clear hrec hb hye hxj hrj
        go_wp2_with (go_at_call 57; refine (C2.out _).mono ?_; rintro e w3 ⟨rfl, he⟩; replace he := he.symm; subst he)
        exact ⟨⟨j + 1, m + (8 + rl), by omega, by go_num, by go_num, HM2, HA2, trivial⟩, by simp [intOf]; omega⟩
      · have HE : Hid (q = 1) := by
          have hx := HQ.out
          rw [if_neg (fun hx => hrec ((Jn.all_iff rs).1 hx _ (List.getElem_mem hlt)))] at hx
          exact hx.symm
        rw [show (decide (1 ≤ (rs[j].length : Int)) && decide ((rs[j].length : Int) ≤ 16384)) = false by unfold Jn.isRec at hrec; simp; omega] at C2
        generalize rs[j].length = rl at *
        replace C2 := hide9 C2
        clear hrec hb hye hxj hrj
        go_wp2_with (go_at_call 57; refine (C2.out _).mono ?_; rintro e w3 ⟨rfl, he⟩; replace he := he.symm; subst he)
        go_ret
        rw [HE.out]
        exact ⟨rfl, Below.refl _ _⟩
    · have hjl : rs.take j = rs := List.take_of_length_le (by omega)
      rw [hjl] at HM HA
      have hx := HQ.out
      rw [if_pos ((Jn.all_iff rs).2 HA.out)] at hx
      rw [show (l.length : Int) + ((Jn.frames rs).length : Int) = (m : Int) by rw [HM.out]; omega] at hx
      by_cases hf : lf < (m : Int)
      · rw [if_pos hf] at hx
        subst hx
        go_wp2_with (go_at_call 43; refine H2.mono ?_; rintro e w3 ⟨rfl, hB⟩)
        go_ret
        exact ⟨rfl, hB⟩
      · rw [if_neg hf] at hx
        subst hx
        go_wp2_with (go_at_call 43; refine H2.mono ?_; rintro e w3 ⟨rfl, hB⟩)
        go_ret
        exact ⟨rfl, hB⟩
set_option maxHeartbeats 2000000 in
set_option maxRecDepth 100000 in
theorem Add_no {w : World} {D : Nat → Prop} {jb b n : Nat} {d : Dk.D} {g : Value} {l : List UInt8} (h : Jk w D jb b d g l n) (hl : l.length ≤ 1000000000) {rv : Value} {xs : List Value} {rs : List (List UInt8)} (hr : RBx w rv xs rs) (hz : ∀ r ∈ rs, r.length ≤ maxLen) (hn : rs.length ≤ 1000000) {q : Int} (hq : Hid (Jn.fits d l.length rs = q)) (hq0 : q ≠ 0) :
    Calls Try.prog 34 #[ptr jb 0, rv] w fun e w' => e = .returned (.int .i64 q) ∧ Below w.heap.size w w' := by
  have H := isMadeJ_any h.j.made
  have H2 := fits_any h hl hr hz hn hq
  obtain ⟨ra, rc, rfl⟩ := hr.form
  have hqb : (q == 0) = false := by simpa using hq0
  clear h hr hz hq
  go_enter Try.func34, Try.ntmps34
  go_wp2_with (first
    | (go_at_call 52; refine H.mono ?_; rintro e w2 ⟨rfl, he⟩; replace he := he.symm; subst he)
    | (go_at_call 62; refine H2.mono ?_; rintro e w3 ⟨rfl, hB⟩))
  go_ret
  exact ⟨rfl, hB⟩
theorem jat_set {w : World} {jb b n n' : Nat} {g g' : Value} {l' : List UInt8} (h : w.heap[jb]? = some (.cells #[ptr b 0, g, .int .i64 (n : Int)] 78 (0, 0))) (hg : OwnsBytes w 0 g' l') (ha : g'.ownBlock ≠ some jb) : JAt ((w.setCell ⟨jb, 1, none⟩ g').setCell ⟨jb, 2, none⟩ (.int .i64 (n' : Int))) jb b g' l' n' :=
  ⟨heap_set (heap_set h g') _, hg.keep (fun k e _ => (Below.heap_setCell _ _ _ _ (fun e2 => ha (by rw [e]; exact congrArg some e2))).trans (Below.heap_setCell _ _ _ _ (fun e2 => ha (by rw [e]; exact congrArg some e2)))), ha⟩
set_option maxHeartbeats 2000000 in
set_option maxRecDepth 100000 in
theorem Add_yes {w : World} {D : Nat → Prop} {jb b n : Nat} {d : Dk.D} {g : Value} {l : List UInt8} (h : Jk w D jb b d g l n) (hl : l.length ≤ 1000000000) (hn9 : n ≤ 1000000000) {rv : Value} {xs : List Value} {rs : List (List UInt8)} (hr : ∀ w', Own (fun k => k = jb ∨ g.ownBlock = some k) w w' → RBx w' rv xs rs) (hn : rs.length ≤ 1000000) (hz : ∀ r ∈ rs, r.length ≤ maxLen) (hq : Hid (Jn.fits d l.length rs = 0)) :
    Calls Try.prog 34 #[ptr jb 0, rv] w fun e w' => ∃ g', e = .returned (.int .i64 0) ∧ JAt w' jb b g' (l ++ Jn.frames rs) (n + rs.length) ∧ Own (fun k => k = jb ∨ g.ownBlock = some k) w w' ∧ (∀ k, g'.ownBlock = some k → g.ownBlock = some k ∨ w.heap.size ≤ k) := by
  have H := isMadeJ_any h.j.made
  have H2 := fits_any h hl (hr w (Own.refl _ _)) hz hn hq
  obtain ⟨hA, hle⟩ := Jn.fits_zero hq.out
  have hlf : d.left ≤ 1048576 := by
    have := h.dsk.fine
    unfold Dk.D.left
    have h3 := this.room
    omega
  have HJ := hide9 h.j
  obtain ⟨a, c, rfl⟩ := h.j.own.form
  obtain ⟨ra, rc, rfl⟩ := (hr w (Own.refl _ _)).form
  have HR := hide9 hr
  have HZ : Hid (∀ r ∈ rs, r.length ≤ 1000000) := fun r hm => by have := (hA r hm).2; omega
  clear h hr hz hq hA
  go_enter Try.func34, Try.ntmps34
  go_wp2_with (first
    | (go_at_call 52; refine H.mono ?_; rintro e w2 ⟨rfl, he⟩; replace he := he.symm; subst he)
    | (go_at_call 62; refine H2.mono ?_; rintro e w3 ⟨rfl, hB⟩; have HJ3 := hide9 (HJ.out.below hB); have c1 := HJ3.out.c1; have H3 := frames_any HJ3.out.own (fun w' hO => HR.out w' ((Own.of hB).trans hO (fun k hk => .inl (.inr hk)))) HZ.out (by omega); clear H2)
    | (go_at_call 58; refine H3.mono ?_; rintro e w4 ⟨g4, rfl, ho4, hg4⟩; obtain ⟨L4, a4, c4, H4, rfl, ho4⟩ := ho4.gen; have hblk := (hg4.own.block jb HJ3.out.lt HJ3.out.ap).trans HJ3.out.blk; have d2 : w4.cell? ⟨jb, 2, none⟩ = some (.int .i64 (n : Int)) := Lib.cell_of_heap hblk 2; have d1 : w4.cell? ⟨jb, 1, none⟩ = some (.slice a l.length c) := Lib.cell_of_heap hblk 1; have f1 : w4.frozen? ⟨jb, 1, none⟩ = false := Lib.frozen_of_heap hblk 1; have f2 : w4.frozen? ⟨jb, 2, none⟩ = false := Lib.frozen_of_heap hblk 2; have hap : (Value.slice a4 L4.length c4).ownBlock ≠ some jb := (fun e => (hg4.blk jb e).elim HJ3.out.ap (fun hx => by have := HJ3.out.lt; omega)); have HJ5 := hide9 (jat_set hblk ho4 hap (n' := n + rs.length)); have HG4 := hide9 hg4; replace hap := hide9 hap; clear H3 hblk hg4 ho4))
  go_ret
  have hJ := HJ5.out
  simp only [Int.natCast_add] at hJ
  have hO : Own (fun k => k = jb ∨ (Value.slice a l.length c).ownBlock = some k) w w4 := (Own.of hB).trans HG4.out.own (fun k hk => .inl (.inr hk))
  refine ⟨_, rfl, ?_, hO.trans (own_two jb w4 _ _) (fun k hk => .inl (.inl hk)), fun k hk => (HG4.out.blk k hk).elim .inl (fun hx => .inr (Nat.le_trans hB.size hx))⟩
  rw [← H4.out]
  exact hJ
end Go.Proofs.Ytcjbceidgaieaaa
