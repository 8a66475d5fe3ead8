/- Texts laid as one. -/
import Derived.Test.YtmmpbjpeiclacaaGreatDoorKYkl
import Derived.Laws.OwnMore
/- Lists of values, and of texts, while they grow. -/
set_option linter.unusedVariables false
set_option linter.unusedSimpArgs false
namespace Go.Proofs.YtmmpbjpeiclacaaGreatDoor
open Go.RowKit
abbrev V4 := Value × Value × Value × Value
def flat (vs : List V4) : List Value := vs.flatMap fun x => [x.1, x.2.1, x.2.2.1, x.2.2.2]
theorem flat_snoc (vs : List V4) (x : V4) : flat (vs ++ [x]) = flat vs ++ [x.1, x.2.1, x.2.2.1, x.2.2.2] := by simp [flat]
theorem flat_len : ∀ vs : List V4, (flat vs).length = vs.length * 4
  | [] => rfl
  | x :: vs => by
    have := flat_len vs
    simp only [flat, List.flatMap_cons, List.length_append, List.length_cons, List.length_nil] at this ⊢
    omega
theorem flat_at : ∀ (vs : List V4) (j : Nat) (x : V4), vs[j]? = some x → (flat vs)[j * 4]? = some x.1 ∧ (flat vs)[j * 4 + 1]? = some x.2.1 ∧ (flat vs)[j * 4 + 2]? = some x.2.2.1 ∧ (flat vs)[j * 4 + 3]? = some x.2.2.2
  | [], j, x, h => by simp at h
  | y :: vs, 0, x, h => by
    simp at h
    subst h
    exact ⟨rfl, rfl, rfl, rfl⟩
  | y :: vs, j + 1, x, h => by
    have := flat_at vs j x (by simpa using h)
    have e : flat (y :: vs) = y.1 :: y.2.1 :: y.2.2.1 :: y.2.2.2 :: flat vs := rfl
    rw [e, show (j + 1) * 4 = j * 4 + 1 + 1 + 1 + 1 from by omega]
    simpa using this
/-- What a growing list's values may lie in: blocks from B on, but not the list's own row. -/
def off (B : Nat) (v : Value) (k : Nat) : Prop := B ≤ k ∧ some k ≠ v.ownBlock
structure GKids (B : Nat) (w : World) (v : Value) (cs : List Jsn.J) (vs : List V4) : Prop where
  own : w.ownsRow B 27 4 v cs.length (flat vs)
  len : vs.length = cs.length
  read : ∀ (j : Nat) (c : Jsn.J) (x : V4), cs[j]? = some c → vs[j]? = some x → RV (off B v) w c (vv x.1 x.2.1 x.2.2.1 x.2.2.2)
theorem GKids.nil (B : Nat) (w : World) : GKids B w (.slice none 0 0) [] [] := ⟨World.ownsRow_nil _ _ _ _, rfl, fun j c x h => by simp at h⟩
theorem own_keep {B e size n : Nat} {v : Value} {xs : List Value} {w w' : World} (h : w.ownsRow B e size v n xs) (hk : ∀ k, B ≤ k → k < w.heap.size → w'.heap[k]? = w.heap[k]?) : w'.ownsRow B e size v n xs := by
  refine ⟨h.1, ?_⟩
  rcases h.2 with h2 | ⟨g, cap, cur, h1, h2, h3, h4⟩
  · exact .inl h2
  · exact .inr ⟨g, cap, cur, h1, h2, (hk g h2 (Array.getElem?_eq_some_iff.1 h3).1).trans h3, h4⟩
theorem GKids.keep {B : Nat} {w w' : World} {v : Value} {cs : List Jsn.J} {vs : List V4} (h : GKids B w v cs vs) (hs : w.heap.size ≤ w'.heap.size) (hk : ∀ k, B ≤ k → k < w.heap.size → w'.heap[k]? = w.heap[k]?) : GKids B w' v cs vs :=
  ⟨own_keep h.own hk, h.len, fun j c x hc hx => RV.keep hs (fun k hq hl => ⟨hq, hk k hq.1 hl⟩) (h.read j c x hc hx)⟩
theorem GKids.form {B : Nat} {w : World} {v : Value} {cs : List Jsn.J} {vs : List V4} (h : GKids B w v cs vs) : ∃ a c, v = .slice a cs.length c := by
  rcases h.own.2 with ⟨rfl, h0⟩ | ⟨g, cap, cur, rfl, _⟩
  · exact ⟨none, 0, by rw [h0]⟩
  · exact ⟨_, _, rfl⟩
/-- One more. -/
theorem GKids.more {B g cap H : Nat} {w w' : World} {v x0 x1 x2 x3 : Value} {cs : List Jsn.J} {vs : List V4} {c : Jsn.J} (h : GKids B w v cs vs) (hg : w.grownBy w' v.ownBlock) (hat : v.ownBlock = some g ∨ g = H) (hH : w.heap.size = H)
    (hown : w'.ownsRow B 27 4 (.slice (some ⟨g, 0, none⟩) (cs.length + 1) cap) (cs.length + 1) (flat vs ++ [x0, x1, x2, x3])) (hr : RV (off B v) w c (vv x0 x1 x2 x3)) :
    GKids B w' (.slice (some ⟨g, 0, none⟩) (cs.length + 1) cap) (cs ++ [c]) (vs ++ [(x0, x1, x2, x3)]) := by
  have hk : ∀ {c : Jsn.J} {u : Value}, RV (off B v) w c u → RV (off B (.slice (some ⟨g, 0, none⟩) (cs.length + 1) cap)) w' c u := fun {c u} hr =>
    RV.keep hg.size (fun k hq hl => ⟨⟨hq.1, fun e => by
      have e2 : k = g := Option.some.inj e
      rcases hat with h1 | h1
      · exact hq.2 (by rw [e2, h1])
      · omega⟩, hg.block k hl hq.2⟩) hr
  refine ⟨by rw [List.length_append, flat_snoc]; exact hown, by simp [h.len], fun j d x hd hx => ?_⟩
  by_cases hj : j < cs.length
  · rw [List.getElem?_append_left hj] at hd
    rw [List.getElem?_append_left (by rw [h.len]; exact hj)] at hx
    exact hk (h.read j d x hd hx)
  · have hj2 : j = cs.length := by
      have := (List.getElem?_eq_some_iff.1 hd).1
      simp at this
      omega
    subst hj2
    rw [List.getElem?_append_right (Nat.le_refl _)] at hd
    rw [List.getElem?_append_right (by rw [h.len]; exact Nat.le_refl _), h.len] at hx
    simp at hd hx
    subst hd; subst hx
    exact hk hr
theorem GKids.reads {B : Nat} {w : World} {v : Value} {cs : List Jsn.J} {vs : List V4} (h : GKids B w v cs vs) : RKs (B ≤ ·) w cs v := by
  rcases h.own.2 with ⟨rfl, h0⟩ | ⟨g, cap, cur, rfl, hB, hg, hc, _, hcs, ht⟩
  · exact .inl ⟨_, _, rfl, List.eq_nil_of_length_eq_zero h0⟩
  · have hlt : g < w.heap.size := (Array.getElem?_eq_some_iff.1 hg).1
    refine .inr ⟨g, 0, cap, hB, rfl, hc, hlt, RCs_mk fun j c hj => ?_⟩
    have hjl : j < cs.length := (List.getElem?_eq_some_iff.1 hj).1
    obtain ⟨x, hx⟩ : ∃ x, vs[j]? = some x := ⟨_, List.getElem?_eq_getElem (by rw [h.len]; exact hjl)⟩
    have e := flat_at vs j x hx
    have cell : ∀ i, i < cs.length * 4 → w.cell? ⟨g, i, none⟩ = (flat vs)[i]? := fun i hi => World.ownsRow.cellAt (w := w) (base := B) (e := 27) (size := 4) (g := g) (cap := cap) (n := cs.length) (xs := flat vs) h.own i hi
    refine ⟨x.1, x.2.1, x.2.2.1, x.2.2.2, ?_, ?_, ?_, ?_, RV.keep (Nat.le_refl _) (fun k hq _ => ⟨hq.1, rfl⟩) (h.read j c x hj hx)⟩
    · rw [Nat.zero_add, cell _ (by omega)]; exact e.1
    · rw [Nat.zero_add, cell _ (by omega)]; exact e.2.1
    · rw [Nat.zero_add, cell _ (by omega)]; exact e.2.2.1
    · rw [Nat.zero_add, cell _ (by omega)]; exact e.2.2.2
/-- A row of texts of one's own. -/
def GTexts (B : Nat) (w : World) (v : Value) (ts : List (List UInt8)) : Prop := w.ownsRow B 9 1 v ts.length (ts.map fun t => .string (str t))
theorem GTexts.nil (B : Nat) (w : World) : GTexts B w (.slice none 0 0) [] := World.ownsRow_nil _ _ _ _
theorem GTexts.reads {B : Nat} {w : World} {v : Value} {ts : List (List UInt8)} (h : GTexts B w v ts) : RTs (B ≤ ·) w ts v := by
  rcases h.2 with ⟨rfl, h0⟩ | ⟨g, cap, cur, rfl, hB, hg, hc, _, hcs, ht⟩
  · exact .inl ⟨_, _, rfl, List.eq_nil_of_length_eq_zero h0⟩
  · have hlt : g < w.heap.size := (Array.getElem?_eq_some_iff.1 hg).1
    refine .inr ⟨g, 0, cap, hB, rfl, hc, hlt, fun j t hj => ?_⟩
    have hjl : j < ts.length := (List.getElem?_eq_some_iff.1 hj).1
    have := World.ownsRow.cellAt (w := w) (base := B) (e := 9) (size := 1) (g := g) (cap := cap) (n := ts.length) (xs := ts.map fun t => .string (str t)) h j (by omega)
    rw [Nat.zero_add, this, List.getElem?_map, hj]
    rfl
theorem GTexts.form {B : Nat} {w : World} {v : Value} {ts : List (List UInt8)} (h : GTexts B w v ts) : ∃ a c, v = .slice a ts.length c := by
  rcases h.2 with ⟨rfl, h0⟩ | ⟨g, cap, cur, rfl, _⟩
  · exact ⟨none, 0, by rw [h0]⟩
  · exact ⟨_, _, rfl⟩
theorem GTexts.of {B : Nat} {w : World} {v : Value} {ts : List (List UInt8)} {t : List UInt8} (h : w.ownsRow B 9 1 v (ts.length + 1) ((ts.map fun t => .string (str t)) ++ [.string (str t)])) : GTexts B w v (ts ++ [t]) := by
  unfold GTexts
  rw [List.map_append, List.length_append]
  exact h
end Go.Proofs.YtmmpbjpeiclacaaGreatDoor
/- The contract of the parser's key. -/
set_option linter.unusedVariables false
set_option linter.unusedSimpArgs false
namespace Go.Proofs.YtmmpbjpeiclacaaGreatDoor
open Go.RowKit
/-- All blocks but b and g are as they were. -/
structure Kept2 (b g : Nat) (w w' : World) : Prop where
  os : w'.os = w.os
  tape : w'.tape = w.tape
  output : w'.output = w.output
  size : w.heap.size ≤ w'.heap.size
  block : ∀ k, k < w.heap.size → k ≠ b → k ≠ g → w'.heap[k]? = w.heap[k]?
theorem Kept2.refl (b g : Nat) (w : World) : Kept2 b g w w := ⟨rfl, rfl, rfl, Nat.le_refl _, fun _ _ _ _ => rfl⟩
theorem Kept2.trans {b g : Nat} {a c d : World} (h : Kept2 b g a c) (k : Kept2 b g c d) : Kept2 b g a d :=
  ⟨k.os.trans h.os, k.tape.trans h.tape, k.output.trans h.output, Nat.le_trans h.size k.size, fun i hi hb hg => (k.block i (Nat.lt_of_lt_of_le hi h.size) hb hg).trans (h.block i hi hb hg)⟩
theorem Kept.two {b : Nat} {w w' : World} (h : Kept b w w') (g : Nat) : Kept2 b g w w' := ⟨h.os, h.tape, h.output, h.size, fun k hk hb _ => h.block k hk hb⟩
theorem Kept.two' {g : Nat} {w w' : World} (h : Kept g w w') (b : Nat) : Kept2 b g w w' := ⟨h.os, h.tape, h.output, h.size, fun k hk _ hg => h.block k hk hg⟩
theorem Kept2.drew {b g : Nat} {w w' : World} (h : Kept2 b g w w') : Kept2 b g w w'.drew := ⟨h.os, h.tape, h.output, h.size, h.block⟩
/-- What is in quotes is not much longer than it was told. -/
theorem quoted_len (l : List UInt8) : ∀ t z, Jsn.quotedR l = .ok t z → t.length + 4 * z.length ≤ 4 * l.length := by
  induction hn : l.length using Nat.strongRecOn generalizing l with
  | _ n ih =>
    subst hn
    intro t z h
    cases l with
    | nil => rw [Jsn.quotedR_nil] at h; cases h
    | cons c r =>
      rw [Jsn.quotedR_cons] at h
      simp only [List.length_cons]
      split at h
      · cases h; simp; omega
      · split at h
        · cases he : Jsn.escR (r.length + 1) r with
          | err y k => rw [he] at h; cases h
          | ok x y =>
            rw [he] at h
            replace h : (Jsn.quotedR y).map (Lib.encodeRune x ++ ·) = .ok t z := h
            have hl := Jsn.esc_len he
            cases hq : Jsn.quotedR y with
            | err y k => rw [hq] at h; cases h
            | ok t' z' =>
              rw [hq] at h
              cases h
              have := ih y.length (by simp only [List.length_cons]; omega) y rfl t' z hq
              have e4 := Utf.enc_len x
              simp only [List.length_append]
              omega
        · split at h
          · cases h
          · cases hq : Jsn.quotedR r with
            | err y k => rw [hq] at h; cases h
            | ok t' z' =>
              rw [hq] at h
              cases h
              have := ih r.length (by simp) r rfl t' z hq
              simp only [List.length_cons]
              omega
set_option maxHeartbeats 1000000 in
theorem key_any {b n g m : Nat} {s l : List UInt8} {ks : List (List UInt8)} {w : World} (h : Ps b s l n w) (hS : SetAt g m ks w) (hne : g ≠ b) (hm : m ≤ 1000000) :
    Calls Tryz.prog 122 #[.pointer (some ⟨b, 0, none⟩), .map (some g)] w fun e w' => Kept2 b g w w' ∧ Ans (Jsn.keyR ks l) (fun t r => e = .returned (.string (str t)) ∧ Ps b s r n w' ∧ SetAt g (m + 1) (ks ++ [t]) w') (fun y k => e = boom s y k) := by
  have hlen := h.len
  have hle := h.le
  unfold Jsn.keyR
  cases hk : Jsn.skip l with
  | nil =>
    go_enter Tryz.func122, Tryz.ntmps122
    go_wp2_with (first
      | (go_at_call 82; refine (part_end h hk).mono ?_; rintro e w1 ⟨rfl, hK1⟩))
    exact ⟨rfl, hK1.two g, rfl⟩
  | cons c r =>
    dsimp only
    have hp := part_ok h hk
    have hrl : r.length + 1 ≤ l.length := by have := (Jsn.skip_suf l).length_le; rw [hk] at this; simpa using this
    by_cases h34 : c = 34
    · rw [if_pos h34]
      subst h34
      cases hq : Jsn.quotedR r with
      | err y k =>
        go_enter Tryz.func122, Tryz.ntmps122
        go_wp2_with (first
          | (go_at_call 82; refine hp.mono ?_; rintro e w1 ⟨rfl, hP1, hK1⟩; obtain ⟨p, hpp, c1⟩ := hP1.c1)
          | (go_at_call 84; refine (quoted_any hP1).mono ?_; rintro e w2 ⟨hK2, hA⟩; rw [hq] at hA; replace hA : e = boom s y k := hA; subst hA))
        exact ⟨rfl, (hK1.trans hK2).two g, rfl⟩
      | ok t z =>
        have htl := quoted_len r t z hq
        show Calls _ _ _ _ fun e w' => Kept2 b g w w' ∧ Ans (if t ∈ ks then .err 7 (r.length + 1) else .ok t z) _ _
        by_cases hin : t ∈ ks
        · rw [if_pos hin]
          have hd : decide (t ∉ ks) = false := by simp [hin]
          have hN := fun w hS => isNew_any g m ks t w hS (by omega) (by omega)
          simp only [hd] at hN
          clear hd
          go_enter Tryz.func122, Tryz.ntmps122
          go_wp2_with (first
            | (go_at_call 82; refine hp.mono ?_; rintro e w1 ⟨rfl, hP1, hK1⟩; obtain ⟨p, hpp, c1⟩ := hP1.c1; simp only [List.length_cons] at hpp)
            | (go_at_call 84; refine (quoted_any hP1).mono ?_; rintro e w2 ⟨hK2, hA⟩; rw [hq] at hA; obtain ⟨rfl, hP2⟩ := hA; have hS2 := hS.keep ((hK1.trans hK2).block g hS.lt hne))
            | (go_at_call 33; refine (hN _ hS2).mono ?_; rintro e w3 ⟨rfl, hS3, hK3⟩))
          obtain rfl : p = s.length - (r.length + 1) := by omega
          exact ⟨rfl, ((hK1.trans hK2).two g).trans (hK3.two' b), rfl⟩
        · rw [if_neg hin]
          have hd : decide (t ∉ ks) = true := by simp [hin]
          have hN := fun w hS => isNew_any g m ks t w hS (by omega) (by omega)
          simp only [hd] at hN
          clear hd
          have hwk : withKey ks t = ks ++ [t] := if_neg hin
          go_enter Tryz.func122, Tryz.ntmps122
          go_wp2_with (first
            | (go_at_call 82; refine hp.mono ?_; rintro e w1 ⟨rfl, hP1, hK1⟩; obtain ⟨p, hpp, c1⟩ := hP1.c1; simp only [List.length_cons] at hpp)
            | (go_at_call 84; refine (quoted_any hP1).mono ?_; rintro e w2 ⟨hK2, hA⟩; rw [hq] at hA; obtain ⟨rfl, hP2⟩ := hA; have hS2 := hS.keep ((hK1.trans hK2).block g hS.lt hne))
            | (go_at_call 33; refine (hN _ hS2).mono ?_; rintro e w3 ⟨rfl, hS3, hK3⟩))
          go_ret
          exact ⟨((hK1.trans hK2).two g).trans (hK3.two' b), rfl, ⟨(hK3.block b hP2.lt (Ne.symm hne)).trans hP2.at_, hP2.suf, hP2.len, hP2.cnt⟩, hwk ▸ hS3⟩
    · rw [if_neg h34]
      have q34 : ((c.toNat : Int) != 34) = true := by rw [bne_iff_ne]; exact fun e => h34 (byte_eq_int.1 e)
      go_enter Tryz.func122, Tryz.ntmps122
      go_wp2_with (first
        | (go_at_call 82; refine hp.mono ?_; rintro e w1 ⟨rfl, hP1, hK1⟩; obtain ⟨p, hpp, c1⟩ := hP1.c1; simp only [List.length_cons] at hpp))
      obtain rfl : p = s.length - (r.length + 1) := by omega
      exact ⟨rfl, hK1.two g, rfl⟩
end Go.Proofs.YtmmpbjpeiclacaaGreatDoor
