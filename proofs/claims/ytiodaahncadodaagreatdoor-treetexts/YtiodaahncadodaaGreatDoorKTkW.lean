/- How great the tokens of a text are. -/
import Derived.Test.YtiodaahncadodaaGreatDoorKRfM
set_option linter.unusedVariables false
set_option linter.unusedSimpArgs false
namespace Tk
open Asc
/-- No text of a token is longer than this. -/
def Sz (N : Nat) (k : Tok) : Prop := k.name.length ≤ N ∧ (∀ a ∈ k.attrs, a.1.length ≤ N ∧ a.2.length ≤ N) ∧ k.text.length ≤ N
theorem Sz.mono {N M : Nat} {k : Tok} (h : Sz N k) (hm : N ≤ M) : Sz M k := ⟨Nat.le_trans h.1 hm, fun a ha => ⟨Nat.le_trans (h.2.1 a ha).1 hm, Nat.le_trans (h.2.1 a ha).2 hm⟩, Nat.le_trans h.2.2 hm⟩
theorem low_length (l : List UInt8) : (lower l).length = l.length := by unfold lower; rw [List.length_map]
/-- How many bytes attributes have. -/
def wt (as : List (List UInt8 × List UInt8)) : Nat := (as.map fun a => a.1.length + a.2.length).sum
theorem wt_mem : ∀ (as : List (List UInt8 × List UInt8)) (a : List UInt8 × List UInt8), a ∈ as → a.1.length + a.2.length ≤ wt as
  | [], a, h => by cases h
  | b :: as, a, h => by
    unfold wt
    rw [List.map_cons, List.sum_cons]
    rcases List.mem_cons.1 h with rfl | h
    · omega
    · have := wt_mem as a h
      unfold wt at this
      omega
theorem wt_snoc (as : List (List UInt8 × List UInt8)) (a : List UInt8 × List UInt8) : wt (as ++ [a]) = wt as + (a.1.length + a.2.length) := by
  unfold wt
  rw [List.map_append, List.sum_append]
  simp
/-- All bytes of a token are no more than this. -/
def Wz (N : Nat) (k : Tok) : Prop := k.name.length + wt k.attrs + k.text.length ≤ N
theorem Wz.mono {N M : Nat} {k : Tok} (h : Wz N k) (hm : N ≤ M) : Wz M k := Nat.le_trans h hm
theorem Wz.sz {N : Nat} {k : Tok} (h : Wz N k) : Sz N k := by
  unfold Wz at h
  refine ⟨by omega, fun a ha => ?_, by omega⟩
  have := wt_mem _ a ha
  omega
theorem attr_wt (l : List UInt8) : (attr l).1.1.length + (attr l).1.2.length + (attr l).2.length ≤ l.length := by
  have h0 := congrArg List.length (attrN_R l)
  rw [List.length_append] at h0
  unfold attr
  split
  · show (lower (attrN l)).length + 0 + (attrR l).length ≤ _
    rw [low_length]
    omega
  · rename_i r e
    have h3 := eqR_le _ r e
    have h5 := Rf.dec_len true (valRaw r)
    have h6 : (valRaw r).length + (valR r).length ≤ r.length := by
      cases r with
      | nil => exact Nat.le_refl _
      | cons q t =>
        rw [valRaw, valR]
        split
        · have := congrArg List.length (List.takeWhile_append_dropWhile (p := (· != q)) (l := t))
          rw [List.length_append] at this
          rw [List.length_drop, List.length_cons]
          omega
        · have := congrArg List.length (List.takeWhile_append_dropWhile (p := vn) (l := q :: t))
          rw [List.length_append] at this
          omega
    show (lower (attrN l)).length + (Rf.dec true (valRaw r)).length + (valR r).length ≤ _
    rw [low_length]
    omega
theorem tgF_wt : ∀ (f : Nat) (l : List UInt8) (as : List (List UInt8 × List UInt8)) (sl : Bool) (x : List (List UInt8 × List UInt8) × Bool × List UInt8), tgF f l as sl = some x → wt x.1 + x.2.2.length ≤ wt as + l.length
  | 0, l, as, sl, x, h => by cases h
  | f + 1, [], as, sl, x, h => by cases h
  | f + 1, c :: t, as, sl, x, h => by
    rw [tgF] at h
    split at h
    · cases h
      show wt as + t.length ≤ _
      rw [List.length_cons]
      omega
    split at h
    · have := tgF_wt f _ _ _ x h
      rw [List.length_cons]
      omega
    · have ha := attr_wt (c :: t)
      have := tgF_wt f _ _ _ x h
      have h2 : wt (add as (attr (c :: t)).1) ≤ wt as + ((attr (c :: t)).1.1.length + (attr (c :: t)).1.2.length) := by
        unfold add
        split
        · rw [wt_snoc]
          exact Nat.le_refl _
        · omega
      omega
theorem tag_size (l : List UInt8) (k : Tok) (r : List UInt8) (h : tag l = some (k, r)) : Wz l.length k := by
  unfold tag at h
  split at h
  · cases h
  · rename_i as sl q e
    cases h
    have h1 := tgF_wt _ _ _ _ _ e
    have h2 := congrArg List.length (List.takeWhile_append_dropWhile (p := tn) (l := l))
    rw [List.length_append] at h2
    simp only [wt, List.map_nil, List.sum_nil] at h1
    show (lower (l.takeWhile tn)).length + wt as + 0 ≤ _
    rw [low_length]
    unfold wt
    omega
theorem zero_size (N : Nat) : Wz N zero := Nat.zero_le _
theorem text_size (N : Nat) (k : Nat) (x : List UInt8) (h : x.length ≤ N) : Wz N ⟨k, [], [], false, x⟩ := by
  show 0 + 0 + x.length ≤ N
  omega
theorem next_size (s : List UInt8) : Wz s.length (next s).1 := by
  unfold next
  split
  · exact zero_size _
  split
  · refine text_size _ _ _ ?_
    have := Rf.dec_len false (s.take (upto s))
    rw [List.length_take] at this
    omega
  split
  · split
    · exact zero_size _
    · rename_i k r e
      exact (tag_size _ k r e).mono (by rw [List.length_drop]; omega)
  split
  · split
    · exact zero_size _
    · rename_i k r e
      have := (tag_size _ k r e).mono (show (s.drop 2).length ≤ s.length by rw [List.length_drop]; omega)
      show k.name.length + 0 + 0 ≤ _
      unfold Wz at this
      omega
  split
  · refine text_size _ _ _ ?_
    rw [List.length_take, List.length_drop]; omega
  split
  · exact text_size _ _ _ (Nat.zero_le _)
  · refine text_size _ _ _ ?_
    rw [List.length_take, List.length_drop]; omega
theorem step_size (s : List UInt8) : (∀ k ∈ (stepT s).1, Wz s.length k) ∧ (stepT s).2.length ≤ s.length := by
  have h1 := next_size s
  unfold stepT
  split
  · refine ⟨?_, ?_⟩
    · intro k hk
      rcases List.mem_cons.1 hk with rfl | hk
      · exact h1
      · split at hk
        · cases hk
        · rw [List.mem_singleton] at hk
          subst hk
          refine text_size _ _ _ ?_
          have hd := Rf.dec_len false ((s.drop (next s).2).take (ends (next s).1.name (s.drop (next s).2)))
          split
          · rw [List.length_take, List.length_drop] at hd
            omega
          · rw [List.length_take, List.length_drop]
            omega
    · show ((s.drop (next s).2).drop _).length ≤ _
      rw [List.length_drop, List.length_drop]
      omega
  · refine ⟨?_, ?_⟩
    · intro k hk
      split at hk
      · cases hk
      · rw [List.mem_singleton] at hk
        subst hk
        exact h1
    · show (s.drop (next s).2).length ≤ _
      rw [List.length_drop]
      omega
theorem all_size (s : List UInt8) : ∀ k ∈ all s, Wz s.length k := by
  refine all_ind (P := fun s => ∀ k ∈ all s, Wz s.length k) (by rw [all_nil]; simp) ?_ s
  intro s h ih k hk
  rw [all_go s h, List.mem_append] at hk
  have hs := step_size s
  rcases hk with hk | hk
  · exact hs.1 k hk
  · exact (ih k hk).mono hs.2
theorem flat_len : ∀ as : List (List UInt8 × List UInt8), (as.flatMap attrText).length ≤ 6 * wt as + 4 * as.length
  | [] => by simp
  | a :: as => by
    have ih := flat_len as
    have he := Rf.enc_len true a.2
    rw [List.flatMap_cons, List.length_append, List.length_cons]
    have h1 : (attrText a).length = a.1.length + (Rf.enc true a.2).length + 4 := by
      unfold attrText
      simp only [List.length_cons, List.length_append, List.length_nil]
      omega
    have h2 : wt (a :: as) = a.1.length + a.2.length + wt as := by
      unfold wt
      rw [List.map_cons, List.sum_cons]
    omega
theorem fine_ats (k : Tok) (hf : Fine k) : k.attrs.length ≤ 64 := by
  rcases hf with ⟨_, _, h, _⟩ | ⟨_, _, h, _⟩ | ⟨_, _, h, _⟩ | ⟨_, _, h, _⟩
  · exact h.1
  · rw [h]; exact Nat.zero_le _
  · rw [h]; exact Nat.zero_le _
  · rw [h]; exact Nat.zero_le _
end Tk
