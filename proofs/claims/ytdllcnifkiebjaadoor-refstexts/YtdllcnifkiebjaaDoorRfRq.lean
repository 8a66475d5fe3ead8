/- The reference's number at a text that begins with &#, and starts at any texts. -/
import Derived.Test.YtdllcnifkiebjaaDoorRfRp
set_option linter.unusedVariables false
set_option linter.unusedSimpArgs false
namespace Rf
open Asc
theorem nx_hash (a : Bool) (r : List UInt8) : nx a (38 :: 35 :: r) = if digs (35 :: r) = [] then (0, 0, false) else (numSign (foldCap (baseOf (isHx (35 :: r))) 0 (digs (35 :: r))), 1 + fr (isHx (35 :: r)) + (digs (35 :: r)).length + semi ((35 :: r).drop (fr (isHx (35 :: r)) + (digs (35 :: r)).length)), true) := by
  rw [nx_amp]
  obtain ⟨h1, h2, h3⟩ := hash_none a r
  have hi : isNo (35 :: r) = !(digs (35 :: r)).isEmpty := by
    unfold isNo
    simp [List.isPrefixOf]
  by_cases hd : digs (35 :: r) = []
  · have : numSz (35 :: r) = 0 := by unfold numSz; rw [hi, hd]; rfl
    unfold next
    rw [this, h1, h3, hd]
    rfl
  · have hi' : isNo (35 :: r) = true := by
      rw [hi]
      cases h : digs (35 :: r) with
      | nil => exact absurd h hd
      | cons c q => rfl
    have hv := val_fold (35 :: r) hd
    have hf : 1 ≤ fr (isHx (35 :: r)) := by unfold fr; split <;> omega
    have e1 : numSz (35 :: r) = fr (isHx (35 :: r)) + (digs (35 :: r)).length + semi ((35 :: r).drop (fr (isHx (35 :: r)) + (digs (35 :: r)).length)) := by unfold numSz; rw [hi']; rfl
    have e2 : numSg (35 :: r) = numSign (foldCap (baseOf (isHx (35 :: r))) 0 (digs (35 :: r))) := by
      unfold numSg
      rw [hi', ← hv]
      rfl
    have hz : ¬ numSz (35 :: r) = 0 := by rw [e1]; omega
    have e3 : next a (35 :: r) = (numSg (35 :: r), numSz (35 :: r)) := by unfold next; rw [if_pos hz]
    rw [e3, if_neg hd]
    show (if numSz (35 :: r) = 0 then _ else (numSg (35 :: r), numSz (35 :: r) + 1, true)) = _
    rw [if_neg hz, e1, e2]
    congr 2
    omega
theorem dropWhile_head (p : UInt8 → Bool) : ∀ (l : List UInt8) (c : UInt8), c ∈ (l.drop (l.takeWhile p).length).head? → p c = false
  | [], c, h => by simp at h
  | x :: l, c, h => by
    rw [List.takeWhile_cons] at h
    cases hx : p x
    · rw [hx] at h
      simp at h
      subst h
      exact hx
    · rw [hx] at h
      simp at h
      exact dropWhile_head p l c (by simpa using h)
end Rf
namespace Go.Proofs.YtdllcnifkiebjaaDoor
open Go.RowKit
set_option maxHeartbeats 1000000 in
set_option maxRecDepth 100000 in
theorem Rnumber_two (w : World) :
    Calls Tryd.prog 32 #[.string (str [38, 35])] w fun e w' => e = .returned (nxV (0, 0, false)) ∧ Below w.heap.size w w' := by
  have hsz : (str [38, 35]).size = 2 := rfl
  go_enter Tryd.func32, Tryd.ntmps32
  go_wp2
  go_loop [6, 7] (fun i n => i = .int .i64 2 ∧ n = .int .u64 0) (fun i _ => 0)
  case atStart => exact ⟨rfl, rfl⟩
  case round =>
    obtain ⟨rfl, rfl⟩ := hrel
    go_wp2
    go_ret3
    exact ⟨rfl, Below.refl _ _⟩
theorem Rnumber_any (a : Bool) (r : List UInt8) (w : World) (hz : r.length ≤ 100000000) :
    Calls Tryd.prog 32 #[.string (str (38 :: 35 :: r))] w fun e w' => e = .returned (nxV (Rf.nx a (38 :: 35 :: r))) ∧ Below w.heap.size w w' := by
  rw [Rf.nx_hash]
  cases r with
  | nil =>
    rw [if_pos (by decide +kernel)]
    exact Rnumber_two w
  | cons c q =>
    have h2 : 2 < (str (38 :: 35 :: c :: q)).size := by rw [str_size]; simp
    have hat : ((str (38 :: 35 :: c :: q))[2]) = c := rfl
    have hl : (38 :: 35 :: c :: q).length ≤ 1000000000 := by simp at hz ⊢; omega
    have key : ∀ (b : Bool) (pre : List UInt8), Rf.isHx (35 :: c :: q) = b → 38 :: 35 :: c :: q = pre ++ ((35 :: c :: q).drop (Rf.fr b)) → pre.length = 1 + Rf.fr b →
        38 :: 35 :: c :: q = pre ++ (Rf.digs (35 :: c :: q) ++ (35 :: c :: q).drop (Rf.fr b + (Rf.digs (35 :: c :: q)).length)) ∧ (Rf.digs (35 :: c :: q)).all (Rf.dOk b) = true ∧ (∀ x ∈ ((35 :: c :: q).drop (Rf.fr b + (Rf.digs (35 :: c :: q)).length)).head?, Rf.dOk b x = false) := by
      intro b pre hb he hp
      have hd : Rf.digs (35 :: c :: q) = ((35 :: c :: q).drop (Rf.fr b)).takeWhile (Rf.dOk b) := by unfold Rf.digs; rw [hb]
      rw [hd, ← List.drop_drop]
      refine ⟨?_, Rf.all_takeWhile _ _, Rf.dropWhile_head _ _⟩
      rw [← Rf.takeWhile_form]
      exact he
    by_cases h120 : c = 120
    · have hb : Rf.isHx (35 :: c :: q) = true := by rw [h120]; simp [Rf.isHx, List.isPrefixOf]
      obtain ⟨k1, k2, k3⟩ := key true [38, 35, c] hb rfl rfl
      have := Rnumber_x _ [38, 35, c] _ _ k1 rfl k2 k3 hl w h2 (by rw [hat, h120]; rfl)
      unfold numR at this
      rw [hb]
      exact this
    · have q1 : ¬ ((str (38 :: 35 :: c :: q))[2].toNat : Int) = 120 := by rw [hat]; exact byte_ne' (k := 120) (by omega) h120
      by_cases h88 : c = 88
      · have hb : Rf.isHx (35 :: c :: q) = true := by rw [h88]; simp [Rf.isHx, List.isPrefixOf]
        obtain ⟨k1, k2, k3⟩ := key true [38, 35, c] hb rfl rfl
        have := Rnumber_X _ [38, 35, c] _ _ k1 rfl k2 k3 hl w h2 q1 (by rw [hat, h88]; rfl)
        unfold numR at this
        rw [hb]
        exact this
      · have hb : Rf.isHx (35 :: c :: q) = false := by
          have e1 : ((120 : UInt8) == c) = false := beq_eq_false_iff_ne.2 (fun e => h120 e.symm)
          have e2 : ((88 : UInt8) == c) = false := beq_eq_false_iff_ne.2 (fun e => h88 e.symm)
          simp [Rf.isHx, List.isPrefixOf, e1, e2]
        obtain ⟨k1, k2, k3⟩ := key false [38, 35] hb rfl rfl
        have := Rnumber_d _ [38, 35] _ _ k1 rfl k2 k3 hl w h2 q1 (by rw [hat]; exact byte_ne' (k := 88) (by omega) h88)
        unfold numR at this
        rw [hb]
        exact this
theorem starts_b (s p : ByteArray) (w : World) :
    Calls Tryd.prog 31 #[.string s, .string p] w fun e w' => e = .returned (.bool (p.data.toList.isPrefixOf s.data.toList)) ∧ w' = w := by
  have := starts_any s.data.toList p.data.toList w
  rw [str_self, str_self] at this
  exact this
end Go.Proofs.YtdllcnifkiebjaaDoor
