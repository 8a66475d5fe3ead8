/- Journals as plain mathematics: frames, what bytes have, what a loss leaves of them, what is done on a disk. -/
import Derived.Test.YtcjbceidgaieaaaKSumMath
import Derived.Test.YtcjbceidgaieaaaKDiskMath
set_option linter.unusedVariables false
namespace Go.Proofs.Ytcjbceidgaieaaa
namespace Jn
/-- All bits. -/
def F : BitVec 32 := 0xFFFFFFFF#32
def crc (l : List UInt8) : Nat := (Sm.crcL F l ^^^ F).toNat
theorem crc_lt (l : List UInt8) : crc l < 4294967296 := BitVec.isLt _
def four (n : Nat) : List UInt8 := [UInt8.ofNat (n / 16777216), UInt8.ofNat (n / 65536), UInt8.ofNat (n / 256), UInt8.ofNat n]
def num (l : List UInt8) : Nat := l.foldl (fun n c => n * 256 + c.toNat) 0
theorem four_length (n : Nat) : (four n).length = 4 := rfl
theorem num_four (n : Nat) (h : n < 4294967296) : num (four n) = n := by
  simp [num, four]
  omega
theorem four_num (a b c d : UInt8) : four (num [a, b, c, d]) = [a, b, c, d] := by
  have ha := a.toNat_lt
  have hb := b.toNat_lt
  have hc := c.toNat_lt
  have hd := d.toNat_lt
  simp only [num, four, List.foldl_cons, List.foldl_nil, Nat.zero_mul, Nat.zero_add]
  have e : ∀ (x : UInt8) (n : Nat), n % 256 = x.toNat → UInt8.ofNat n = x := fun x n h => by
    apply UInt8.toNat_inj.mp
    simp [h]
  rw [e a _ (by omega), e b _ (by omega), e c _ (by omega), e d _ (by omega)]
theorem four_of (l : List UInt8) (h : l.length = 4) : four (num l) = l := by
  rcases l with _ | ⟨a, _ | ⟨b, _ | ⟨c, _ | ⟨d, _ | ⟨e, l⟩⟩⟩⟩⟩ <;> simp at h
  exact four_num a b c d
theorem num_lt (l : List UInt8) (h : l.length = 4) : num l < 4294967296 := by
  rcases l with _ | ⟨a, _ | ⟨b, _ | ⟨c, _ | ⟨d, _ | ⟨e, l⟩⟩⟩⟩⟩ <;> simp at h
  have ha := a.toNat_lt
  have hb := b.toNat_lt
  have hc := c.toNat_lt
  have hd := d.toNat_lt
  simp only [num, List.foldl_cons, List.foldl_nil]
  omega
/-- A record. -/
def isRec (l : List UInt8) : Prop := 1 ≤ l.length ∧ l.length ≤ 16384
def frame (l : List UInt8) : List UInt8 := four l.length ++ (four (crc (four l.length ++ l)) ++ l)
theorem frame_length (l : List UInt8) : (frame l).length = 8 + l.length := by simp [frame, four_length]; omega
/-- The record whose frame bytes begin with. -/
def first (l : List UInt8) : Option (List UInt8) :=
  if l.length < 8 then none
  else if num (l.take 4) < 1 ∨ 16384 < num (l.take 4) ∨ l.length - 8 < num (l.take 4) then none
  else if num ((l.drop 4).take 4) = crc (l.take 4 ++ (l.drop 8).take (num (l.take 4))) then some ((l.drop 8).take (num (l.take 4))) else none
theorem take4 (n : Nat) (t : List UInt8) : (four n ++ t).take 4 = four n := List.take_left' (four_length n)
theorem drop4 (n : Nat) (t : List UInt8) : (four n ++ t).drop 4 = t := List.drop_left' (four_length n)
theorem drop8 (n m : Nat) (t : List UInt8) : (four n ++ (four m ++ t)).drop 8 = t := by
  rw [show 8 = 4 + 4 from rfl, ← List.drop_drop, drop4, drop4]
theorem first_frame (r t : List UInt8) (h : isRec r) : first (frame r ++ t) = some r := by
  obtain ⟨h1, h2⟩ := h
  have hn : num (four r.length) = r.length := num_four _ (by omega)
  have e1 : (frame r ++ t).take 4 = four r.length := by unfold frame; rw [List.append_assoc, take4]
  have e2 : (frame r ++ t).drop 8 = r ++ t := by unfold frame; rw [List.append_assoc, List.append_assoc, drop8]
  have e3 : ((frame r ++ t).drop 4).take 4 = four (crc (four r.length ++ r)) := by unfold frame; rw [List.append_assoc, List.append_assoc, drop4, take4]
  unfold first
  rw [e1, e2, e3, hn, List.take_left' rfl, num_four _ (crc_lt _)]
  rw [if_neg (by rw [List.length_append, frame_length]; omega), if_neg (by rw [List.length_append, frame_length]; omega), if_pos rfl]
theorem first_some {l r : List UInt8} (h : first l = some r) : isRec r ∧ l.take (8 + r.length) = frame r ∧ 8 + r.length ≤ l.length := by
  unfold first at h
  split at h
  · cases h
  · rename_i h8
    split at h
    · cases h
    · rename_i hn
      split at h
      · rename_i hc
        have hr := Option.some.inj h
        have hl : r.length = num (l.take 4) := by rw [← hr, List.length_take, List.length_drop]; omega
        refine ⟨⟨by omega, by omega⟩, ?_, by omega⟩
        have ht : (l.take 4).length = 4 := by simp; omega
        have ht2 : ((l.drop 4).take 4).length = 4 := by simp; omega
        have f1 : four r.length = l.take 4 := by rw [hl]; exact four_of _ ht
        have f2 : four (crc (four r.length ++ r)) = (l.drop 4).take 4 := by
          rw [f1, ← hr, ← hc]
          exact four_of _ ht2
        unfold frame
        rw [f2, f1]
        have e : l.take (8 + r.length) = l.take 4 ++ ((l.drop 4).take 4 ++ (l.drop 8).take r.length) := by
          rw [show 8 + r.length = 4 + (4 + r.length) by omega, List.take_add, List.take_add, List.drop_drop]
        rw [e]
        congr 2
        rw [hl, hr]
      · cases h
theorem first_drop {l r : List UInt8} (h : first l = some r) : l = frame r ++ l.drop (8 + r.length) := by
  rw [← (first_some h).2.1, List.take_append_drop]
theorem first_short (r : List UInt8) (h : isRec r) (k : Nat) (hk : k < (frame r).length) : first ((frame r).take k) = none := by
  cases hf : first ((frame r).take k) with
  | none => rfl
  | some q =>
    exfalso
    obtain ⟨⟨h1, h2⟩, h3, h4⟩ := first_some hf
    obtain ⟨g1, g2⟩ := h
    rw [frame_length] at hk
    rw [List.length_take, frame_length] at h4
    have e : (frame r).take 4 = (frame q).take 4 := by rw [← h3, List.take_take, List.take_take, show min (min 4 (8 + q.length)) k = 4 by omega]
    unfold frame at e
    rw [take4, take4] at e
    have := congrArg num e
    rw [num_four _ (by omega), num_four _ (by omega)] at this
    omega
theorem first_nil : first [] = none := rfl
def scanF : Nat → List UInt8 → List (List UInt8)
  | 0, _ => []
  | k + 1, l => match first l with
    | none => []
    | some r => r :: scanF k (l.drop (8 + r.length))
/-- The records that bytes have. -/
def scan (l : List UInt8) : List (List UInt8) := scanF l.length l
def frames (rs : List (List UInt8)) : List UInt8 := (rs.map frame).flatten
theorem frames_nil : frames [] = [] := rfl
theorem frames_cons (r : List UInt8) (rs : List (List UInt8)) : frames (r :: rs) = frame r ++ frames rs := rfl
theorem frames_app (a b : List (List UInt8)) : frames (a ++ b) = frames a ++ frames b := by simp [frames]
theorem frames_length (rs : List (List UInt8)) : rs.length ≤ (frames rs).length := by
  induction rs with
  | nil => simp
  | cons r rs ih => rw [frames_cons, List.length_append, frame_length, List.length_cons]; omega
def All (rs : List (List UInt8)) : Prop := ∀ r ∈ rs, isRec r
theorem scanF_frames : ∀ (rs : List (List UInt8)) (t : List UInt8) (k : Nat), All rs → first t = none → rs.length ≤ k → scanF k (frames rs ++ t) = rs
  | [], t, 0, _, _, _ => rfl
  | [], t, k + 1, _, ht, _ => by
    show (match first t with | none => [] | some r => r :: scanF k (t.drop (8 + r.length))) = _
    rw [ht]
  | r :: rs, t, 0, _, _, hk => by simp at hk
  | r :: rs, t, k + 1, ha, ht, hk => by
    rw [frames_cons, List.append_assoc, scanF, first_frame r _ (ha r (by simp))]
    show r :: scanF k ((frame r ++ (frames rs ++ t)).drop (8 + r.length)) = _
    rw [List.drop_left' (frame_length r), scanF_frames rs t k (fun q hq => ha q (by simp [hq])) ht (by simpa using hk)]
theorem scan_frames (rs : List (List UInt8)) (t : List UInt8) (ha : All rs) (ht : first t = none) : scan (frames rs ++ t) = rs :=
  scanF_frames rs t _ ha ht (by have := frames_length rs; rw [List.length_append]; omega)
theorem scan_all (rs : List (List UInt8)) (ha : All rs) : scan (frames rs) = rs := by
  have := scan_frames rs [] ha rfl
  rwa [List.append_nil] at this
theorem scanF_spec : ∀ (k : Nat) (l : List UInt8), l.length ≤ k → ∃ t, l = frames (scanF k l) ++ t ∧ first t = none ∧ All (scanF k l)
  | 0, l, h => by
    obtain rfl : l = [] := List.eq_nil_of_length_eq_zero (by omega)
    exact ⟨[], rfl, rfl, fun r hr => by simp [scanF] at hr⟩
  | k + 1, l, h => by
    rw [scanF]
    cases hf : first l with
    | none => exact ⟨l, rfl, hf, fun r hr => by simp at hr⟩
    | some r =>
      have h1 := first_some hf
      obtain ⟨t, e, ht, ha⟩ := scanF_spec k (l.drop (8 + r.length)) (by rw [List.length_drop]; omega)
      refine ⟨t, ?_, ht, fun q hq => ?_⟩
      · show l = frames (r :: scanF k (l.drop (8 + r.length))) ++ t
        rw [frames_cons, List.append_assoc, ← e]
        exact first_drop hf
      · rcases List.mem_cons.1 hq with rfl | hq
        · exact h1.1
        · exact ha q hq
theorem scan_spec (l : List UInt8) : ∃ t, l = frames (scan l) ++ t ∧ first t = none ∧ All (scan l) := scanF_spec _ l (Nat.le_refl _)
theorem scan_size (l : List UInt8) : (frames (scan l)).length ≤ l.length := by
  obtain ⟨t, e, _⟩ := scan_spec l
  have := congrArg List.length e
  rw [List.length_append] at this
  omega
theorem scan_take (l : List UInt8) : l.take (frames (scan l)).length = frames (scan l) := by
  obtain ⟨t, e, _⟩ := scan_spec l
  generalize frames (scan l) = q at *
  rw [e, List.take_left' rfl]
/-- What a loss leaves of frames. -/
theorem torn : ∀ (rs : List (List UInt8)) (k : Nat), All rs → ∃ m t, m ≤ rs.length ∧ (frames rs).take k = frames (rs.take m) ++ t ∧ first t = none
  | [], k, _ => ⟨0, [], Nat.le_refl _, by simp [frames], rfl⟩
  | r :: rs, k, ha => by
    by_cases hk : k < (frame r).length
    · refine ⟨0, (frame r).take k, Nat.zero_le _, ?_, first_short r (ha r (by simp)) k hk⟩
      rw [frames_cons, List.take_append_of_le_length (by omega)]
      rfl
    · obtain ⟨m, t, hm, e, ht⟩ := torn rs (k - (frame r).length) (fun q hq => ha q (by simp [hq]))
      refine ⟨m + 1, t, by simp; exact hm, ?_, ht⟩
      rw [frames_cons, List.take_append, List.take_of_length_le (by omega), e, List.take_succ_cons, frames_cons, List.append_assoc]
theorem scan_torn (ps rs : List (List UInt8)) (k : Nat) (hp : All ps) (hr : All rs) : ∃ m, m ≤ rs.length ∧ scan (frames ps ++ (frames rs).take k) = ps ++ rs.take m := by
  obtain ⟨m, t, hm, e, ht⟩ := torn rs k hr
  refine ⟨m, hm, ?_⟩
  rw [e, ← List.append_assoc, ← frames_app]
  refine scan_frames _ t (fun r h => ?_) ht
  rcases List.mem_append.1 h with h | h
  · exact hp r h
  · exact hr r (List.mem_of_mem_take h)
/-- A file is cut, for sure. -/
def cut (d : Dk.D) (f n : Int) : Int × Dk.D := if (d.trunc f n).1 ≠ 0 then d.trunc f n else (d.trunc f n).2.sync f
def write (d : Dk.D) (f : Int) (l : List UInt8) : Int × Dk.D := if (d.append f l).1 ≠ 0 then d.append f l else (d.append f l).2.sync f
def recs (d : Dk.D) (f : Int) : List (List UInt8) := scan (d.at f).now
def mend (d : Dk.D) (f : Int) : Int × Dk.D := if (frames (recs d f)).length = (d.at f).now.length then (0, d) else cut d f (frames (recs d f)).length
def empty (d : Dk.D) (f : Int) : Int × Dk.D := if (d.at f).now.length = 0 then (0, d) else cut d f 0
def opens (d : Dk.D) : Int × Dk.D := if d.on = false then (12, d) else if (mend d d.root).1 ≠ 0 then mend d d.root else empty (mend d d.root).2 (1 - d.root)
/-- A group of n records, l its bytes, is committed. -/
def commit (d : Dk.D) (n : Nat) (l : List UInt8) : Int × Dk.D := if n = 0 then (0, d) else if d.on = false then (12, d) else write d d.root l
def snap3 (d : Dk.D) (old : Int) : Int × Dk.D := if (d.switch (1 - old)).1 ≠ 0 then d.switch (1 - old) else cut (d.switch (1 - old)).2 old 0
/-- A snapshot that is not refused. -/
def snap (d : Dk.D) (l : List UInt8) : Int × Dk.D := if d.on = false then (12, d) else if (write d (1 - d.root) l).1 ≠ 0 then write d (1 - d.root) l else snap3 (write d (1 - d.root) l).2 d.root
end Jn
end Go.Proofs.Ytcjbceidgaieaaa
