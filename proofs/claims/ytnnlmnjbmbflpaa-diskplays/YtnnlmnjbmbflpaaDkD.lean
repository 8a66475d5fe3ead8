/- The contract of slices.Reverse at bytes. -/
import Derived.Test.YtnnlmnjbmbflpaaDkC
import Derived.BigRegion
set_option linter.unusedVariables false
set_option linter.unusedSimpArgs false
namespace Go.Proofs.Ytnnlmnjbmbflpaa
open Go.RowKit
theorem w64 {n m : Int} (h : n = m) (h1 : -9223372036854775808 ≤ m) (h2 : m ≤ 9223372036854775807) : IntKind.i64.wrap n = m := by
  subst h
  rw [IntKind.wrap_i64]
  omega
/-- A byte of one's own is written. -/
theorem OwnsBytes.set {w : World} {g n cp : Nat} {l : List UInt8} (h : OwnsBytes w 0 (.slice (some ⟨g, 0, none⟩) n cp) l) (i : Nat) (x : UInt8) (hi : i < l.length) : OwnsBytes (w.setCell ⟨g, i, none⟩ (.int .u8 (x.toNat : Int))) 0 (.slice (some ⟨g, 0, none⟩) n cp) (l.set i x) := by
  obtain ⟨h1, h2⟩ := h
  rcases h2 with ⟨hn, _⟩ | ⟨g', cap, cur, hv, hb, hg, hc, hm, hcs, ht⟩
  · cases hn
  · cases hv
    refine ⟨by simp [cellsB], .inr ⟨g, cp, cur.setIfInBounds i (.int .u8 (x.toNat : Int)), by rw [List.length_set], Nat.zero_le _, heap_set hg _, by rw [List.length_set]; exact hc, hm, by simp; omega, ?_⟩⟩
    rw [List.length_set, Nat.mul_one]
    rw [Nat.mul_one] at ht
    unfold cellsB at *
    rw [List.map_set, ← ht, Array.toList_setIfInBounds, List.take_set]
def RevTo (l l' : List UInt8) (k : Nat) : Prop := l'.length = l.length ∧ ∀ i, i < l.length → l'[i]? = if i < k ∨ l.length - k ≤ i then l[l.length - 1 - i]? else l[i]?
theorem RevTo.start (l : List UInt8) : RevTo l l 0 := ⟨rfl, fun i hi => by rw [if_neg (by omega)]⟩
theorem RevTo.step {l l' : List UInt8} {k m : Nat} (h : RevTo l l' k) (hs : k + m + 1 = l.length) (hkm : k < m) (hk : k < l'.length) (hm : m < l'.length) : RevTo l ((l'.set k l'[m]).set m l'[k]) (k + 1) := by
  obtain ⟨h1, h2⟩ := h
  refine ⟨by simp [h1], fun i hi => ?_⟩
  rw [List.getElem?_set, List.getElem?_set]
  have hmm := h2 m (by omega)
  have hkk := h2 k (by omega)
  rw [if_neg (by omega), List.getElem?_eq_getElem hm] at hmm
  rw [if_neg (by omega), List.getElem?_eq_getElem hk] at hkk
  by_cases e1 : m = i
  · subst e1
    rw [if_pos rfl, if_pos (by simp; omega), if_pos (by omega), hkk]
    congr 1
    omega
  · rw [if_neg e1]
    by_cases e2 : k = i
    · subst e2
      rw [if_pos rfl, if_pos (by omega), if_pos (by omega), hmm]
      congr 1
      omega
    · rw [if_neg e2, h2 i hi]
      by_cases h3 : i < k ∨ l.length - k ≤ i
      · rw [if_pos h3, if_pos (by omega)]
      · rw [if_neg h3, if_neg (by omega)]
theorem RevTo.done {l l' : List UInt8} {k m : Nat} (h : RevTo l l' k) (hs : k + m + 1 = l.length) (hkm : m ≤ k) : l' = l.reverse := by
  obtain ⟨h1, h2⟩ := h
  apply List.ext_getElem?
  intro i
  by_cases hi : i < l.length
  · rw [h2 i hi, List.getElem?_reverse hi]
    by_cases h3 : i < k ∨ l.length - k ≤ i
    · rw [if_pos h3]
    · rw [if_neg h3]
      congr 1
      omega
  · rw [List.getElem?_eq_none (by omega), List.getElem?_eq_none (by simp; omega)]
theorem OwnsBytes.cellAt {w : World} {g n cp : Nat} {l : List UInt8} (h : OwnsBytes w 0 (.slice (some ⟨g, 0, none⟩) n cp) l) (i : Nat) (hi : i < l.length) : w.cell? ⟨g, i, none⟩ = some (.int .u8 (l[i].toNat : Int)) := by
  obtain ⟨_, _, b, o, e, hc⟩ := RB.at h.reads hi
  obtain ⟨h1, h2⟩ := h
  rcases h2 with ⟨hn, _⟩ | ⟨g', cap, cur, hv, hb, hg, _⟩
  · cases hn
  · cases e
    rw [Nat.zero_add] at hc
    exact hc
theorem OwnsBytes.free {w : World} {g n cp : Nat} {l : List UInt8} (h : OwnsBytes w 0 (.slice (some ⟨g, 0, none⟩) n cp) l) (i : Nat) : w.frozen? ⟨g, i, none⟩ = false := by
  obtain ⟨h1, h2⟩ := h
  rcases h2 with ⟨hn, _⟩ | ⟨g', cap, cur, hv, hb, hg, _⟩
  · cases hn
  · cases hv
    exact Lib.frozen_of_heap hg i
theorem RevTo.len {l l' : List UInt8} {k : Nat} (h : RevTo l l' k) : l'.length = l.length := h.1
set_option maxHeartbeats 4000000 in
set_option maxRecDepth 100000 in
theorem Reverse_any {w : World} {g cp : Nat} {l : List UInt8} (h : OwnsBytes w 0 (.slice (some ⟨g, 0, none⟩) l.length cp) l) (h0 : 0 < l.length) (hl : l.length ≤ 1048576) :
    Calls Try.prog 85 #[.slice (some ⟨g, 0, none⟩) l.length cp] w fun e w' => e = .returned (.tuple #[]) ∧ OwnsBytes w' 0 (.slice (some ⟨g, 0, none⟩) l.length cp) l.reverse ∧ Own (fun k => k = g) w w' := by
  have hj : IntKind.i64.wrap ((l.length : Int) - 1) = ((l.length - 1 : Nat) : Int) := w64 (by omega) (by omega) (by omega)
  have HS : Hid (0 + (l.length - 1) + 1 = l.length) := by show 0 + (l.length - 1) + 1 = l.length; omega
  go_enter Try.func85, Try.ntmps85
  go_wp2
  go_loopw [2, 3] (fun i j wr => ∃ (k m : Nat) (l' : List UInt8), Hid (k + m + 1 = l.length) ∧ i = .int .i64 (k : Int) ∧ j = .int .i64 (m : Int) ∧ Hid (RevTo l l' k) ∧ OwnsBytes wr 0 (.slice (some ⟨g, 0, none⟩) l.length cp) l' ∧ Own (fun k => k = g) w wr) (fun i j _ => l.length - (intOf i).toNat)
  case atStart => exact ⟨0, l.length - 1, l, HS, rfl, by first | rfl | (congr 1), RevTo.start l, h, Own.refl _ _⟩
  case round =>
    obtain ⟨k, m, l', HK, rfl, rfl, HR, ho, hO⟩ := hrel
    have hlen := RevTo.len HR.out
    have hs := HK.out
    by_cases hkm : k < m
    · have hkl : k < l'.length := by omega
      have hml : m < l'.length := by omega
      have hkn : k < l.length := by omega
      have hmn : m < l.length := by omega
      have HN : Hid (RevTo l ((l'.set k l'[m]).set m l'[k]) (k + 1)) := HR.out.step hs hkm hkl hml
      have ck := ho.cellAt k hkl
      have cm := ho.cellAt m hml
      have fk := ho.free k
      have fm := ho.free m
      have o1 := ho.set k l'[m] hkl
      have o2 := o1.set m l'[k] (by simp; exact hml)
      have HO : Hid (OwnsBytes ((wr.setCell ⟨g, k, none⟩ (.int .u8 (l'[m].toNat : Int))).setCell ⟨g, m, none⟩ (.int .u8 (l'[k].toNat : Int))) 0 (.slice (some ⟨g, 0, none⟩) l.length cp) ((l'.set k l'[m]).set m l'[k])) := o2
      have m1 : IntKind.i64.wrap ((k : Int) + 1) = ((k + 1 : Nat) : Int) := w64 (by omega) (by omega) (by omega)
      have m2 : IntKind.i64.wrap ((m : Int) - 1) = ((m - 1 : Nat) : Int) := w64 (by omega) (by omega) (by omega)
      clear hlen hs ho o1 o2
      generalize l'[k] = x at *
      generalize l'[m] = y at *
      go_wp2
      go_region
      have HW : Hid (Own (fun k => k = g) w ((wr.setCell ⟨g, k, none⟩ (.int .u8 (y.toNat : Int))).setCell ⟨g, m, none⟩ (.int .u8 (x.toNat : Int)))) := (hO.trans (Own.set (T := fun k => k = g) rfl wr k _) (fun k hk => .inl hk)).trans (Own.set (T := fun k => k = g) rfl _ m _) (fun k hk => .inl hk)
      generalize (wr.setCell ⟨g, k, none⟩ (.int .u8 (y.toNat : Int))).setCell ⟨g, m, none⟩ (.int .u8 (x.toNat : Int)) = wn at *
      go_wp2
      have hs := HK.out
      exact ⟨⟨k + 1, m - 1, _, by show k + 1 + (m - 1) + 1 = l.length; omega, by first | rfl | (congr 1), by first | rfl | (congr 1), HN, HO.out.keep (fun _ _ _ => rfl), HW.out.trans (Own.of (T := fun k => k = g) ((Below.refl _ wn).drew)) (fun k hk => .inl hk)⟩, by simp [intOf]; omega⟩
    · have HE : Hid (l' = l.reverse) := HR.out.done hs (by omega)
      clear hlen hs
      go_wp2
      go_end0
      exact ⟨rfl, by rw [← HE.out]; exact ho, hO⟩
end Go.Proofs.Ytnnlmnjbmbflpaa
