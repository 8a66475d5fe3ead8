/- The walk of the law AsciiParts, out of the contracts. -/
import Derived.Test.YtoggbikjkccfeaaDoorCArgs
import Derived.Test.YtoggbikjkccfeaaDoorCRSplit
namespace Go.Proofs.YtoggbikjkccfeaaDoor.asciiParts
open Go.RowKit
def sumTo (ts : List (List UInt8)) (k : Nat) : Nat := ((ts.take k).map fun t => min t.length 3000).sum
theorem sumTo_next (ts : List (List UInt8)) (k : Nat) (t : List UInt8) (h : ts[k]? = some t) : sumTo ts (k + 1) = sumTo ts k + min t.length 3000 := by
  unfold sumTo
  rw [List.take_add_one, h]
  simp
theorem sumTo_le (ts : List (List UInt8)) (k : Nat) : sumTo ts k ≤ 3000 * k := by
  induction k with
  | zero => simp [sumTo]
  | succ k ih =>
    cases h : ts[k]? with
    | none =>
      have : sumTo ts (k + 1) = sumTo ts k := by
        unfold sumTo
        rw [List.take_add_one, h]
        simp
      omega
    | some t => rw [sumTo_next ts k t h]; omega
theorem lens_le (ts : List (List UInt8)) (B : Nat) (h : ∀ t ∈ ts, t.length ≤ B) : Lib.lens ts ≤ ts.length * B := by
  induction ts with
  | nil => simp [Lib.lens]
  | cons t r ih =>
    have h1 := ih fun x hx => h x (List.mem_cons_of_mem _ hx)
    have h2 := h t List.mem_cons_self
    simp only [Lib.lens, List.map_cons, List.sum_cons, List.length_cons] at h1 ⊢
    rw [Nat.succ_mul]
    omega
theorem join_bd (ts : List (List UInt8)) (sep : ByteArray) (h : ∀ t ∈ ts, t.length ≤ 140737488351232) (hn : ts.length ≤ 100) (hs : sep.size ≤ 3000) : (Lib.join ts sep.data.toList).length ≤ 9223372036854775807 := by
  have h1 := Asc.join_len ts sep.data.toList
  have h2 := lens_le ts _ h
  rw [← size_data] at h1
  have h3 : sep.size * ts.length ≤ 3000 * 100 := Nat.mul_le_mul hs hn
  have h4 : ts.length * 140737488351232 ≤ 100 * 140737488351232 := Nat.mul_le_mul_right _ hn
  omega
theorem byte_of {n : Int} (h : (Lit.int .u8 n).wf = true) : ∃ c : UInt8, n = (c.toNat : Int) := by
  have := bounds_u8 h
  refine ⟨UInt8.ofNat n.toNat, ?_⟩
  rw [UInt8.toNat_ofNat']
  omega
set_option maxHeartbeats 1000000 in
theorem walk_main (sep : ByteArray) (a : Option Addr) (cap : Nat) (ts : List (List UInt8)) (c : UInt8) (w : World) (w0 : sep.size ≤ 140737488351232) (w1 : ArgTexts w a ts.length cap ts) (hP : Pow w) :
    Calls Tryd.prog 7 #[.string sep, .slice a ts.length cap, .int .u8 c.toNat] w fun e w' => e = .returned (.bool true) ∧ Below w.heap.size w w' := by
  obtain ⟨_, hlc, hlm, hr, hts⟩ := w1
  unfold maxLen at hlm
  have HR : Hid (ReadsTexts w (.slice a ts.length cap) ts) := hr
  have HT : Hid (∀ t ∈ ts, t.length ≤ 140737488351232) := hts
  clear hr hts
  go_enter Tryd.func7, Tryd.ntmps7
  go_wp2
  go_loop [7, 19] (fun nv i => ∃ k : Nat, k ≤ ts.length ∧ k ≤ 100 ∧ i = .int .i64 k ∧ nv = .int .i64 ((sep.size : Int) + (sumTo ts k : Int))) (fun _ i => 100 - (intOf i).toNat)
  case atStart => exact ⟨0, Nat.zero_le _, by omega, rfl, by simp [sumTo]⟩
  case round =>
    obtain ⟨k, hk, hk1, rfl, rfl⟩ := hrel
    have hsum := sumTo_le ts k
    by_cases hlt : k < ts.length ∧ k < 100
    · obtain ⟨hlt, hlt1⟩ := hlt
      obtain ⟨t, ht⟩ : ∃ t, ts[k]? = some t := ⟨_, List.getElem?_eq_getElem hlt⟩
      obtain ⟨b1, o1, rfl, hw1⟩ : ∃ b o, a = some ⟨b, o, none⟩ ∧ w.cell? ⟨b, o + k, none⟩ = some (.string (str t)) := by
        rcases HR.out with ⟨a', c', h1, h0⟩ | ⟨b, o, c', h1, h2, h3⟩
        · rw [h0] at hlt
          simp at hlt
        · cases h1
          exact ⟨b, o, rfl, h3 k t ht⟩
      have HN : Hid ((sumTo ts (k + 1) : Int) = (sumTo ts k : Int) + min ((str t).size : Int) 3000) := by
        show _ = _
        rw [sumTo_next ts k t ht, str_size]
        omega
      have hlt2 : (k : Int) < ((min (ts.length : Int) 100).toNat : Int) := by omega
      clear ht
      go_wp2
      go_round
      case rel => exact ⟨k + 1, by omega, by omega, by go_num, by rw [HN.out]; go_num⟩
      case measure => simp [intOf]; omega
    · have hB := Below.refl w.heap.size w
      have HK : Hid (¬ (k < ts.length ∧ k < 100)) := hlt
      have hk2 : ¬ (k : Int) < max (min (ts.length : Int) 100) 0 := by omega
      clear hlt
      by_cases hbig : 3000 < sep.size + sumTo ts k
      · go_wp2_with (first
          | (go_at_call 15; refine (alive_any _ (hP.below hB)).mono ?_; rintro e w5 ⟨rfl, hn⟩; replace hB := bel hB hn))
        go_ret
        exact ⟨rfl, hB⟩
      · by_cases hmany : 100 < ts.length
        · go_wp2_with (first
            | (go_at_call 15; refine (alive_any _ (hP.below hB)).mono ?_; rintro e w5 ⟨rfl, hn⟩; replace hB := bel hB hn))
          go_ret
          exact ⟨rfl, hB⟩
        · have hjl := join_bd ts sep HT.out (by omega) (by omega)
          by_cases hlong : 3000 < (str (Lib.join ts sep.data.toList)).size
          · have hlo := long_yes hlong
            go_wp2_with (first
              | (go_at_call 35; refine (RJoin_any sep _ ts _ HR.out (by omega) hjl).mono ?_; rintro e w2 ⟨rfl, hw⟩; rw [hw]; clear hw)
              | (go_at_call 16; refine (long_any _ _).mono ?_; rintro e w2 ⟨rfl, hw⟩; rw [hw]; clear hw)
              | (go_at_call 15; refine (alive_any _ (hP.below hB)).mono ?_; rintro e w5 ⟨rfl, hn⟩; replace hB := bel hB hn))
            go_ret
            exact ⟨rfl, hB⟩
          · have hlo := long_no hlong
            have hjl2 : (Lib.join ts sep.data.toList).length ≤ 1000000000 := by rw [str_size] at hlong; omega
            have hjs : (str (Lib.join ts sep.data.toList)).size ≤ 1000000000 := by omega
            have hsl : (Asc.split (str (Lib.join ts sep.data.toList)).data.toList c).length ≤ 1000000000 := by
              have h1 := (Asc.sst_len c (str (Lib.join ts sep.data.toList)).data.toList).1
              rw [← size_data] at h1
              unfold Asc.split
              rw [List.length_append]
              simp
              omega
            go_wp2_with (first
              | (go_at_call 35; refine (RJoin_any sep _ ts _ HR.out (by omega) hjl).mono ?_; rintro e w2 ⟨rfl, hw⟩; rw [hw]; clear hw)
              | (go_at_call 16; refine (long_any _ _).mono ?_; rintro e w2 ⟨rfl, hw⟩; rw [hw]; clear hw)
              | (go_at_call 36; refine (Join_any sep _ ts _ HR.out (by omega) hjl2).mono ?_; rintro e w2 ⟨rfl, hn⟩; replace hB := bel hB hn; clear hn)
              | (go_at_call 37; refine (Split_any _ c _ hjs).mono ?_; rintro e w3 ⟨v1, rfl, hown1, hn⟩; replace hB := bel hB hn; clear hn; have hr1 := hown1.reads; clear hown1)
              | (go_at_call 38; refine (RSplit_any _ c _ hjs).mono ?_; rintro e w4 ⟨v2, rfl, hown2, hn⟩; replace hB := bel hB hn; replace hr1 := hr1.below hn; clear hn; have hr2 := hown2.reads; clear hown2)
              | (go_at_call 22; refine (Texts_bel _ _ _ _ _ hr1 hr2 hsl hsl).mono ?_; rintro e w6 ⟨rfl, hn⟩; replace hB := bel hB hn; clear hn hr1 hr2)
              | (go_at_call 15; refine (alive_any _ (hP.below hB)).mono ?_; rintro e w5 ⟨rfl, hn⟩; replace hB := bel hB hn))
            go_ret
            exact ⟨rfl, hB⟩
theorem walk (sep : ByteArray) (a : Option Addr) (len cap : Nat) (ts : List (List UInt8)) (n : Int) (w : World) (w0 : sep.size ≤ 140737488351232) (w1 : ArgTexts w a len cap ts) (w2 : (Lit.int .u8 n).wf = true) (hT : Lib.TabIs Tryd.prog w "internal/strconv.uint64pow10" .u64 Lib.pow10Tab) :
    Calls Tryd.prog 7 #[.string sep, .slice a len cap, .int .u8 n] w fun e w' => e = .returned (.bool true) ∧ Below w.heap.size w w' := by
  obtain ⟨c, rfl⟩ := byte_of w2
  obtain rfl := w1.1
  exact walk_main sep a cap ts c w w0 w1 hT
end Go.Proofs.YtoggbikjkccfeaaDoor.asciiParts
