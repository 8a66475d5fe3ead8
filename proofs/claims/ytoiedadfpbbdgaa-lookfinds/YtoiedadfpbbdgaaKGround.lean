/- Texts laid as one. -/
import Derived.Test.YtoiedadfpbbdgaaKBase
import Derived.Test.YtoiedadfpbbdgaaKMath
import Derived.Maps.AppendAt
import Derived.Deep.QuietTactic
import Derived.BigQuiet
import Derived.WalkSmall
import Derived.Laws.BitsAllLaws
import Derived.Lib.SmallJoins
import Derived.RegionTactic
/- Contracts of the program's and the reference's small functions on bytes. -/
namespace Go.Proofs.Ytoiedadfpbbdgaa
open Go.RowKit
def blankN (n : Int) : Bool := decide (n = 9) || decide (n = 10) || decide (n = 12) || decide (n = 13) || decide (n = 32)
theorem blankN_byte (c : UInt8) : blankN (c.toNat : Int) = Asc.isBlank c := by
  have h : ∀ m : Nat, m < 256 → decide ((c.toNat : Int) = m) = (c == UInt8.ofNat m) := by
    intro m hm
    rw [Bool.eq_iff_iff]
    simp only [decide_eq_true_eq, beq_iff_eq]
    constructor
    · intro e
      apply UInt8.toNat_inj.1
      simp
      omega
    · intro e
      rw [e]
      simp
      omega
  unfold blankN Asc.isBlank
  have h9 := h 9 (by omega); have h10 := h 10 (by omega); have h12 := h 12 (by omega); have h13 := h 13 (by omega); have h32 := h 32 (by omega)
  simp only [Int.cast_ofNat_Int] at h9 h10 h12 h13 h32
  rw [h9, h10, h12, h13, h32]
  rfl
set_option maxHeartbeats 400000 in
theorem IsBlank_n (n : Int) (w : World) :
    Calls Try.prog 56 #[.int .u8 n] w fun e w' => e = .returned (.bool (blankN n)) ∧ w' = w := by
  by_cases h9 : n = 9
  · subst h9
    go_enter Try.func56, Try.ntmps56
    go_wp2
    go_ret
    exact ⟨rfl, rfl⟩
  by_cases h10 : n = 10
  · subst h10
    go_enter Try.func56, Try.ntmps56
    go_wp2
    go_ret
    exact ⟨rfl, rfl⟩
  by_cases h12 : n = 12
  · subst h12
    go_enter Try.func56, Try.ntmps56
    go_wp2
    go_ret
    exact ⟨rfl, rfl⟩
  by_cases h13 : n = 13
  · subst h13
    go_enter Try.func56, Try.ntmps56
    go_wp2
    go_ret
    exact ⟨rfl, rfl⟩
  by_cases h32 : n = 32
  · subst h32
    go_enter Try.func56, Try.ntmps56
    go_wp2
    go_ret
    exact ⟨rfl, rfl⟩
  have hf : blankN n = false := by simp [blankN, h9, h10, h12, h13, h32]
  rw [hf]
  go_enter Try.func56, Try.ntmps56
  go_wp2
  go_ret
  exact ⟨rfl, rfl⟩
set_option maxHeartbeats 400000 in
theorem RIsBlank_n (n : Int) (w : World) :
    Calls Try.prog 31 #[.int .u8 n] w fun e w' => e = .returned (.bool (blankN n)) ∧ w' = w := by
  rcases (show n = 9 ∨ n = 10 ∨ n = 12 ∨ n = 13 ∨ n = 32 ∨ (n ≠ 9 ∧ n ≠ 10 ∧ n ≠ 12 ∧ n ≠ 13 ∧ n ≠ 32) from by omega) with rfl | rfl | rfl | rfl | rfl | ⟨h9, h10, h12, h13, h32⟩
  case inr.inr.inr.inr.inr =>
    have hf : blankN n = false := by simp [blankN, h9, h10, h12, h13, h32]
    rw [hf]
    go_enter Try.func31, Try.ntmps31
    go_wp2
    go_ret
    exact ⟨ret_bool (by first | rfl | (simp <;> omega)), rfl⟩
  all_goals
    go_enter Try.func31, Try.ntmps31
    go_wp2
    go_ret
    exact ⟨ret_bool (by first | rfl | (simp <;> omega)), rfl⟩
def digN (n : Int) : Bool := decide (48 ≤ n ∧ n ≤ 57)
def letN (n : Int) : Bool := decide ((65 ≤ n ∧ n ≤ 90) ∨ (97 ≤ n ∧ n ≤ 122))
theorem digN_yes {n : Int} (h : 48 ≤ n) (h2 : n ≤ 57) : digN n = true := decide_eq_true ⟨h, h2⟩
theorem digN_no {n : Int} (h : n < 48 ∨ 57 < n) : digN n = false := decide_eq_false (by omega)
theorem letN_yes {n : Int} (h : (65 ≤ n ∧ n ≤ 90) ∨ (97 ≤ n ∧ n ≤ 122)) : letN n = true := decide_eq_true h
theorem letN_no {n : Int} (h : ¬ ((65 ≤ n ∧ n ≤ 90) ∨ (97 ≤ n ∧ n ≤ 122))) : letN n = false := decide_eq_false h
set_option maxHeartbeats 400000 in
theorem RIsDigit_n (n : Int) (w : World) :
    Calls Try.prog 105 #[.int .u8 n] w fun e w' => e = .returned (.bool (digN n)) ∧ w' = w := by
  rcases (show n < 48 ∨ (48 ≤ n ∧ n ≤ 57) ∨ 57 < n from by omega) with h | ⟨h, h2⟩ | h
  · rw [digN_no (.inl h)]
    go_enter Try.func105, Try.ntmps105
    go_wp2
    go_ret
    exact ⟨ret_bool (by first | rfl | (simp <;> omega)), rfl⟩
  · rw [digN_yes h h2]
    go_enter Try.func105, Try.ntmps105
    go_wp2
    go_ret
    exact ⟨ret_bool (by first | rfl | (simp <;> omega)), rfl⟩
  · rw [digN_no (.inr h)]
    have h3 : 48 ≤ n := by omega
    go_enter Try.func105, Try.ntmps105
    go_wp2
    go_ret
    exact ⟨ret_bool (by first | rfl | (simp <;> omega)), rfl⟩
set_option maxHeartbeats 400000 in
theorem RIsLetter_n (n : Int) (w : World) :
    Calls Try.prog 86 #[.int .u8 n] w fun e w' => e = .returned (.bool (letN n)) ∧ w' = w := by
  rcases (show n < 65 ∨ (65 ≤ n ∧ n ≤ 90) ∨ (90 < n ∧ n < 97) ∨ (97 ≤ n ∧ n ≤ 122) ∨ 122 < n from by omega) with h | ⟨h, h2⟩ | ⟨h, h2⟩ | ⟨h, h2⟩ | h
  · rw [letN_no (by omega)]
    go_enter Try.func86, Try.ntmps86
    go_wp2
    go_ret
    exact ⟨ret_bool (by first | rfl | (simp <;> omega)), rfl⟩
  · rw [letN_yes (by omega)]
    go_enter Try.func86, Try.ntmps86
    go_wp2
    go_ret
    exact ⟨ret_bool (by first | rfl | (simp <;> omega)), rfl⟩
  · rw [letN_no (by omega)]
    go_enter Try.func86, Try.ntmps86
    go_wp2
    go_ret
    exact ⟨ret_bool (by first | rfl | (simp <;> omega)), rfl⟩
  · rw [letN_yes (by omega)]
    go_enter Try.func86, Try.ntmps86
    go_wp2
    go_ret
    exact ⟨ret_bool (by first | rfl | (simp <;> omega)), rfl⟩
  · rw [letN_no (by omega)]
    go_enter Try.func86, Try.ntmps86
    go_wp2
    go_ret
    exact ⟨ret_bool (by first | rfl | (simp <;> omega)), rfl⟩
end Go.Proofs.Ytoiedadfpbbdgaa
/- Slices of texts of the call's own. -/
namespace Go.Proofs.Ytoiedadfpbbdgaa
open Go.RowKit
theorem info9 : (Try.prog.info? 9).map (fun i => (i.zero, i.size, i.bytes)) = some (some (.string ByteArray.empty), 1, 16) := by kernel_rfl
def strV (l : List UInt8) : Value := .string ⟨l.toArray⟩
theorem strV_data (s : ByteArray) : strV s.data.toList = .string s := by simp [strV]
theorem strV_cut (s : ByteArray) (f k : Nat) : strV ((s.data.toList.take k).drop f) = .string (s.extract f k) := by
  rw [← data_cut, strV_data]
theorem IsBlank_any (c : UInt8) (w : World) :
    Calls Try.prog 56 #[.int .u8 c.toNat] w fun e w' => e = .returned (.bool (Asc.isBlank c)) ∧ w' = w := by
  rw [← blankN_byte]
  exact IsBlank_n _ _
/-- The slice owns these texts, in memory from 'B' on. -/
def OwnsTexts (w : World) (B : Nat) (v : Value) (ts : List (List UInt8)) : Prop := w.ownsRow B 9 1 v ts.length (ts.map strV)
theorem OwnsTexts.nil (w : World) (B : Nat) : OwnsTexts w B (.slice none 0 0) [] := World.ownsRow_nil _ _ _ _
theorem OwnsTexts.of {w : World} {B : Nat} {v : Value} {ts us : List (List UInt8)} {y : List UInt8} {x : Value} (h : us = ts ++ [y]) (hx : strV y = x) (ho : w.ownsRow B 9 1 v (ts.length + 1) (ts.map strV ++ [x])) : OwnsTexts w B v us := by
  subst h; subst hx
  unfold OwnsTexts
  simpa using ho
set_option maxHeartbeats 400000 in
theorem Words_any (s : ByteArray) (w : World) (hs : s.size ≤ 1000000000) :
    Calls Try.prog 36 #[.string s] w fun e w' => ∃ v, e = .returned v ∧ OwnsTexts w' w.heap.size v (Asc.words s.data.toList) ∧ Below w.heap.size w w' := by
  obtain ⟨i0, hi, hz0, hz1, hz2⟩ := info_parts info9
  go_enter Try.func36, Try.ntmps36
  go_wp2
  go_loopw [3, 4, 8] (fun v fr i wr => ∃ k f : Nat, k ≤ s.size ∧ i = .int .i64 k ∧ fr = .int .i64 f ∧ f ≤ k ∧ Hid ((Asc.wst (s.data.toList.take k)).2 = (s.data.toList.take k).drop f) ∧
    OwnsTexts wr w.heap.size v (Asc.wst (s.data.toList.take k)).1 ∧ Below w.heap.size w wr) (fun _ _ i _ => s.size - (intOf i).toNat)
  case atStart => exact ⟨0, 0, Nat.zero_le _, rfl, rfl, Nat.le_refl _, by show _ = _; simp [Asc.wst], OwnsTexts.nil _ _, Below.refl _ _⟩
  case round =>
    obtain ⟨k, f, hk, rfl, rfl, hf, HC, hown, hbel⟩ := hrel
    have hwl := Asc.wst_len (s.data.toList.take k)
    have htl : (s.data.toList.take k).length = k := by rw [List.length_take]; exact Nat.min_eq_left hk
    rw [htl] at hwl
    clear htl
    by_cases hlt : k < s.size
    · cases hb : Asc.isBlank s[k]
      · have HN : Hid (Asc.wst (s.data.toList.take (k + 1)) = ((Asc.wst (s.data.toList.take k)).1, (s.data.toList.take (k + 1)).drop f)) := Asc.word_on _ k f hlt hb hf HC.out
        go_wp2_with (first
          | (go_at_call 56; refine (IsBlank_any _ _).mono ?_; rintro e w1 ⟨rfl, hw⟩; rw [hw]; clear hw))
        go_roundw
        case rel => exact ⟨k + 1, f, by omega, by go_num, rfl, by omega, by show _ = _; rw [HN.out], by rw [HN.out]; exact hown, hbel⟩
        case measure => simp [intOf]; omega
      · by_cases hfk : f < k
        · have HN : Hid (Asc.wst (s.data.toList.take (k + 1)) = ((Asc.wst (s.data.toList.take k)).1 ++ [(s.data.toList.take k).drop f], [])) := Asc.word_blank _ k f hlt hb hfk HC.out
          go_wp2_with (first
            | (go_at_call 56; refine (IsBlank_any _ _).mono ?_; rintro e w1 ⟨rfl, hw⟩; rw [hw]; clear hw)
            | (at_builtin; refine wpList_append_own _ rfl _ _ 31 rfl w.heap.size 9 i0 (.string ByteArray.empty) 1 16 Try.underlying31 hi hz0 hz1 hz2 rfl (by decide) _ _ _ rfl (World.ownsRow.alloc hown _) ⟨wr.heap.size, 0, none⟩ 1 1 [.string (s.extract f k)] rfl rfl (cell_one_new _ _ _) (fun x hx => by simp at hx; subst hx; rfl) (by unfold maxLen; omega) (by omega) (by have := hbel.size; simp; omega) ?_; intro v' w3 hown' hgrow3 hnil3))
          go_roundw
          case rel => exact ⟨k + 1, k + 1, by omega, by go_num, by go_num, by omega, by show _ = _; rw [HN.out]; simp, OwnsTexts.of (congrArg Prod.fst HN.out) (strV_cut s f k) hown', (hbel.alloc hbel.size _).grown hgrow3 (by have := hbel.size; simp; omega) (fun q hq => (World.ownsRow.lt hown q hq).1)⟩
          case measure => simp [intOf]; omega
        · have HN : Hid (Asc.wst (s.data.toList.take (k + 1)) = ((Asc.wst (s.data.toList.take k)).1, [])) := Asc.word_gap _ k f hlt hb hfk HC.out
          go_wp2_with (first
            | (go_at_call 56; refine (IsBlank_any _ _).mono ?_; rintro e w1 ⟨rfl, hw⟩; rw [hw]; clear hw))
          go_roundw
          case rel => exact ⟨k + 1, k + 1, by omega, by go_num, by go_num, by omega, by show _ = _; rw [HN.out]; simp, by rw [HN.out]; exact hown, hbel⟩
          case measure => simp [intOf]; omega
    · by_cases hfk : f < s.size
      · have HN : Hid (Asc.words s.data.toList = (Asc.wst (s.data.toList.take k)).1 ++ [(s.data.toList.take s.size).drop f]) := Asc.words_more _ k f hlt hk hfk HC.out
        go_wp2_with (first
            | (at_builtin; refine wpList_append_own _ rfl _ _ 31 rfl w.heap.size 9 i0 (.string ByteArray.empty) 1 16 Try.underlying31 hi hz0 hz1 hz2 rfl (by decide) _ _ _ rfl (World.ownsRow.alloc hown _) ⟨wr.heap.size, 0, none⟩ 1 1 [.string (s.extract f s.size)] rfl rfl (cell_one_new _ _ _) (fun x hx => by simp at hx; subst hx; rfl) (by unfold maxLen; omega) (by omega) (by have := hbel.size; simp; omega) ?_; intro v' w3 hown' hgrow3 hnil3))
        go_ret
        exact ⟨_, rfl, OwnsTexts.of HN.out (strV_cut s f s.size) hown', (hbel.alloc hbel.size _).grown hgrow3 (by have := hbel.size; simp; omega) (fun q hq => (World.ownsRow.lt hown q hq).1)⟩
      · have HN : Hid (Asc.words s.data.toList = (Asc.wst (s.data.toList.take k)).1) := Asc.words_done _ k f hlt hk hfk HC.out
        go_wp2
        go_ret
        exact ⟨_, rfl, by rw [HN.out]; exact hown, hbel⟩
end Go.Proofs.Ytoiedadfpbbdgaa
/- Slices that read as texts; the reference's Texts. -/
namespace Go.Proofs.Ytoiedadfpbbdgaa
open Go.RowKit
/-- The slice reads as these texts. -/
def ReadsTexts (w : World) (v : Value) (ts : List (List UInt8)) : Prop :=
  (∃ a c, v = .slice a 0 c ∧ ts = []) ∨ ∃ b o c, v = .slice (some ⟨b, o, none⟩) ts.length c ∧ ts.length ≤ c ∧ ∀ (j : Nat) t, ts[j]? = some t → w.cell? ⟨b, o + j, none⟩ = some (strV t)
theorem OwnsTexts.reads {w : World} {B : Nat} {v : Value} {ts : List (List UInt8)} (h : OwnsTexts w B v ts) : ReadsTexts w v ts := by
  rcases h.2 with ⟨rfl, h0⟩ | ⟨g, cap, cur, rfl, _, hg, hc, _, hcs, ht⟩
  · exact .inl ⟨_, _, rfl, List.eq_nil_of_length_eq_zero h0⟩
  · refine .inr ⟨g, 0, cap, rfl, hc, fun j t hj => ?_⟩
    have hlt : j < ts.length := (List.getElem?_eq_some_iff.1 hj).1
    have := World.ownsRow.cellAt (w := w) (base := B) (e := 9) (size := 1) (g := g) (cap := cap) (n := ts.length) (xs := ts.map strV) h j (by omega)
    rw [Nat.zero_add, this, List.getElem?_map, hj]
    rfl
set_option maxHeartbeats 400000 in
theorem Texts_any (v u : Value) (ts us : List (List UInt8)) (w : World) (hv : ReadsTexts w v ts) (hu : ReadsTexts w u us) (hl : ts.length ≤ 1000000000) (hm : us.length ≤ 1000000000) :
    Calls Try.prog 12 #[v, u] w fun e w' => e = .returned (.bool (decide (ts = us))) ∧ ∃ n, w' = w.drewN n := by
  obtain ⟨a1, c1, rfl⟩ : ∃ a c, v = .slice a ts.length c := by
    rcases hv with ⟨a, c, rfl, rfl⟩ | ⟨b, o, c, rfl, _, _⟩
    · exact ⟨_, _, rfl⟩
    · exact ⟨_, _, rfl⟩
  obtain ⟨a2, c2, rfl⟩ : ∃ a c, u = .slice a us.length c := by
    rcases hu with ⟨a, c, rfl, rfl⟩ | ⟨b, o, c, rfl, _, _⟩
    · exact ⟨_, _, rfl⟩
    · exact ⟨_, _, rfl⟩
  by_cases hlen : ts.length = us.length
  · have hb : ((ts.length : Int) != (us.length : Int)) = false := by simp [hlen]
    go_enter Try.func12, Try.ntmps12
    have HL : Hid (ts.length = us.length) := hlen
    have HV : Hid (ReadsTexts w (.slice a1 ts.length c1) ts) := hv
    have HU : Hid (ReadsTexts w (.slice a2 us.length c2) us) := hu
    clear hlen hv hu
    go_wp2
    go_loopw [5] (fun i wr => ∃ k m : Nat, k ≤ ts.length ∧ i = .int .i64 k ∧ Hid (ts.take k = us.take k) ∧ wr = w.drewN m) (fun i _ => ts.length - (intOf i).toNat)
    case atStart => exact ⟨0, 0, Nat.zero_le _, rfl, rfl, rfl⟩
    case round =>
      obtain ⟨k, m, hk, rfl, HE, rfl⟩ := hrel
      by_cases hlt : k < ts.length
      · obtain ⟨t, ht⟩ : ∃ t, ts[k]? = some t := ⟨_, List.getElem?_eq_getElem hlt⟩
        obtain ⟨x, hx⟩ : ∃ x, us[k]? = some x := ⟨_, List.getElem?_eq_getElem (by have := HL.out; omega)⟩
        obtain ⟨b1, o1, rfl, hc1, hw1⟩ : ∃ b o, a1 = some ⟨b, o, none⟩ ∧ ts.length ≤ c1 ∧ w.cell? ⟨b, o + k, none⟩ = some (strV t) := by
          rcases HV.out with ⟨a, c, h1, rfl⟩ | ⟨b, o, c, h1, h2, h3⟩
          · simp at hlt
          · cases h1
            exact ⟨b, o, rfl, h2, h3 k t ht⟩
        obtain ⟨b2, o2, rfl, hc2, hw2⟩ : ∃ b o, a2 = some ⟨b, o, none⟩ ∧ us.length ≤ c2 ∧ w.cell? ⟨b, o + k, none⟩ = some (strV x) := by
          rcases HU.out with ⟨a, c, h1, rfl⟩ | ⟨b, o, c, h1, h2, h3⟩
          · simp at hx
          · cases h1
            exact ⟨b, o, rfl, h2, h3 k x hx⟩
        have HX : Hid (ts[k]? = some t ∧ us[k]? = some x) := ⟨ht, hx⟩
        clear ht hx
        unfold strV at hw1 hw2
        have hlt2 : k < us.length := by have := HL.out; omega
        by_cases htx : t = x
        · subst htx
          have HN : Hid (ts.take (k + 1) = us.take (k + 1)) := by
            show _ = _
            have h1 := HX.out.1
            have h2 := HX.out.2
            rw [List.take_add_one, List.take_add_one, HE.out, h1, h2]
          go_wp2
          go_quiet (fail)
          go_wp2
          go_roundw
          case rel => exact ⟨k + 1, m + nq, by omega, by go_num, HN, rfl⟩
          case measure => simp [intOf]; omega
        · have HN : Hid (decide (ts = us) = false) := by
            show _ = _
            rw [decide_eq_false_iff_not]
            rintro rfl
            have := HX.out.1.symm.trans HX.out.2
            exact htx (Option.some.inj this)
          have hne : (t == x) = false := by simp [htx]
          go_wp2
          go_quiet (fail)
          go_wp2
          go_ret
          exact ⟨ret_bool HN.out.symm, m + nq, by simp⟩
      · have HN : Hid (decide (ts = us) = true) := by
            show _ = _
            rw [decide_eq_true_eq]
            have h1 := HE.out
            have h2 := HL.out
            rwa [List.take_of_length_le (by omega), List.take_of_length_le (by omega)] at h1
        go_wp2
        go_ret
        exact ⟨ret_bool HN.out.symm, m, rfl⟩
  · have hb : ((ts.length : Int) != (us.length : Int)) = true := by simp; omega
    have HN : Hid (decide (ts = us) = false) := by
      show _ = _
      rw [decide_eq_false_iff_not]
      rintro rfl
      exact hlen rfl
    clear hv hu
    go_enter Try.func12, Try.ntmps12
    go_wp2
    go_ret
    exact ⟨ret_bool HN.out.symm, 0, rfl⟩
end Go.Proofs.Ytoiedadfpbbdgaa
/- The contract of the program's Hex. -/
namespace Go.Proofs.Ytoiedadfpbbdgaa
open Go.RowKit
theorem size_data (b : ByteArray) : b.size = b.data.toList.length := Array.length_toList.symm
theorem ret_pair {a b c d : Value} (h : a = c) (h2 : b = d) : Ending.returned (.tuple #[a, b]) = .returned (.tuple #[c, d]) := by rw [h, h2]
theorem byte_bd (c : UInt8) : (0 : Int) ≤ (c.toNat : Int) ∧ (c.toNat : Int) ≤ 255 := by have := c.toNat_lt; omega
theorem take_all (a : ByteArray) (k : Nat) (h : a.size ≤ k) : a.data.toList.take k = a.data.toList := List.take_of_length_le (by simpa using h)
end Go.Proofs.Ytoiedadfpbbdgaa
/- The contract of the reference's Nibble. -/
namespace Go.Proofs.Ytoiedadfpbbdgaa
open Go.RowKit
theorem empty_yes (s : ByteArray) (h : s.size = 0) : s.toList.isEmpty = true := by
  rw [ByteArray.toList_eq, List.isEmpty_iff, ← List.length_eq_zero_iff]
  exact h
theorem empty_no (s : ByteArray) (h : ¬ s.size = 0) : s.toList.isEmpty = false := by
  rw [ByteArray.toList_eq, Bool.eq_false_iff]
  intro e
  exact h (List.length_eq_zero_iff.2 (List.isEmpty_iff.1 e))
def nibV (n : Int) : Int := if Asc.hexOk n = true then Asc.hexV n else 16
theorem nib_yes (n : Int) (h : Asc.hexOk n = true) : nibV n = Asc.hexV n := if_pos h
theorem nib_no (n : Int) (h : Asc.hexOk n = false) : nibV n = 16 := by unfold nibV; rw [h]; rfl
set_option maxHeartbeats 1000000 in
theorem Rnibble_n (n : Int) (w : World) (h0 : 0 ≤ n) (h1 : n ≤ 255) :
    Calls Try.prog 116 #[.int .u8 n] w fun e w' => e = .returned (.int .u32 (nibV n)) ∧ w' = w := by
  rcases (show (48 ≤ n ∧ n ≤ 57) ∨ (97 ≤ n ∧ n ≤ 102) ∨ (65 ≤ n ∧ n ≤ 70) ∨ n < 48 ∨ (57 < n ∧ n < 65) ∨ (70 < n ∧ n < 97) ∨ 102 < n from by omega) with ⟨ha, hb⟩ | ⟨ha, hb⟩ | ⟨ha, hb⟩ | ha | ⟨ha, hb⟩ | ⟨ha, hb⟩ | ha
  · have hd : digN n = true := digN_yes ha hb
    have HN : Hid (nibV n = n - 48) := by
      show _ = _
      unfold nibV Asc.hexOk Asc.hexV
      rw [if_pos (by simp [ha, hb]), if_pos ⟨ha, hb⟩]
    go_enter Try.func116, Try.ntmps116
    go_wp2_with (first
      | (go_at_call 105; refine (RIsDigit_n n _).mono ?_; rintro e w1 ⟨rfl, hw⟩; rw [hw]; clear hw))
    go_ret
    exact ⟨ret_int HN.out.symm, rfl⟩
  · have hd : digN n = false := digN_no (by omega)
    have HN : Hid (nibV n = n - 97 + 10) := by
      show _ = _
      unfold nibV Asc.hexOk Asc.hexV
      rw [if_pos (by simp [ha, hb]), if_neg (by omega), if_pos ⟨ha, hb⟩]
      omega
    go_enter Try.func116, Try.ntmps116
    go_wp2_with (first
      | (go_at_call 105; refine (RIsDigit_n n _).mono ?_; rintro e w1 ⟨rfl, hw⟩; rw [hw]; clear hw))
    go_ret
    exact ⟨ret_int HN.out.symm, rfl⟩
  · have hd : digN n = false := digN_no (by omega)
    have HN : Hid (nibV n = n - 65 + 10) := by
      show _ = _
      unfold nibV Asc.hexOk Asc.hexV
      rw [if_pos (by simp [ha, hb]), if_neg (by omega), if_neg (by omega), if_pos ⟨ha, hb⟩]
      omega
    go_enter Try.func116, Try.ntmps116
    go_wp2_with (first
      | (go_at_call 105; refine (RIsDigit_n n _).mono ?_; rintro e w1 ⟨rfl, hw⟩; rw [hw]; clear hw))
    go_ret
    exact ⟨ret_int HN.out.symm, rfl⟩
  all_goals
    have hd : digN n = false := digN_no (by omega)
    have HN : Hid (nibV n = 16) := by
      show _ = _
      unfold nibV Asc.hexOk
      rw [decide_eq_false (by omega), decide_eq_false (by omega), decide_eq_false (by omega)]
      rfl
    go_enter Try.func116, Try.ntmps116
    go_wp2_with (first
      | (go_at_call 105; refine (RIsDigit_n n _).mono ?_; rintro e w1 ⟨rfl, hw⟩; rw [hw]; clear hw))
    go_ret
    exact ⟨ret_int HN.out.symm, rfl⟩
theorem Rnibble_any (c : UInt8) (w : World) :
    Calls Try.prog 116 #[.int .u8 c.toNat] w fun e w' => e = .returned (.int .u32 (nibV (Asc.bt c))) ∧ w' = w := Rnibble_n _ _ (byte_bd c).1 (byte_bd c).2
end Go.Proofs.Ytoiedadfpbbdgaa
/- Contracts of Split, the program's and the reference's. -/
namespace Go.Proofs.Ytoiedadfpbbdgaa
open Go.RowKit
theorem cut_size (b : ByteArray) (f t : Nat) (h : t ≤ b.size) : (b.extract f t).size = t - f := by
  rw [size_data, data_cut, List.length_drop, List.length_take, ← size_data]
  omega
theorem cut_one (s : ByteArray) (k : Nat) (h : k < s.size) : (s.extract k (k + 1)).data.toList = [s[k]] := by
  rw [data_cut, List.take_succ_eq_append_getElem (show k < s.data.toList.length from by rw [← size_data]; exact h), List.drop_append_of_le_length (by rw [List.length_take, ← size_data]; omega), List.drop_eq_nil_of_le (by rw [List.length_take]; omega)]
  rfl
end Go.Proofs.Ytoiedadfpbbdgaa
