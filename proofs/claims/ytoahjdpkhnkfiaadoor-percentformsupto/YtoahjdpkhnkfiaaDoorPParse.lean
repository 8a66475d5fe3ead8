/- The contract of percent.Parse. -/
import Derived.Test.YtoahjdpkhnkfiaaDoorPForm
import Derived.Test.YtoahjdpkhnkfiaaDoorPSplit
namespace Go.Proofs.YtoahjdpkhnkfiaaDoor
open Go.RowKit
/-- What Parse gives: no pairs and the error's number 5, or the pairs and none. -/
def parsed (l : List UInt8) : List Pct.Pr := if 512 < l.count 38 then [] else Pct.parse l
def perr (l : List UInt8) : Int := if 512 < l.count 38 then 5 else 0
theorem parsed_many {l : List UInt8} (h : 512 < l.count 38) : parsed l = [] ∧ perr l = 5 := by unfold parsed perr; rw [if_pos h, if_pos h]; exact ⟨rfl, rfl⟩
theorem parsed_ok {l : List UInt8} (h : ¬ 512 < l.count 38) : parsed l = Pct.parse l ∧ perr l = 0 := by unfold parsed perr; rw [if_neg h, if_neg h]; exact ⟨rfl, rfl⟩
theorem Count_amp (l : List UInt8) (w : World) : Calls Tryd.prog 36 #[.string (str l), .string ⟨#[38]⟩] w fun e w' => e = .returned (.int .i64 (l.count 38 : Nat)) ∧ w' = w := by
  have := Tryd.strings_Count_one (str l) 38 w
  rw [str_data] at this
  exact this
theorem cut_len1 (t sep : List UInt8) : (Lib.cut t sep).1.length ≤ t.length ∧ (Lib.cut t sep).2.1.length ≤ t.length := by
  unfold Lib.cut
  split
  · simp only [List.length_take, List.length_drop]; omega
  · simp
theorem Cut_eq (t : List UInt8) (w : World) (hM : MaxL w) (hz : t.length ≤ 1000000000) :
    Calls Tryd.prog 38 #[.string (str t), .string ⟨#[61]⟩] w fun e w' => e = .returned (.tuple #[.string (str (Lib.cut t [61]).1), .string (str (Lib.cut t [61]).2.1), .bool (Lib.cut t [61]).2.2]) ∧ Below w.heap.size w w' := by
  obtain ⟨m, hm⟩ := hM
  have := Tryd.strings_Cut (str t) ⟨#[61]⟩ m w (by rw [str_size]; omega) hm
  rw [str_data] at this
  refine this.mono ?_
  rintro e w' ⟨rfl, n, rfl⟩
  exact ⟨rfl, below_drewN n (Below.refl _ _)⟩
theorem owns_base {w : World} {B C : Nat} {e : TypeId} {size n : Nat} {v : Value} {xs : List Value} (h : w.ownsRow C e size v n xs) (hb : B ≤ C) : w.ownsRow B e size v n xs := by
  refine ⟨h.1, ?_⟩
  rcases h.2 with h0 | ⟨g, cap, cur, hv, h1, hc⟩
  · exact .inl h0
  · exact .inr ⟨g, cap, cur, hv, Nat.le_trans hb h1, hc⟩
theorem ReadsTexts.at {w : World} {a : Option Addr} {n c : Nat} {ts : List (List UInt8)} {k : Nat} {t : List UInt8} (h : ReadsTexts w (.slice a n c) ts) (hp : ts[k]? = some t) :
    ∃ b o, a = some ⟨b, o, none⟩ ∧ ts.length ≤ c ∧ b < w.heap.size ∧ w.cell? ⟨b, o + k, none⟩ = some (.string (str t)) := by
  rcases h with ⟨a, c, _, rfl⟩ | ⟨b, o, c, h1, h2, h3⟩
  · simp at hp
  · cases h1
    exact ⟨b, o, rfl, h2, cell_lt (h3 k t hp), h3 k t hp⟩
theorem ReadsTexts.form {w : World} {v : Value} {ts : List (List UInt8)} (h : ReadsTexts w v ts) : ∃ a c, v = .slice a ts.length c := by
  rcases h with ⟨a, c, rfl, rfl⟩ | ⟨b, o, c, rfl, _, _⟩
  · exact ⟨_, _, rfl⟩
  · exact ⟨_, _, rfl⟩
theorem empty_not {t : List UInt8} (h : ¬ t = []) : (str t).toList.isEmpty = false := by
  rw [str_list]
  cases t with
  | nil => exact absurd rfl h
  | cons => rfl
set_option maxHeartbeats 2000000 in
set_option maxRecDepth 100000 in
theorem Parse_any (l : List UInt8) (w : World) (hM : MaxL w) (hz : l.length ≤ 1000000000) :
    Calls Tryd.prog 16 #[.string (str l)] w fun e w' => ∃ u, e = .returned (.tuple #[u, .int .i64 (perr l)]) ∧ OwnsPairs 50 w' w.heap.size u (parsed l) ∧ Below w.heap.size w w' := by
  by_cases hmany : 512 < l.count 38
  · have HP := parsed_many hmany
    have HP : Hid _ := HP
    go_enter Tryd.func16, Tryd.ntmps16
    go_wp2_with (go_at_call 36; refine (Count_amp l _).mono ?_; rintro e w1 ⟨rfl, rfl⟩)
    go_ret2
    exact ⟨.slice none 0 0, by rw [HP.out.2]; rfl, by rw [HP.out.1]; exact OwnsPairs.nil _ _ _, Below.refl _ _⟩
  · have HP : Hid _ := parsed_ok hmany
    have hcs := Pct.count_split 38 l
    obtain ⟨i0, hi, hz0, hz1, hz2⟩ := info_parts infoTheirs
    have HPL : Hid (∀ p ∈ Asc.split l 38, p.length ≤ l.length) := Asc.split_part 38 l
    go_enter Tryd.func16, Tryd.ntmps16
    go_wp2_with (first
      | (go_at_call 36; refine (Count_amp l _).mono ?_; rintro e w1 ⟨rfl, rfl⟩)
      | (go_at_call 37; refine (Split_any (str l) 38 _ (by rw [str_size]; exact hz)).mono ?_; rintro e w2 ⟨v, rfl, hown, hb2⟩; rw [str_data] at hown; have hrd := hown.reads; clear hown; obtain ⟨a1, c1, rfl⟩ := hrd.form))
    have HRD : Hid (ReadsTexts w2 (.slice a1 (Asc.split l 38).length c1) (Asc.split l 38)) := hrd
    have hw2 := hb2.size
    clear hrd
    go_loopw [4, 16] (fun u i wr => ∃ k : Nat, k ≤ (Asc.split l 38).length ∧ i = .int .i64 k ∧ OwnsPairs 50 wr w2.heap.size u (Pct.pairs ((Asc.split l 38).take k)) ∧ Below w2.heap.size w2 wr) (fun _ i _ => (Asc.split l 38).length - (intOf i).toNat)
    case atStart => exact ⟨0, Nat.zero_le _, rfl, OwnsPairs.nil _ _ _, Below.refl _ _⟩
    case round =>
      obtain ⟨k, hk, rfl, hown, hbel⟩ := hrel
      by_cases hlt : k < (Asc.split l 38).length
      · obtain ⟨t, ht⟩ : ∃ t, (Asc.split l 38)[k]? = some t := ⟨_, List.getElem?_eq_getElem hlt⟩
        obtain ⟨b, o, rfl, hc, hbl, h1⟩ := HRD.out.at ht
        have g1 := (hbel.cell (p := ⟨b, o + k, none⟩) hbl).trans h1
        have htl := HPL.out t (List.mem_of_getElem? ht)
        by_cases hte : t = []
        · subst hte
          have HN : Hid _ := Pct.pairs_empty _ _ ht
          have hne : (str []).toList.isEmpty = true := by rw [str_list]; rfl
          clear ht h1
          go_wp2
          go_roundw
          case rel => exact ⟨k + 1, by omega, by go_num, by rw [HN.out]; exact hown, hbel⟩
          case measure => simp [intOf]; omega
        · have HN : Hid _ := Pct.pairs_more _ _ t ht hte
          have hne := empty_not hte
          have hcl := cut_len1 t [61]
          have hpl := Pct.pairs_le ((Asc.split l 38).take k)
          rw [List.length_take] at hpl
          have hpl2 : (Pct.pairs ((Asc.split l 38).take k)).length ≤ 1000 := by omega
          have hM2 := (hM.below hb2).below hbel
          have hsz := hbel.size
          clear ht h1 hte hpl
          go_wp2_with (first
            | (go_at_call 38; refine (Cut_eq t _ hM2 (by omega)).mono ?_; rintro e w3 ⟨rfl, hb3⟩)
            | (go_at_call_of 39 (str (Lib.cut t [61]).1); refine (read_any _ _ (hM2.below hb3) (by omega)).mono ?_; rintro e w4 ⟨rfl, hb4⟩)
            | (go_at_call_of 39 (str (Lib.cut t [61]).2.1); refine (read_any _ _ (hM2.below (bel hb3 hb4)) (by omega)).mono ?_; rintro e w5 ⟨rfl, hb5⟩; have hb5' := bel (bel hb3 hb4) hb5; have hsz5 := hb5'.size; have hown5 := ownsRow_below hown hb5')
            | (at_builtin; refine wpList_append_own _ rfl _ _ 29 rfl w2.heap.size 50 i0 (.agg #[.string ByteArray.empty, .string ByteArray.empty]) 2 32 Tryd.underlying29 hi hz0 hz1 hz2 rfl (by decide) _ _ _ rfl (World.ownsRow.alloc hown5 _) ⟨w5.heap.size, 0, none⟩ 1 1 [.string (str (Pct.pairOf t).1), .string (str (Pct.pairOf t).2)] rfl rfl (cell_two_new _ _ _ _) (fun x hx => by simp at hx; rcases hx with rfl | rfl <;> rfl) (by unfold maxLen; omega) (by omega) (by simp; omega) ?_; intro v' w6 hown' hgrow hnil))
          go_roundw
          case rel => exact ⟨k + 1, by omega, by go_num, OwnsPairs.of HN.out rfl rfl hown', ((hbel.trans (hb5'.mono hsz)).alloc (by omega) _).grown hgrow (by simp; omega) (fun q hq => (World.ownsRow.lt hown q hq).1)⟩
          case measure => simp [intOf]; omega
      · have HN : Hid ((Asc.split l 38).take k = Asc.split l 38) := List.take_of_length_le (by omega)
        go_wp2
        go_ret2
        exact ⟨_, by rw [HP.out.2]; rfl, by rw [HP.out.1, Pct.parse, ← HN.out]; exact owns_base hown hw2, bel hb2 hbel⟩
end Go.Proofs.YtoahjdpkhnkfiaaDoor
