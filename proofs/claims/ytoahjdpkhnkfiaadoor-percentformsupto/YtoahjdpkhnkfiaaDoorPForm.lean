/- The contracts of percent's write, read and Form. -/
import Derived.Test.YtoahjdpkhnkfiaaDoorPMark2
import Derived.Test.YtoahjdpkhnkfiaaDoorPUnmark
import Derived.Test.YtoahjdpkhnkfiaaDoorPJoin
import Derived.Test.YtoahjdpkhnkfiaaDoorURepair
import Derived.Test.YtoahjdpkhnkfiaaDoorPPairs
import Derived.Deep.RegionWith
namespace Go.Proofs.YtoahjdpkhnkfiaaDoor
open Go.RowKit
/-- What the walks are told of internal/bytealg.MaxLen: it is a whole number. -/
def MaxL (w : World) : Prop := ∃ m : Int, w.cell? ⟨0, 0, none⟩ = some (.int .i64 m)
theorem MaxL.below {w w' : World} (h : MaxL w) (hb : Below w.heap.size w w') : MaxL w' := by
  obtain ⟨m, hm⟩ := h
  exact ⟨m, (hb.cell (p := ⟨0, 0, none⟩) (cell_lt hm)).trans hm⟩
theorem ReplaceAll_any (a b : UInt8) (hab : a ≠ b) (l : List UInt8) (w : World) (hM : MaxL w) (hz : l.length ≤ 4000000000) :
    Calls Tryd.prog 57 #[.string (str l), .string ⟨#[a]⟩, .string ⟨#[b]⟩] w fun e w' => e = .returned (.string (str (Pct.turned l a b))) ∧ Below w.heap.size w w' := by
  obtain ⟨m, hm⟩ := hM
  have hc : Lib.countB (str l) ⟨#[a]⟩ ≤ l.length := by
    show Lib.count (str l).data.toList [a] ≤ _
    rw [str_data, Lib.count_one]
    exact List.count_le_length
  have h2 : (⟨#[b]⟩ : ByteArray).size = 1 := rfl
  have := Tryd.strings_ReplaceAll (str l) ⟨#[a]⟩ ⟨#[b]⟩ m w (by rw [str_size]; omega) hm (Nat.le_refl _) (by rw [str_size, h2]; omega)
  refine this.mono ?_
  rintro e w' ⟨rfl, hb⟩
  refine ⟨?_, hb⟩
  rw [str_data]
  show Ending.returned (.string (str (Lib.replaceAll l [a] [b]))) = _
  rw [Pct.replaceAll_map a b hab]
theorem Mark_blank (s : ByteArray) (w : World) (hs : s.size ≤ 1000000000) :
    Calls Tryd.prog 11 #[.string s, .string ⟨#[32]⟩] w fun e w' => e = .returned (.string (str (Pct.mark [32] s.data.toList))) ∧ Below w.heap.size w w' := Mark_any s ⟨#[32]⟩ w hs (by decide)
set_option maxHeartbeats 1000000 in
theorem write_any (l : List UInt8) (w : World) (hM : MaxL w) (hz : l.length ≤ 1000000000) :
    Calls Tryd.prog 42 #[.string (str l)] w fun e w' => e = .returned (.string (str (Pct.part l))) ∧ Below w.heap.size w w' := by
  have hml := Pct.mark_len [32] l
  go_enter Tryd.func42, Tryd.ntmps42
  go_wp2_with (first
    | (go_at_call 11; refine (Mark_blank (str l) _ (by rw [str_size]; exact hz)).mono ?_; rintro e w1 ⟨rfl, hb1⟩; rw [str_data])
    | (go_at_call 57; refine (ReplaceAll_any 32 43 (by decide) _ _ (hM.below hb1) (by omega)).mono ?_; rintro e w2 ⟨rfl, hb2⟩))
  go_ret
  exact ⟨rfl, bel hb1 hb2⟩
set_option maxHeartbeats 1000000 in
theorem read_any (l : List UInt8) (w : World) (hM : MaxL w) (hz : l.length ≤ 1000000000) :
    Calls Tryd.prog 39 #[.string (str l)] w fun e w' => e = .returned (.string (str (Pct.read l))) ∧ Below w.heap.size w w' := by
  have htl := Pct.turned_len l 43 32
  have hul := Pct.unmark_len (Pct.turned l 43 32)
  rw [htl] at hul
  go_enter Tryd.func39, Tryd.ntmps39
  go_wp2_with (first
    | (go_at_call 57; refine (ReplaceAll_any 43 32 (by decide) _ _ hM (by omega)).mono ?_; rintro e w1 ⟨rfl, hb1⟩)
    | (go_at_call 13; refine (Unmark_any (str (Pct.turned l 43 32)) _ (by rw [str_size]; omega)).mono ?_; rintro e w2 ⟨rfl, hb2⟩; rw [str_data])
    | (go_at_call 56; refine (Repair_any _ _ (by omega)).mono ?_; rintro e w3 ⟨rfl, hb3⟩))
  go_ret
  exact ⟨rfl, bel (bel hb1 hb2) hb3⟩
theorem ownsRow_below {w w' : World} {B : Nat} {e : TypeId} {size n : Nat} {v : Value} {xs : List Value} (h : w.ownsRow B e size v n xs) (hb : Below w.heap.size w w') : w'.ownsRow B e size v n xs := by
  refine ⟨h.1, ?_⟩
  rcases h.2 with h0 | ⟨g, cap, cur, hv, h1, hg, hc⟩
  · exact .inl h0
  · exact .inr ⟨g, cap, cur, hv, h1, (hb.block g (Array.getElem?_eq_some_iff.1 hg).1).trans hg, hc⟩
/-- The parts, as far as they are made. -/
def partTo (ps : List Pct.Pr) (k : Nat) : List (List UInt8) := (ps.take k).map Pct.text ++ List.replicate (ps.length - k) []
theorem partTo_len (ps : List Pct.Pr) (k : Nat) (h : k ≤ ps.length) : (partTo ps k).length = ps.length := by
  unfold partTo
  rw [List.length_append, List.length_map, List.length_take, List.length_replicate]
  omega
theorem partTo_all (ps : List Pct.Pr) (k : Nat) (h : ¬ k < ps.length) : partTo ps k = ps.map Pct.text := by
  unfold partTo
  rw [List.take_of_length_le (by omega), show ps.length - k = 0 from by omega]
  simp
theorem partTo_next (ps : List Pct.Pr) (k : Nat) (p : Pct.Pr) (h : ps[k]? = some p) : ((partTo ps k).map strV).set k (.string (str (Pct.text p))) = (partTo ps (k + 1)).map strV := by
  have hlt : k < ps.length := (List.getElem?_eq_some_iff.1 h).1
  unfold partTo
  rw [show ps.length - k = (ps.length - (k + 1)) + 1 from by omega, List.replicate_succ, List.take_add_one, h, List.map_append, List.set_append_right _ _ (by simp; omega)]
  simp [Nat.min_eq_left (Nat.le_of_lt hlt), strV, str]
theorem partTo_cell (ps : List Pct.Pr) (k : Nat) (h : k < ps.length) : ((partTo ps k).map strV)[k]? = some (.string (str [])) := by
  unfold partTo
  rw [show ps.length - k = (ps.length - (k + 1)) + 1 from by omega, List.replicate_succ, List.map_append, List.getElem?_append_right (by simp; omega)]
  simp [Nat.min_eq_left (Nat.le_of_lt h), strV, str]
theorem made_texts (n : Nat) : (madeCells (Value.string ByteArray.empty).cells (n * 1)).toList = (List.replicate n []).map strV := by
  unfold madeCells
  rw [Nat.mul_one, List.map_replicate]
  apply List.ext_getElem
  · simp
  · intro i h1 h2
    simp [Value.cells, Nat.mod_one, strV]
    rfl
theorem str_add (a b : List UInt8) : str a ++ str b = str (a ++ b) := str_eq (by rw [ByteArray.data_append, Array.toList_append, str_data, str_data])
set_option maxHeartbeats 2000000 in
set_option maxRecDepth 100000 in
theorem Form_any (v : Value) (ps : List Pct.Pr) (w : World) (hv : ReadsPairs w v ps) (hM : MaxL w) (hn : ps.length ≤ 1000000) (hz : ∀ p ∈ ps, p.1.length ≤ 100000000 ∧ p.2.length ≤ 100000000) (hF : (Pct.form ps).length ≤ 1000000000) :
    Calls Tryd.prog 18 #[v] w fun e w' => e = .returned (.string (str (Pct.form ps))) ∧ Below w.heap.size w w' := by
  obtain ⟨i0, hi, hz0, hz1, hz2⟩ := info_parts info9
  obtain ⟨a1, c1, rfl⟩ := hv.form
  have HV : Hid (ReadsPairs w (.slice a1 ps.length c1) ps) := hv
  have HZ : Hid (∀ p ∈ ps, p.1.length ≤ 100000000 ∧ p.2.length ≤ 100000000) := hz
  clear hv hz
  go_enter Tryd.func18, Tryd.ntmps18
  go_wp2_with (first
    | (at_make; refine wpList_make_full _ rfl (.tmp 7) (.tmp 7) 45 rfl w.heap.size 9 i0 (.string ByteArray.empty) 1 Tryd.underlying45 hi hz0 hz1 _ _ _ _ ps.length rfl rfl rfl rfl (by rw [hz2]; omega) (by unfold maxLen; omega) (Nat.le_refl _) ?_; intro w1 hown1 hgrow1))
  go_loopw [11] (fun i wr => ∃ k : Nat, k ≤ ps.length ∧ i = .int .i64 k ∧ Hid (wr.ownsRow w.heap.size 9 1 (.slice (some ⟨w.heap.size, 0, none⟩) ps.length ps.length) ps.length ((partTo ps k).map strV)) ∧ Below w.heap.size w wr) (fun i _ => ps.length - (intOf i).toNat)
  case atStart =>
    refine ⟨0, Nat.zero_le _, rfl, ?_, (Below.refl _ _).grown hgrow1 (Nat.le_refl _) (by simp)⟩
    rw [made_texts] at hown1
    exact hown1
  case round =>
    obtain ⟨k, hk, rfl, HO, hbel⟩ := hrel
    by_cases hlt : k < ps.length
    · obtain ⟨p, hp⟩ : ∃ p, ps[k]? = some p := ⟨_, List.getElem?_eq_getElem hlt⟩
      obtain ⟨b, o, rfl, hc, hbl, h1, h2⟩ := HV.out.at hp
      have g1 := (hbel.cell (p := ⟨b, o + k * 2, none⟩) hbl).trans h1
      have g2 := (hbel.cell (p := ⟨b, o + k * 2 + 1, none⟩) hbl).trans h2
      have hzp := HZ.out p (List.mem_of_getElem? hp)
      have HP : Hid (ps[k]? = some p) := hp
      have hsz := hbel.size
      have hpl1 := Pct.part_len p.1
      have hpl2 := Pct.part_len p.2
      clear hp h1 h2
      go_upto_region 5 with fail
      have d1 : (wr.alloc (.cells #[.string (str p.1), .string (str p.2)] 50)).cell? ⟨wr.heap.size, 0, none⟩ = some (.string (str p.1)) := by simp
      have d2 : (wr.alloc (.cells #[.string (str p.1), .string (str p.2)] 50)).cell? ⟨wr.heap.size, 1, none⟩ = some (.string (str p.2)) := by simp
      have HA : Hid ((wr.alloc (.cells #[.string (str p.1), .string (str p.2)] 50)).ownsRow w.heap.size 9 1 (.slice (some ⟨w.heap.size, 0, none⟩) ps.length ps.length) ps.length ((partTo ps k).map strV)) := World.ownsRow.alloc HO.out _
      have hbA : Below w.heap.size w (wr.alloc (.cells #[.string (str p.1), .string (str p.2)] 50)) := hbel.alloc hsz _
      have hlA : wr.heap.size < (wr.alloc (.cells #[.string (str p.1), .string (str p.2)] 50)).heap.size := by simp
      have hMA := hM.below hbA
      generalize wr.alloc (.cells #[.string (str p.1), .string (str p.2)] 50) = W at d1 d2 HA hbA hlA hMA ⊢
      have hbd : Below W.heap.size W W.drew := (Below.refl _ W).drew
      have hp1 : (str (Pct.part p.1)).size ≤ 300000000 := by rw [str_size]; omega
      have hp2 : (str (Pct.part p.2)).size ≤ 300000000 := by rw [str_size]; omega
      have HS : Hid (str (Pct.part p.1) ++ ⟨#[61]⟩ ++ str (Pct.part p.2) = str (Pct.text p)) := by
        have e1 := str_add (Pct.part p.1) [61]
        have e2 := str_add (Pct.part p.1 ++ [61]) (Pct.part p.2)
        show (str (Pct.part p.1) ++ str [61]) ++ _ = _
        rw [e1, e2]
        rfl
      have hp3 : (str (Pct.part p.1) ++ ⟨#[61]⟩).size ≤ 300000001 := by
        rw [ByteArray.size_append]
        show _ + 1 ≤ _
        omega
      have hp4 : (⟨#[61]⟩ : ByteArray).size = 1 := rfl
      go_region_with (first
        | (go_at_call_of 42 (str p.1); refine (write_any _ _ (hMA.below hbd) (by omega)).mono ?_; rintro e w2 ⟨rfl, hb2⟩; have d3 := ((bel hbd hb2).cell (p := ⟨wr.heap.size, 1, none⟩) hlA).trans d2)
        | (go_at_call_of 42 (str p.2); refine (write_any _ _ (hMA.below (bel hbd hb2)) (by omega)).mono ?_; rintro e w3 ⟨rfl, hb3⟩; have HR := ownsRow_below HA.out (bel (bel hbd hb2) hb3); have c3 := (World.ownsRow.cellAt (w := w3) HR k (by omega)).trans (partTo_cell ps k hlt); have f3 := World.ownsRow.frozenAt (w := w3) HR k))
      all_goals go_wp2
      all_goals go_roundw
      all_goals first
        | exact ⟨k + 1, by omega, by go_num, by have := (World.ownsRow.stored (w := w3) HR k (.string (str (Pct.text p)))).1; rw [partTo_next ps k p HP.out, ← HS.out] at this; exact this, (hbA.trans ((bel (bel hbd hb2) hb3).mono hbA.size)).setCell (Nat.le_refl _) _⟩
        | (simp [intOf]; omega)
    · have HR : ReadsTexts wr (.slice (some ⟨w.heap.size, 0, none⟩) ps.length ps.length) (ps.map Pct.text) := by
        have h1 := HO.out
        rw [partTo_all ps k hlt] at h1
        have h2 : OwnsTexts wr w.heap.size (.slice (some ⟨w.heap.size, 0, none⟩) ps.length ps.length) (ps.map Pct.text) := by
          unfold OwnsTexts
          rw [List.length_map]
          exact h1
        exact h2.reads
      have HR : Hid _ := HR
      go_wp2_with (go_at_call 43; refine (Join_any ⟨#[38]⟩ _ (ps.map Pct.text) _ HR.out (by rw [List.length_map]; omega) hF).mono ?_; rintro e w2 ⟨rfl, hb2⟩)
      go_ret
      exact ⟨rfl, bel hbel hb2⟩
end Go.Proofs.YtoahjdpkhnkfiaaDoor
