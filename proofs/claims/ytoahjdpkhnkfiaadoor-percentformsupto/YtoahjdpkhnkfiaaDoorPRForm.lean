/- The contract of the reference's Form. -/
import Derived.Test.YtoahjdpkhnkfiaaDoorPRPart
import Derived.Deep.RegionWith
namespace Go.Proofs.YtoahjdpkhnkfiaaDoor
open Go.RowKit
set_option maxHeartbeats 4000000 in
set_option maxRecDepth 100000 in
theorem RForm_any (v : Value) (ps : List Pct.Pr) (w : World) (hv : ReadsPairs w v ps) (hn : ps.length ≤ 1000000) (hz : ∀ p ∈ ps, p.1.length ≤ 100000000 ∧ p.2.length ≤ 100000000) (hF : (Pct.form ps).length ≤ 1000000000) :
    Calls Tryd.prog 20 #[v] w fun e w' => e = .returned (.string (str (Pct.form ps))) ∧ Below w.heap.size w w' := by
  obtain ⟨a1, c1, rfl⟩ := hv.form
  have HV : Hid (ReadsPairs w (.slice a1 ps.length c1) ps) := hv
  have HZ : Hid (∀ p ∈ ps, p.1.length ≤ 100000000 ∧ p.2.length ≤ 100000000) := hz
  clear hv hz
  go_enter Tryd.func20, Tryd.ntmps20
  go_wp2
  go_loopw [3, 4] (fun x i wr => ∃ (k : Nat) (acc : ByteArray), k ≤ ps.length ∧ i = .int .i64 k ∧ x = .string acc ∧ acc.size ≤ 1000000000 ∧ Hid (acc.data.toList = Lib.join ((ps.map Pct.text).take k) [38]) ∧ Below w.heap.size w wr) (fun _ i _ => ps.length - (intOf i).toNat)
  case atStart => exact ⟨0, ⟨#[]⟩, Nat.zero_le _, rfl, rfl, by decide, rfl, Below.refl _ _⟩
  case round =>
    obtain ⟨k, acc, hk, rfl, rfl, hal, HM, hbel⟩ := hrel
    by_cases hlt : k < ps.length
    · obtain ⟨p, hp⟩ : ∃ p, ps[k]? = some p := ⟨_, List.getElem?_eq_getElem hlt⟩
      obtain ⟨b, o, rfl, hc, hbl, h1, h2⟩ := HV.out.at hp
      have g1 := (hbel.cell (p := ⟨b, o + k * 2, none⟩) hbl).trans h1
      have g2 := (hbel.cell (p := ⟨b, o + k * 2 + 1, none⟩) hbl).trans h2
      have hbr : b < wr.heap.size := Nat.lt_of_lt_of_le hbl hbel.size
      have hzp := HZ.out p (List.mem_of_getElem? hp)
      have hpl1 := Pct.part_len p.1
      have hpl2 := Pct.part_len p.2
      have HJ : Hid _ := Asc.join_next (ps.map Pct.text) [38] (Pct.text p) k (by rw [List.getElem?_map, hp]; rfl)
      have HL : Hid ((Lib.join ((ps.map Pct.text).take (k + 1)) [38]).length ≤ 1000000000) := Nat.le_trans (Asc.join_take_le (ps.map Pct.text) [38] (k + 1)) hF
      have hbd : Below wr.heap.size wr wr.drew := (Below.refl _ wr).drew
      have hp1 : (str (Pct.part p.1)).size ≤ 300000000 := by rw [str_size]; omega
      have hp2 : (str (Pct.part p.2)).size ≤ 300000000 := by rw [str_size]; omega
      have hp4 : (⟨#[61]⟩ : ByteArray).size = 1 := rfl
      have hp5 : (⟨#[38]⟩ : ByteArray).size = 1 := rfl
      have hp3 : (str (Pct.part p.1) ++ ⟨#[61]⟩).size ≤ 300000001 := by
        rw [ByteArray.size_append]
        show _ + 1 ≤ _
        omega
      have hp6 : (str (Pct.part p.1) ++ ⟨#[61]⟩ ++ str (Pct.part p.2)).size ≤ 600000001 := by
        rw [ByteArray.size_append]
        omega
      have hp7 : (acc ++ ⟨#[38]⟩).size ≤ 1000000001 := by
        rw [ByteArray.size_append]
        show _ + 1 ≤ _
        omega
      have HS : Hid ((str (Pct.part p.1) ++ ⟨#[61]⟩ ++ str (Pct.part p.2)).data.toList = Pct.text p) := by
        have e1 := str_add (Pct.part p.1) [61]
        have e2 := str_add (Pct.part p.1 ++ [61]) (Pct.part p.2)
        show ((str (Pct.part p.1) ++ str [61]) ++ str (Pct.part p.2)).data.toList = _
        rw [e1, e2, str_data]
        rfl
      clear hp h1 h2
      by_cases hz : k = 0
      · subst hz
        rw [Nat.zero_mul, Nat.add_zero] at g1 g2
        have HN : Hid ((acc ++ (str (Pct.part p.1) ++ ⟨#[61]⟩ ++ str (Pct.part p.2))).data.toList = Lib.join ((ps.map Pct.text).take (0 + 1)) [38]) := by
          show _ = _
          rw [ByteArray.data_append, Array.toList_append, HS.out, HM.out, HJ.out, if_pos rfl]
          rfl
        have HZ2 : Hid ((acc ++ (str (Pct.part p.1) ++ ⟨#[61]⟩ ++ str (Pct.part p.2))).size ≤ 1000000000) := by
          show _ ≤ _
          rw [size_data0, HN.out]
          exact HL.out
        go_wp2
        go_region_with (first
          | (go_at_call_of 44 (str p.1); refine (Rpart_any _ _ (by omega)).mono ?_; rintro e w2 ⟨rfl, hb2⟩; have d3 := ((bel hbd hb2).cell (p := ⟨b, o + 1, none⟩) hbr).trans g2)
          | (go_at_call_of 44 (str p.2); refine (Rpart_any _ _ (by omega)).mono ?_; rintro e w3 ⟨rfl, hb3⟩))
        all_goals go_wp2
        all_goals go_roundw
        all_goals first
          | exact ⟨1, _, by omega, by go_num, rfl, HZ2.out, HN, hbel.trans ((bel (bel hbd hb2) hb3).mono hbel.size)⟩
          | (simp [intOf]; omega)
      · have HN : Hid ((acc ++ ⟨#[38]⟩ ++ (str (Pct.part p.1) ++ ⟨#[61]⟩ ++ str (Pct.part p.2))).data.toList = Lib.join ((ps.map Pct.text).take (k + 1)) [38]) := by
          show _ = _
          rw [ByteArray.data_append, ByteArray.data_append, Array.toList_append, Array.toList_append, HS.out, HM.out, HJ.out, if_neg hz]
        have HZ2 : Hid ((acc ++ ⟨#[38]⟩ ++ (str (Pct.part p.1) ++ ⟨#[61]⟩ ++ str (Pct.part p.2))).size ≤ 1000000000) := by
          show _ ≤ _
          rw [size_data0, HN.out]
          exact HL.out
        go_wp2
        go_region_with (first
          | (go_at_call_of 44 (str p.1); refine (Rpart_any _ _ (by omega)).mono ?_; rintro e w2 ⟨rfl, hb2⟩; have d3 := ((bel hbd hb2).cell (p := ⟨b, o + k * 2 + 1, none⟩) hbr).trans g2)
          | (go_at_call_of 44 (str p.2); refine (Rpart_any _ _ (by omega)).mono ?_; rintro e w3 ⟨rfl, hb3⟩))
        all_goals go_wp2
        all_goals go_roundw
        all_goals first
          | exact ⟨k + 1, _, by omega, by go_num, rfl, HZ2.out, HN, hbel.trans ((bel (bel hbd hb2) hb3).mono hbel.size)⟩
          | (simp [intOf]; omega)
    · have HN : Hid (acc.data.toList = Pct.form ps) := by
        have := HM.out
        rw [List.take_of_length_le (by rw [List.length_map]; omega)] at this
        exact this
      go_wp2
      go_ret
      exact ⟨ret_text HN.out, hbel⟩
end Go.Proofs.YtoahjdpkhnkfiaaDoor
