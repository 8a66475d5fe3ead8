/- The contracts of Get and All, the program's and the reference's. -/
import Derived.Test.YtoahjdpkhnkfiaaDoorPForm
namespace Pct
def get (ps : List Pr) (n : List UInt8) : List UInt8 × Bool := match ps.find? (fun p => p.1 == n) with
  | some p => (p.2, true)
  | none => ([], false)
theorem get_hit (ps : List Pr) (n : List UInt8) (k : Nat) (p : Pr) (h : ps[k]? = some p) (hp : p.1 = n) (hb : ∀ q ∈ ps.take k, ¬ q.1 = n) : get ps n = (p.2, true) := by
  have hlt : k < ps.length := (List.getElem?_eq_some_iff.1 h).1
  have e : ps = ps.take k ++ p :: ps.drop (k + 1) := by
    have e1 : ps[k] = p := (List.getElem?_eq_some_iff.1 h).2
    rw [← e1, ← List.drop_eq_getElem_cons hlt, List.take_append_drop]
  have hf : (ps.take k).find? (fun p => p.1 == n) = none := by
    rw [List.find?_eq_none]
    intro q hq
    simpa using hb q hq
  have hfp : ps.find? (fun p => p.1 == n) = some p := by
    rw [e, List.find?_append, hf, List.find?_cons]
    simp [hp]
  unfold get
  rw [hfp]
theorem get_none (ps : List Pr) (n : List UInt8) (hb : ∀ q ∈ ps, ¬ q.1 = n) : get ps n = ([], false) := by
  have hf : ps.find? (fun p => p.1 == n) = none := by
    rw [List.find?_eq_none]
    intro q hq
    simpa using hb q hq
  unfold get
  rw [hf]
def all (ps : List Pr) (n : List UInt8) : List (List UInt8) := (ps.filter fun p => p.1 == n || p.1 == n ++ [91, 93]).map (·.2)
theorem all_yes (ps : List Pr) (n : List UInt8) (k : Nat) (p : Pr) (h : ps[k]? = some p) (hp : p.1 = n ∨ p.1 = n ++ [91, 93]) : all (ps.take (k + 1)) n = all (ps.take k) n ++ [p.2] := by
  unfold all
  rw [List.take_add_one, h, Option.toList_some, List.filter_append, List.map_append]
  have : [p].filter (fun p => p.1 == n || p.1 == n ++ [91, 93]) = [p] := by
    rcases hp with hp | hp <;> simp [hp]
  rw [this]
  rfl
theorem all_no (ps : List Pr) (n : List UInt8) (k : Nat) (p : Pr) (h : ps[k]? = some p) (h1 : ¬ p.1 = n) (h2 : ¬ p.1 = n ++ [91, 93]) : all (ps.take (k + 1)) n = all (ps.take k) n := by
  unfold all
  rw [List.take_add_one, h, Option.toList_some, List.filter_append, List.map_append]
  have : [p].filter (fun p => p.1 == n || p.1 == n ++ [91, 93]) = [] := by simp [h1, h2]
  rw [this]
  simp
theorem all_len (ps : List Pr) (n : List UInt8) : (all ps n).length ≤ ps.length := by
  unfold all
  rw [List.length_map]
  exact List.length_filter_le _ _
end Pct
namespace Go.Proofs.YtoahjdpkhnkfiaaDoor
open Go.RowKit
theorem name_more (n : List UInt8) : str n ++ ⟨#[91, 93]⟩ = str (n ++ [91, 93]) := str_add n [91, 93]
set_option maxHeartbeats 2000000 in
set_option maxRecDepth 100000 in
theorem Get_any (v : Value) (ps : List Pct.Pr) (n : List UInt8) (w : World) (hv : ReadsPairs w v ps) (hl : ps.length ≤ 1000000) :
    Calls Tryd.prog 23 #[v, .string (str n)] w fun e w' => e = .returned (.tuple #[.string (str (Pct.get ps n).1), .bool (Pct.get ps n).2]) ∧ Below w.heap.size w w' := by
  obtain ⟨a1, c1, rfl⟩ := hv.form
  have HV : Hid (ReadsPairs w (.slice a1 ps.length c1) ps) := hv
  clear hv
  go_enter Tryd.func23, Tryd.ntmps23
  go_wp2
  go_loopw [10] (fun i wr => ∃ k : Nat, k ≤ ps.length ∧ i = .int .i64 k ∧ Hid (∀ q ∈ ps.take k, ¬ q.1 = n) ∧ Below w.heap.size w wr) (fun i _ => ps.length - (intOf i).toNat)
  case atStart => exact ⟨0, Nat.zero_le _, rfl, by intro q hq; simp at hq, Below.refl _ _⟩
  case round =>
    obtain ⟨k, hk, rfl, HB, hbel⟩ := hrel
    by_cases hlt : k < ps.length
    · obtain ⟨p, hp⟩ : ∃ p, ps[k]? = some p := ⟨_, List.getElem?_eq_getElem hlt⟩
      obtain ⟨b, o, rfl, hc, hbl, h1, h2⟩ := HV.out.at hp
      have g1 := (hbel.cell (p := ⟨b, o + k * 2, none⟩) hbl).trans h1
      have g2 := (hbel.cell (p := ⟨b, o + k * 2 + 1, none⟩) hbl).trans h2
      have hsz := hbel.size
      clear h1 h2
      by_cases hpn : p.1 = n
      · have HG : Hid _ := Pct.get_hit ps n k p hp hpn HB.out
        have hq := str_beq_yes hpn
        clear hp hpn
        go_wp2
        go_ret2
        exact ⟨by rw [HG.out]; rfl, hbel.alloc hsz _⟩
      · have hq := str_beq_no hpn
        have HP : Hid (ps[k]? = some p ∧ ¬ p.1 = n) := ⟨hp, hpn⟩
        clear hp hpn
        go_wp2
        go_roundw
        case rel => exact ⟨k + 1, by omega, by go_num, by
          intro q hq
          rw [List.take_add_one, HP.out.1, List.mem_append] at hq
          rcases hq with hq | hq
          · exact HB.out q hq
          · simp at hq; subst hq; exact HP.out.2, hbel.alloc hsz _⟩
        case measure => simp [intOf]; omega
    · have HG : Hid (Pct.get ps n = ([], false)) := Pct.get_none ps n (by
        have := HB.out
        rwa [List.take_of_length_le (by omega)] at this)
      go_wp2
      go_ret2
      exact ⟨by rw [HG.out]; rfl, hbel⟩
set_option maxHeartbeats 2000000 in
set_option maxRecDepth 100000 in
theorem RGet_any (v : Value) (ps : List Pct.Pr) (n : List UInt8) (w : World) (hv : ReadsPairs w v ps) (hl : ps.length ≤ 1000000) :
    Calls Tryd.prog 24 #[v, .string (str n)] w fun e w' => e = .returned (.tuple #[.string (str (Pct.get ps n).1), .bool (Pct.get ps n).2]) ∧ Below w.heap.size w w' := by
  obtain ⟨a1, c1, rfl⟩ := hv.form
  have HV : Hid (ReadsPairs w (.slice a1 ps.length c1) ps) := hv
  clear hv
  go_enter Tryd.func24, Tryd.ntmps24
  go_wp2
  go_loopw [6] (fun i wr => ∃ k : Nat, k ≤ ps.length ∧ i = .int .i64 k ∧ Hid (∀ q ∈ ps.take k, ¬ q.1 = n) ∧ Below w.heap.size w wr) (fun i _ => ps.length - (intOf i).toNat)
  case atStart => exact ⟨0, Nat.zero_le _, rfl, by intro q hq; simp at hq, Below.refl _ _⟩
  case round =>
    obtain ⟨k, hk, rfl, HB, hbel⟩ := hrel
    by_cases hlt : k < ps.length
    · obtain ⟨p, hp⟩ : ∃ p, ps[k]? = some p := ⟨_, List.getElem?_eq_getElem hlt⟩
      obtain ⟨b, o, rfl, hc, hbl, h1, h2⟩ := HV.out.at hp
      have g1 := (hbel.cell (p := ⟨b, o + k * 2, none⟩) hbl).trans h1
      have g2 := (hbel.cell (p := ⟨b, o + k * 2 + 1, none⟩) hbl).trans h2
      have hsz := hbel.size
      clear h1 h2
      by_cases hpn : p.1 = n
      · have HG : Hid _ := Pct.get_hit ps n k p hp hpn HB.out
        have hq := str_beq_yes hpn
        clear hp hpn
        go_wp2
        go_ret2
        exact ⟨by rw [HG.out]; rfl, hbel⟩
      · have hq := str_beq_no hpn
        have HP : Hid (ps[k]? = some p ∧ ¬ p.1 = n) := ⟨hp, hpn⟩
        clear hp hpn
        go_wp2
        go_roundw
        case rel => exact ⟨k + 1, by omega, by go_num, by
          intro q hq
          rw [List.take_add_one, HP.out.1, List.mem_append] at hq
          rcases hq with hq | hq
          · exact HB.out q hq
          · simp at hq; subst hq; exact HP.out.2, hbel⟩
        case measure => simp [intOf]; omega
    · have HG : Hid (Pct.get ps n = ([], false)) := Pct.get_none ps n (by
        have := HB.out
        rwa [List.take_of_length_le (by omega)] at this)
      go_wp2
      go_ret2
      exact ⟨by rw [HG.out]; rfl, hbel⟩
set_option maxHeartbeats 2000000 in
set_option maxRecDepth 100000 in
theorem All_any (v : Value) (ps : List Pct.Pr) (n : List UInt8) (w : World) (hv : ReadsPairs w v ps) (hl : ps.length ≤ 1000000) (hn : n.length ≤ 1000000) :
    Calls Tryd.prog 26 #[v, .string (str n)] w fun e w' => ∃ u, e = .returned u ∧ OwnsTexts w' w.heap.size u (Pct.all ps n) ∧ Below w.heap.size w w' := by
  obtain ⟨i0, hi, hz0, hz1, hz2⟩ := info_parts info9
  obtain ⟨a1, c1, rfl⟩ := hv.form
  have HV : Hid (ReadsPairs w (.slice a1 ps.length c1) ps) := hv
  clear hv
  have hnm := name_more n
  have hns : (str n).size ≤ 1000000 := by rw [str_size]; exact hn
  have hn2 : (⟨#[91, 93]⟩ : ByteArray).size = 2 := rfl
  go_enter Tryd.func26, Tryd.ntmps26
  go_wp2
  go_loopw [5, 13] (fun u i wr => ∃ k : Nat, k ≤ ps.length ∧ i = .int .i64 k ∧ OwnsTexts wr w.heap.size u (Pct.all (ps.take k) n) ∧ Below w.heap.size w wr) (fun _ i _ => ps.length - (intOf i).toNat)
  case atStart => exact ⟨0, Nat.zero_le _, rfl, OwnsTexts.nil _ _, Below.refl _ _⟩
  case round =>
    obtain ⟨k, hk, rfl, hown, hbel⟩ := hrel
    by_cases hlt : k < ps.length
    · obtain ⟨p, hp⟩ : ∃ p, ps[k]? = some p := ⟨_, List.getElem?_eq_getElem hlt⟩
      obtain ⟨b, o, rfl, hc, hbl, h1, h2⟩ := HV.out.at hp
      have g1 := (hbel.cell (p := ⟨b, o + k * 2, none⟩) hbl).trans h1
      have g2 := (hbel.cell (p := ⟨b, o + k * 2 + 1, none⟩) hbl).trans h2
      have hsz := hbel.size
      have hal := Pct.all_len (ps.take k) n
      rw [List.length_take] at hal
      have hal2 : (Pct.all (ps.take k) n).length ≤ 1000000 := by omega
      clear h1 h2 hal
      by_cases hpn : p.1 = n ∨ p.1 = n ++ [91, 93]
      · have HN : Hid _ := Pct.all_yes ps n k p hp hpn
        have hq : ((str p.1).toList == (str n).toList) = true ∨ (((str p.1).toList == (str n).toList) = false ∧ ((str p.1).toList == (str (n ++ [91, 93])).toList) = true) := by
          by_cases e : p.1 = n
          · exact .inl (str_beq_yes e)
          · exact .inr ⟨str_beq_no e, str_beq_yes (hpn.resolve_left e)⟩
        clear hp hpn
        rcases hq with hq | ⟨hq, hq2⟩
        all_goals go_wp2_with (at_builtin; refine wpList_append_own _ rfl _ _ 45 rfl w.heap.size 9 i0 (.string ByteArray.empty) 1 16 Tryd.underlying45 hi hz0 hz1 hz2 rfl (by decide) _ _ _ rfl (World.ownsRow.alloc (World.ownsRow.alloc hown _) _) ⟨wr.heap.size + 1, 0, none⟩ 1 1 [.string (str p.2)] rfl rfl (by have := cell_one_new (wr.alloc (.cells #[.string (str p.1), .string (str p.2)] 50)) (.string (str p.2)) 9; simpa using this) (fun x hx => by simp at hx; subst hx; rfl) (by unfold maxLen; omega) (by omega) (by simp; omega) ?_; intro v' w3 hown' hgrow3 hnil3)
        all_goals go_roundw
        all_goals first
          | exact ⟨k + 1, by omega, by go_num, OwnsTexts.of HN.out rfl hown', ((hbel.alloc hsz _).alloc (by simp; omega) _).grown hgrow3 (by simp; omega) (fun q hq => (World.ownsRow.lt hown q hq).1)⟩
          | (simp [intOf]; omega)
      · have h1 : ¬ p.1 = n := fun e => hpn (.inl e)
        have h2 : ¬ p.1 = n ++ [91, 93] := fun e => hpn (.inr e)
        have HN : Hid _ := Pct.all_no ps n k p hp h1 h2
        have hq := str_beq_no h1
        have hq2 := str_beq_no h2
        clear hp hpn h1 h2
        go_wp2
        go_roundw
        case rel => exact ⟨k + 1, by omega, by go_num, by rw [HN.out]; exact World.ownsRow.alloc hown _, hbel.alloc hsz _⟩
        case measure => simp [intOf]; omega
    · have HN : Hid (ps.take k = ps) := List.take_of_length_le (by omega)
      go_wp2
      go_ret
      exact ⟨_, rfl, by rw [HN.out] at hown; exact hown, hbel⟩
set_option maxHeartbeats 2000000 in
set_option maxRecDepth 100000 in
theorem RAll_any (v : Value) (ps : List Pct.Pr) (n : List UInt8) (w : World) (hv : ReadsPairs w v ps) (hl : ps.length ≤ 1000000) (hn : n.length ≤ 1000000) :
    Calls Tryd.prog 27 #[v, .string (str n)] w fun e w' => ∃ u, e = .returned u ∧ OwnsTexts w' w.heap.size u (Pct.all ps n) ∧ Below w.heap.size w w' := by
  obtain ⟨i0, hi, hz0, hz1, hz2⟩ := info_parts info9
  obtain ⟨a1, c1, rfl⟩ := hv.form
  have HV : Hid (ReadsPairs w (.slice a1 ps.length c1) ps) := hv
  clear hv
  have hnm := name_more n
  have hns : (str n).size ≤ 1000000 := by rw [str_size]; exact hn
  have hn2 : (⟨#[91, 93]⟩ : ByteArray).size = 2 := rfl
  go_enter Tryd.func27, Tryd.ntmps27
  go_wp2
  go_loopw [5, 6] (fun u i wr => ∃ k : Nat, k ≤ ps.length ∧ i = .int .i64 k ∧ OwnsTexts wr w.heap.size u (Pct.all (ps.take k) n) ∧ Below w.heap.size w wr) (fun _ i _ => ps.length - (intOf i).toNat)
  case atStart => exact ⟨0, Nat.zero_le _, rfl, OwnsTexts.nil _ _, Below.refl _ _⟩
  case round =>
    obtain ⟨k, hk, rfl, hown, hbel⟩ := hrel
    by_cases hlt : k < ps.length
    · obtain ⟨p, hp⟩ : ∃ p, ps[k]? = some p := ⟨_, List.getElem?_eq_getElem hlt⟩
      obtain ⟨b, o, rfl, hc, hbl, h1, h2⟩ := HV.out.at hp
      have g1 := (hbel.cell (p := ⟨b, o + k * 2, none⟩) hbl).trans h1
      have g2 := (hbel.cell (p := ⟨b, o + k * 2 + 1, none⟩) hbl).trans h2
      have hsz := hbel.size
      have hal := Pct.all_len (ps.take k) n
      rw [List.length_take] at hal
      have hal2 : (Pct.all (ps.take k) n).length ≤ 1000000 := by omega
      clear h1 h2 hal
      by_cases hpn : p.1 = n ∨ p.1 = n ++ [91, 93]
      · have HN : Hid _ := Pct.all_yes ps n k p hp hpn
        have hq : ((str p.1).toList == (str n).toList) = true ∨ (((str p.1).toList == (str n).toList) = false ∧ ((str p.1).toList == (str (n ++ [91, 93])).toList) = true) := by
          by_cases e : p.1 = n
          · exact .inl (str_beq_yes e)
          · exact .inr ⟨str_beq_no e, str_beq_yes (hpn.resolve_left e)⟩
        clear hp hpn
        rcases hq with hq | ⟨hq, hq2⟩
        all_goals go_wp2_with (at_builtin; refine wpList_append_own _ rfl _ _ 45 rfl w.heap.size 9 i0 (.string ByteArray.empty) 1 16 Tryd.underlying45 hi hz0 hz1 hz2 rfl (by decide) _ _ _ rfl (World.ownsRow.alloc hown _) ⟨wr.heap.size, 0, none⟩ 1 1 [.string (str p.2)] rfl rfl (cell_one_new _ _ _) (fun x hx => by simp at hx; subst hx; rfl) (by unfold maxLen; omega) (by omega) (by simp; omega) ?_; intro v' w3 hown' hgrow3 hnil3)
        all_goals go_roundw
        all_goals first
          | exact ⟨k + 1, by omega, by go_num, OwnsTexts.of HN.out rfl hown', (hbel.alloc hsz _).grown hgrow3 (by simp; omega) (fun q hq => (World.ownsRow.lt hown q hq).1)⟩
          | (simp [intOf]; omega)
      · have h1 : ¬ p.1 = n := fun e => hpn (.inl e)
        have h2 : ¬ p.1 = n ++ [91, 93] := fun e => hpn (.inr e)
        have HN : Hid _ := Pct.all_no ps n k p hp h1 h2
        have hq := str_beq_no h1
        have hq2 := str_beq_no h2
        clear hp hpn h1 h2
        go_wp2
        go_roundw
        case rel => exact ⟨k + 1, by omega, by go_num, by rw [HN.out]; exact hown, hbel⟩
        case measure => simp [intOf]; omega
    · have HN : Hid (ps.take k = ps) := List.take_of_length_le (by omega)
      go_wp2
      go_ret
      exact ⟨_, rfl, by rw [HN.out] at hown; exact hown, hbel⟩
end Go.Proofs.YtoahjdpkhnkfiaaDoor
