/- Contracts of May's small parts: isTextOf, areKeys. -/
import Derived.Test.YtmmpbjpeiclacaaGreatDoorKYmn
import Derived.Test.YtmmpbjpeiclacaaGreatDoorKURepair
set_option linter.unusedVariables false
set_option linter.unusedSimpArgs false
namespace Go.Proofs.YtmmpbjpeiclacaaGreatDoor
open Go.RowKit
theorem empty_yes : ((str ([] : List UInt8)).toList.isEmpty) = true := by rw [str_list]; rfl
theorem empty_is (t : List UInt8) : (str t).toList.isEmpty = t.isEmpty := by rw [str_list]
set_option maxHeartbeats 1000000 in
theorem isTextOf_any (k : Int) (t : List UInt8) (w : World) (ht : t.length ≤ 1000000000) :
    Calls Tryz.prog 72 #[.int .i64 k, .string (str t)] w fun e w' => e = .returned (.bool (Jsn.textOf k t)) ∧ Below w.heap.size w w' := by
  unfold Jsn.textOf
  by_cases h1 : k = 1
  · rw [if_pos h1]
    subst h1
    have he := empty_is t
    go_enter Tryz.func72, Tryz.ntmps72
    go_wp2
    go_ret
    exact ⟨by first | rfl | rw [← he]; rfl, Below.refl _ _⟩
  rw [if_neg h1]
  have q1 : (k == 1) = false := beq_eq_false_iff_ne.2 h1
  by_cases h2 : k = 2
  · rw [if_pos h2]
    subst h2
    by_cases e1 : t = Jsn.trueT
    · subst e1
      have f1 : ((str Jsn.trueT).toList == [116, 114, 117, 101]) = true := by rw [str_list]; rfl
      have hd : decide (Jsn.trueT = Jsn.trueT ∨ Jsn.trueT = Jsn.falseT) = true := rfl
      rw [hd]
      go_enter Tryz.func72, Tryz.ntmps72
      go_wp2
      go_ret
      exact ⟨rfl, Below.refl _ _⟩
    · have f1 : ((str t).toList == [116, 114, 117, 101]) = false := by rw [str_list]; exact beq_eq_false_iff_ne.2 e1
      by_cases e2 : t = Jsn.falseT
      · subst e2
        have f2 : ((str Jsn.falseT).toList == [102, 97, 108, 115, 101]) = true := by rw [str_list]; rfl
        have hd : decide (Jsn.falseT = Jsn.trueT ∨ Jsn.falseT = Jsn.falseT) = true := rfl
        rw [hd]
        go_enter Tryz.func72, Tryz.ntmps72
        go_wp2
        go_ret
        exact ⟨rfl, Below.refl _ _⟩
      · have f2 : ((str t).toList == [102, 97, 108, 115, 101]) = false := by rw [str_list]; exact beq_eq_false_iff_ne.2 e2
        have hd : decide (t = Jsn.trueT ∨ t = Jsn.falseT) = false := decide_eq_false (by simp [e1, e2])
        rw [hd]
        go_enter Tryz.func72, Tryz.ntmps72
        go_wp2
        go_ret
        exact ⟨rfl, Below.refl _ _⟩
  rw [if_neg h2]
  have q2 : (k == 2) = false := beq_eq_false_iff_ne.2 h2
  by_cases h3 : k = 3
  · rw [if_pos h3]
    subst h3
    have hN := fun w => number_any t w ht
    have hz := str_size t
    have hle : (Jsn.numR t).1.length ≤ t.length := by obtain ⟨p, hp⟩ := Jsn.numR_left t; have := congrArg List.length hp; simp at this; omega
    unfold Jsn.isNum
    generalize Jsn.numR t = q at *
    obtain ⟨z, b⟩ := q
    dsimp only at hN hle
    cases b with
    | false =>
      have hd : decide ((z, false) = (([] : List UInt8), true)) = false := decide_eq_false (by simp)
      rw [hd]
      go_enter Tryz.func72, Tryz.ntmps72
      go_wp2_with (first
        | (go_at_call 91; refine (hN _).mono ?_; rintro e w1 ⟨rfl, hw⟩; rw [hw]; clear hw))
      go_ret
      exact ⟨rfl, Below.refl _ _⟩
    | true =>
      cases z with
      | nil =>
        have hd : decide ((([] : List UInt8), true) = (([] : List UInt8), true)) = true := rfl
        rw [hd]
        simp only [List.length_nil] at hN
        go_enter Tryz.func72, Tryz.ntmps72
        go_wp2_with (first
          | (go_at_call 91; refine (hN _).mono ?_; rintro e w1 ⟨rfl, hw⟩; rw [hw]; clear hw))
        go_ret
        exact ⟨by simp, Below.refl _ _⟩
      | cons c r =>
        have hd : decide ((c :: r, true) = (([] : List UInt8), true)) = false := decide_eq_false (by simp)
        rw [hd]
        simp only [List.length_cons] at hN hle
        have hne : (((t.length : Int) - ((r.length + 1 : Nat) : Int)) == (t.length : Int)) = false := beq_eq_false_iff_ne.2 (by omega)
        go_enter Tryz.func72, Tryz.ntmps72
        go_wp2_with (first
          | (go_at_call 91; refine (hN _).mono ?_; rintro e w1 ⟨rfl, hw⟩; rw [hw]; clear hw))
        go_ret
        refine ⟨ret_bool ?_, Below.refl _ _⟩
        first | rfl | (simp; omega)
  rw [if_neg h3]
  have q3 : (k == 3) = false := beq_eq_false_iff_ne.2 h3
  by_cases h4 : k = 4
  · rw [if_pos h4]
    subst h4
    go_enter Tryz.func72, Tryz.ntmps72
    go_wp2_with (first
      | (go_at_call 41; refine (IsText_any t _).mono ?_; rintro e w1 ⟨rfl, hb⟩))
    go_ret
    exact ⟨rfl, hb⟩
  rw [if_neg h4]
  have q4 : (k == 4) = false := beq_eq_false_iff_ne.2 h4
  go_enter Tryz.func72, Tryz.ntmps72
  go_wp2
  go_ret
  exact ⟨rfl, Below.refl _ _⟩
/-- A cell that holds a map. -/
def MCell (p g : Nat) (w : World) : Prop := w.heap[p]? = some (.cells #[.map (some g)] 67 (0, 0))
set_option maxHeartbeats 1000000 in
theorem oneKey_any (p g m : Nat) (ks : List (List UInt8)) (t : List UInt8) (w : World) (hM : MCell p g w) (hS : SetAt g m ks w) (hm : m ≤ 1000000000) (ht : t.length ≤ 1000000000) :
    Calls Tryz.prog 90 #[.string (str t), .pointer (some ⟨p, 0, none⟩)] w fun e w' => e = .returned (.bool (!(Utf.isText t && decide (t ∉ ks)))) ∧ (Utf.isText t = true → SetAt g (m + 1) (withKey ks t) w') ∧ Kept g w w' := by
  have hT := IsText_any t
  have hp : p < w.heap.size := (Array.getElem?_eq_some_iff.1 hM).1
  cases htx : Utf.isText t
  · simp only [htx] at hT
    go_enter Tryz.func90, Tryz.ntmps90
    go_wp2_with (first
      | (go_at_call 41; refine (hT _).mono ?_; rintro e w1 ⟨rfl, hb⟩))
    go_ret
    exact ⟨rfl, (fun h => by cases h), Kept.of hb⟩
  · simp only [htx] at hT
    have hN := fun w hS => isNew_any g m ks t w hS ht hm
    go_enter Tryz.func90, Tryz.ntmps90
    go_wp2_with (first
      | (go_at_call 41; refine (hT _).mono ?_; rintro e w1 ⟨rfl, hb⟩; have c1 : w1.cell? ⟨p, 0, none⟩ = some (.map (some g)) := Lib.cell_of_heap ((hb.block p hp).trans hM) 0; have hS1 := hS.keep (hb.block g hS.lt))
      | (go_at_call 33; refine (hN _ hS1).mono ?_; rintro e w2 ⟨rfl, hS2, hK2⟩))
    go_ret
    exact ⟨by simp, fun _ => hS2, (Kept.of hb).trans hK2⟩
theorem keys_split (ks : List (List UInt8)) (j : Nat) (h : j < ks.length) (hn : (ks.take j).Nodup) : (ks.take (j + 1)).Nodup ↔ ks[j] ∉ ks.take j := by
  rw [List.take_add_one, List.getElem?_eq_getElem h]
  show ((ks.take j) ++ [ks[j]]).Nodup ↔ _
  rw [List.nodup_append]
  constructor
  · intro h2 hm
    exact h2.2.2 _ hm _ (by simp) rfl
  · intro h2
    exact ⟨hn, by simp, fun a ha b hb => by simp at hb; subst hb; exact fun e => h2 (e ▸ ha)⟩
theorem keys_not (ks : List (List UInt8)) (j : Nat) (h : j < ks.length) (hb : ¬ (Utf.isText ks[j] = true ∧ ks[j] ∉ ks.take j)) : Jsn.keysOK ks = false := by
  unfold Jsn.keysOK
  rw [Bool.and_eq_false_iff]
  by_cases ht : Utf.isText ks[j] = true
  · right
    refine decide_eq_false fun hn => ?_
    have hm : ks[j] ∈ ks.take j := by
      by_cases e : ks[j] ∈ ks.take j
      · exact e
      · exact absurd ⟨ht, e⟩ hb
    rw [← List.take_append_drop j ks, List.nodup_append] at hn
    exact hn.2.2 _ hm ks[j] (by rw [List.drop_eq_getElem_cons h]; exact List.mem_cons_self ..) rfl
  · left
    by_cases e : ks.all Utf.isText = true
    · exact absurd (List.all_eq_true.1 e _ (List.getElem_mem h)) ht
    · simpa using e
theorem RTs.form {Q : Nat → Prop} {w : World} {ts : List (List UInt8)} {v : Value} (h : RTs Q w ts v) : ∃ a c, v = .slice a ts.length c := by
  rcases h with ⟨a, c, rfl, rfl⟩ | ⟨b, o, c, _, rfl, _⟩
  · exact ⟨_, _, rfl⟩
  · exact ⟨_, _, rfl⟩
theorem RTs.at {Q : Nat → Prop} {w : World} {a : Option Addr} {n c : Nat} {ts : List (List UInt8)} {k : Nat} {t : List UInt8} (h : RTs Q w ts (.slice a n c)) (ht : ts[k]? = some t) :
    ∃ b o, a = some ⟨b, o, none⟩ ∧ ts.length ≤ c ∧ Q b ∧ b < w.heap.size ∧ w.cell? ⟨b, o + k, none⟩ = some (.string (str t)) := by
  rcases h with ⟨a, c, _, rfl⟩ | ⟨b, o, c, hq, h1, h2, h3, h4⟩
  · simp at ht
  · cases h1
    exact ⟨b, o, rfl, h2, hq, h3, h4 k t ht⟩
set_option maxHeartbeats 1000000 in
theorem keysIndex_any (p g : Nat) (ks : List (List UInt8)) (kv : Value) (w : World) (hM : MCell p g w) (hS : SetAt g 0 [] w) (hne : p ≠ g) (hk : RTs (fun k => k ≠ g) w ks kv) (hl : ks.length ≤ 1000000000) (ht : ∀ t ∈ ks, t.length ≤ 1000000000) :
    Calls Tryz.prog 109 #[kv, .func (.func 90) #[] #[.pointer (some ⟨p, 0, none⟩)]] w fun e w' => (∃ r, e = .returned (.int .i64 r) ∧ decide (0 ≤ r) = !Jsn.keysOK ks) ∧ Kept g w w' := by
  obtain ⟨a, c, rfl⟩ := hk.form
  go_enter Tryz.func109, Tryz.ntmps109
  go_wp2
  go_loopw [8] (fun i wr => ∃ j : Nat, i = .int .i64 j ∧ j ≤ ks.length ∧ SetAt g j (ks.take j) wr ∧ (ks.take j).Nodup ∧ (ks.take j).all Utf.isText = true ∧ Kept g w wr) (fun i _ => ks.length - (intOf i).toNat)
  case atStart => exact ⟨0, rfl, Nat.zero_le _, by simpa using hS, by simp, rfl, Kept.refl _ _⟩
  case round =>
    obtain ⟨j, rfl, hj, hSj, hnd, htx, hK⟩ := hrel
    by_cases hlt : j < ks.length
    · have hat : ks[j]? = some ks[j] := List.getElem?_eq_getElem hlt
      obtain ⟨b, o, rfl, hc, hbg, hbl, hcell⟩ := hk.at hat
      have hcw := (cell_keep (hK.block b hbl hbg) (o := o + j)).trans hcell
      have htl := ht ks[j] (List.getElem_mem hlt)
      have hMr : MCell p g wr := (hK.block p (Array.getElem?_eq_some_iff.1 hM).1 hne).trans hM
      have h1 := oneKey_any p g j (ks.take j) ks[j] wr hMr hSj (by omega) htl
      have hnot := keys_not ks j hlt
      have hspl := keys_split ks j hlt hnd
      have htk : ks.take (j + 1) = ks.take j ++ [ks[j]] := by rw [List.take_add_one, hat]; rfl
      generalize ks[j] = t at *
      cases hres : (Utf.isText t && decide (t ∉ ks.take j))
      · simp only [hres] at h1
        have HN : Hid (Jsn.keysOK ks = false) := hnot (by
          rintro ⟨e1, e2⟩
          rw [e1, decide_eq_true e2] at hres
          cases hres)
        go_wp2_with (first
          | (go_at_call 90; refine h1.mono ?_; rintro e w1 ⟨rfl, _, hK1⟩))
        go_ret
        exact ⟨⟨_, rfl, by rw [HN.out]; simp⟩, hK.trans hK1⟩
      · simp only [hres] at h1
        have hr := Bool.and_eq_true_iff.1 hres
        have hni : t ∉ ks.take j := of_decide_eq_true hr.2
        have HA : Hid ((ks.take (j + 1)).Nodup ∧ (ks.take (j + 1)).all Utf.isText = true ∧ withKey (ks.take j) t = ks.take (j + 1)) := ⟨hspl.2 hni, by rw [htk, List.all_append, htx]; simp [hr.1], by rw [htk]; exact if_neg hni⟩
        have hr1 := hr.1
        clear hnot hspl htk hr hni hres
        go_wp2_with (first
          | (go_at_call 90; refine h1.mono ?_; rintro e w1 ⟨rfl, hS1, hK1⟩))
        go_roundw
        case rel => exact ⟨j + 1, by go_num, by omega, HA.out.2.2 ▸ hS1 hr1, HA.out.1, HA.out.2.1, hK.trans hK1⟩
        case measure => simp [intOf]; omega
    · have he : ks.take j = ks := List.take_of_length_le (by omega)
      have HN : Hid (Jsn.keysOK ks = true) := by
        show _ = _
        unfold Jsn.keysOK
        rw [he] at hnd htx
        rw [htx, decide_eq_true hnd]
        rfl
      go_wp2
      go_ret
      exact ⟨⟨_, rfl, by rw [HN.out]; rfl⟩, hK⟩
set_option maxHeartbeats 1000000 in
theorem areKeys_any (Q : Nat → Prop) (ks : List (List UInt8)) (kv : Value) (w : World) (hk : RTs Q w ks kv) (hl : ks.length ≤ 1000000000) (ht : ∀ t ∈ ks, t.length ≤ 1000000000) :
    Calls Tryz.prog 71 #[kv] w fun e w' => e = .returned (.bool (Jsn.keysOK ks)) ∧ Below w.heap.size w w' := by
  have hmm := @run_makeMap Tryz.prog
  have hmf : ∀ (fn : Fn) (first cap : Array Value) (w : World), (Instr.makeFunc fn first cap).run Tryz.prog w = .ok (.func fn first cap) w := fun _ _ _ _ => rfl
  obtain ⟨a, c, rfl⟩ := hk.form
  have hB : Below w.heap.size w ((w.alloc (.map #[] 0)).alloc (.cells #[.map (some w.heap.size)] 67)) := ((Below.refl _ w).alloc (Nat.le_refl _) _).alloc (by simp) _
  have hS : SetAt w.heap.size 0 [] ((w.alloc (.map #[] 0)).alloc (.cells #[.map (some w.heap.size)] 67)) := (SetAt.made w 0).keep (Lib.alloc_old _ _ _ (by simp))
  have hM : MCell (w.heap.size + 1) w.heap.size ((w.alloc (.map #[] 0)).alloc (.cells #[.map (some w.heap.size)] 67)) := by
    unfold MCell
    have e : w.heap.size + 1 = (w.alloc (.map #[] 0)).heap.size := by simp
    rw [e]
    exact heap_alloc_last _ _
  have hk2 : RTs (fun k => k ≠ w.heap.size) ((w.alloc (.map #[] 0)).alloc (.cells #[.map (some w.heap.size)] 67)) ks (.slice a ks.length c) := hk.keep hB.size (fun k _ hl => ⟨by omega, hB.block k hl⟩)
  have hI := keysIndex_any (w.heap.size + 1) w.heap.size ks _ _ hM hS (by omega) hk2 hl ht
  have hC : Calls Tryz.prog 89 #[.slice a ks.length c, .func (.func 90) #[] #[.pointer (some ⟨w.heap.size + 1, 0, none⟩)]] ((w.alloc (.map #[] 0)).alloc (.cells #[.map (some w.heap.size)] 67)) fun e w' => e = .returned (.bool (!Jsn.keysOK ks)) ∧ Kept w.heap.size ((w.alloc (.map #[] 0)).alloc (.cells #[.map (some w.heap.size)] 67)) w' := by
    generalize (w.alloc (.map #[] 0)).alloc (.cells #[.map (some w.heap.size)] 67) = W at hI ⊢
    go_enter Tryz.func89, Tryz.ntmps89
    go_wp2_with (first
      | (go_at_call 109; refine hI.mono ?_; rintro e w1 ⟨⟨r, rfl, hr⟩, hK1⟩))
    go_ret
    exact ⟨by first | rfl | (rw [← hr]; rfl), hK1⟩
  go_enter Tryz.func71, Tryz.ntmps71
  go_wp2_with fail
  generalize (w.alloc (.map #[] 0)).alloc (.cells #[.map (some w.heap.size)] 67) = W at hC hB ⊢
  go_wp2_with (first
    | (go_at_call 89; refine hC.mono ?_; rintro e w1 ⟨rfl, hK1⟩))
  go_ret
  exact ⟨by simp, ⟨hK1.os.trans hB.os, hK1.tape.trans hB.tape, hK1.output.trans hB.output, Nat.le_trans hB.size hK1.size, fun k hk => (hK1.block k (Nat.lt_of_lt_of_le hk hB.size) (by omega)).trans (hB.block k hk)⟩⟩
end Go.Proofs.YtmmpbjpeiclacaaGreatDoor
