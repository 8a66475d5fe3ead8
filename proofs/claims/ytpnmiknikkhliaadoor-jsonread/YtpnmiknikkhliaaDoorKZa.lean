/- Texts laid as one. -/
import Derived.Test.YtpnmiknikkhliaaDoorKYb
import Derived.Test.YtpnmiknikkhliaaDoorKGround
import Derived.Test.YtpnmiknikkhliaaDoorKJson
/- Contracts of May's small parts: isTextOf, areKeys. -/
set_option linter.unusedVariables false
set_option linter.unusedSimpArgs false
namespace Go.Proofs.YtpnmiknikkhliaaDoor
open Go.RowKit
theorem empty_yes : ((str ([] : List UInt8)).toList.isEmpty) = true := by rw [str_list]; rfl
theorem empty_is (t : List UInt8) : (str t).toList.isEmpty = t.isEmpty := by rw [str_list]
set_option maxHeartbeats 1000000 in
theorem isTextOf_any (k : Int) (t : List UInt8) (w : World) (ht : t.length ≤ 1000000000) :
    Calls Tryd.prog 35 #[.int .i64 k, .string (str t)] w fun e w' => e = .returned (.bool (Jsn.textOf k t)) ∧ Below w.heap.size w w' := by
  unfold Jsn.textOf
  by_cases h1 : k = 1
  · rw [if_pos h1]
    subst h1
    have he := empty_is t
    go_enter Tryd.func35, Tryd.ntmps35
    go_wp2
    go_ret
    exact ⟨by first | rfl | rw [← he]; rfl, Below.refl _ _⟩
  rw [if_neg h1]
  have q1 : (k == 1) = false := beq_eq_false_iff_ne.2 h1
  by_cases h2 : k = 2
  · rw [if_pos h2]
    subst h2
    by_cases e1 : t = Jsn.trueT
    · subst e1
      have f1 : ((str Jsn.trueT).toList == [116, 114, 117, 101]) = true := by rw [str_list]; rfl
      have hd : decide (Jsn.trueT = Jsn.trueT ∨ Jsn.trueT = Jsn.falseT) = true := rfl
      rw [hd]
      go_enter Tryd.func35, Tryd.ntmps35
      go_wp2
      go_ret
      exact ⟨rfl, Below.refl _ _⟩
    · have f1 : ((str t).toList == [116, 114, 117, 101]) = false := by rw [str_list]; exact beq_eq_false_iff_ne.2 e1
      by_cases e2 : t = Jsn.falseT
      · subst e2
        have f2 : ((str Jsn.falseT).toList == [102, 97, 108, 115, 101]) = true := by rw [str_list]; rfl
        have hd : decide (Jsn.falseT = Jsn.trueT ∨ Jsn.falseT = Jsn.falseT) = true := rfl
        rw [hd]
        go_enter Tryd.func35, Tryd.ntmps35
        go_wp2
        go_ret
        exact ⟨rfl, Below.refl _ _⟩
      · have f2 : ((str t).toList == [102, 97, 108, 115, 101]) = false := by rw [str_list]; exact beq_eq_false_iff_ne.2 e2
        have hd : decide (t = Jsn.trueT ∨ t = Jsn.falseT) = false := decide_eq_false (by simp [e1, e2])
        rw [hd]
        go_enter Tryd.func35, Tryd.ntmps35
        go_wp2
        go_ret
        exact ⟨rfl, Below.refl _ _⟩
  rw [if_neg h2]
  have q2 : (k == 2) = false := beq_eq_false_iff_ne.2 h2
  by_cases h3 : k = 3
  · rw [if_pos h3]
    subst h3
    have hN := fun w => number_any t w ht
    have hz := str_size t
    have hle : (Jsn.numR t).1.length ≤ t.length := by obtain ⟨p, hp⟩ := Jsn.numR_left t; have := congrArg List.length hp; simp at this; omega
    unfold Jsn.isNum
    generalize Jsn.numR t = q at *
    obtain ⟨z, b⟩ := q
    dsimp only at hN hle
    cases b with
    | false =>
      have hd : decide ((z, false) = (([] : List UInt8), true)) = false := decide_eq_false (by simp)
      rw [hd]
      go_enter Tryd.func35, Tryd.ntmps35
      go_wp2_with (first
        | (go_at_call 47; refine (hN _).mono ?_; rintro e w1 ⟨rfl, hw⟩; rw [hw]; clear hw))
      go_ret
      exact ⟨rfl, Below.refl _ _⟩
    | true =>
      cases z with
      | nil =>
        have hd : decide ((([] : List UInt8), true) = (([] : List UInt8), true)) = true := rfl
        rw [hd]
        simp only [List.length_nil] at hN
        go_enter Tryd.func35, Tryd.ntmps35
        go_wp2_with (first
          | (go_at_call 47; refine (hN _).mono ?_; rintro e w1 ⟨rfl, hw⟩; rw [hw]; clear hw))
        go_ret
        exact ⟨by simp, Below.refl _ _⟩
      | cons c r =>
        have hd : decide ((c :: r, true) = (([] : List UInt8), true)) = false := decide_eq_false (by simp)
        rw [hd]
        simp only [List.length_cons] at hN hle
        have hne : (((t.length : Int) - ((r.length + 1 : Nat) : Int)) == (t.length : Int)) = false := beq_eq_false_iff_ne.2 (by omega)
        go_enter Tryd.func35, Tryd.ntmps35
        go_wp2_with (first
          | (go_at_call 47; refine (hN _).mono ?_; rintro e w1 ⟨rfl, hw⟩; rw [hw]; clear hw))
        go_ret
        refine ⟨ret_bool ?_, Below.refl _ _⟩
        first | rfl | (simp; omega)
  rw [if_neg h3]
  have q3 : (k == 3) = false := beq_eq_false_iff_ne.2 h3
  by_cases h4 : k = 4
  · rw [if_pos h4]
    subst h4
    go_enter Tryd.func35, Tryd.ntmps35
    go_wp2_with (first
      | (go_at_call 22; refine (IsText_any t _).mono ?_; rintro e w1 ⟨rfl, hb⟩))
    go_ret
    exact ⟨rfl, hb⟩
  rw [if_neg h4]
  have q4 : (k == 4) = false := beq_eq_false_iff_ne.2 h4
  go_enter Tryd.func35, Tryd.ntmps35
  go_wp2
  go_ret
  exact ⟨rfl, Below.refl _ _⟩
/-- A cell that holds a map. -/
def MCell (p g : Nat) (w : World) : Prop := w.heap[p]? = some (.cells #[.map (some g)] 74 (0, 0))
set_option maxHeartbeats 1000000 in
theorem oneKey_any (p g m : Nat) (ks : List (List UInt8)) (t : List UInt8) (w : World) (hM : MCell p g w) (hS : SetAt g m ks w) (hm : m ≤ 1000000000) (ht : t.length ≤ 1000000000) :
    Calls Tryd.prog 45 #[.string (str t), .pointer (some ⟨p, 0, none⟩)] w fun e w' => e = .returned (.bool (!(Utf.isText t && decide (t ∉ ks)))) ∧ (Utf.isText t = true → SetAt g (m + 1) (withKey ks t) w') ∧ Kept g w w' := by
  have hT := IsText_any t
  have hp : p < w.heap.size := (Array.getElem?_eq_some_iff.1 hM).1
  cases htx : Utf.isText t
  · simp only [htx] at hT
    go_enter Tryd.func45, Tryd.ntmps45
    go_wp2_with (first
      | (go_at_call 22; refine (hT _).mono ?_; rintro e w1 ⟨rfl, hb⟩))
    go_ret
    exact ⟨rfl, (fun h => by cases h), Kept.of hb⟩
  · simp only [htx] at hT
    have hN := fun w hS => isNew_any g m ks t w hS ht hm
    go_enter Tryd.func45, Tryd.ntmps45
    go_wp2_with (first
      | (go_at_call 22; refine (hT _).mono ?_; rintro e w1 ⟨rfl, hb⟩; have c1 : w1.cell? ⟨p, 0, none⟩ = some (.map (some g)) := Lib.cell_of_heap ((hb.block p hp).trans hM) 0; have hS1 := hS.keep (hb.block g hS.lt))
      | (go_at_call 46; refine (hN _ hS1).mono ?_; rintro e w2 ⟨rfl, hS2, hK2⟩))
    go_ret
    exact ⟨by simp, fun _ => hS2, (Kept.of hb).trans hK2⟩
theorem keys_split (ks : List (List UInt8)) (j : Nat) (h : j < ks.length) (hn : (ks.take j).Nodup) : (ks.take (j + 1)).Nodup ↔ ks[j] ∉ ks.take j := by
  rw [List.take_add_one, List.getElem?_eq_getElem h]
  show ((ks.take j) ++ [ks[j]]).Nodup ↔ _
  rw [List.nodup_append]
  constructor
  · intro h2 hm
    exact h2.2.2 _ hm _ (by simp) rfl
  · intro h2
    exact ⟨hn, by simp, fun a ha b hb => by simp at hb; subst hb; exact fun e => h2 (e ▸ ha)⟩
theorem keys_not (ks : List (List UInt8)) (j : Nat) (h : j < ks.length) (hb : ¬ (Utf.isText ks[j] = true ∧ ks[j] ∉ ks.take j)) : Jsn.keysOK ks = false := by
  unfold Jsn.keysOK
  rw [Bool.and_eq_false_iff]
  by_cases ht : Utf.isText ks[j] = true
  · right
    refine decide_eq_false fun hn => ?_
    have hm : ks[j] ∈ ks.take j := by
      by_cases e : ks[j] ∈ ks.take j
      · exact e
      · exact absurd ⟨ht, e⟩ hb
    rw [← List.take_append_drop j ks, List.nodup_append] at hn
    exact hn.2.2 _ hm ks[j] (by rw [List.drop_eq_getElem_cons h]; exact List.mem_cons_self ..) rfl
  · left
    by_cases e : ks.all Utf.isText = true
    · exact absurd (List.all_eq_true.1 e _ (List.getElem_mem h)) ht
    · simpa using e
theorem RTs.form {Q : Nat → Prop} {w : World} {ts : List (List UInt8)} {v : Value} (h : RTs Q w ts v) : ∃ a c, v = .slice a ts.length c := by
  rcases h with ⟨a, c, rfl, rfl⟩ | ⟨b, o, c, _, rfl, _⟩
  · exact ⟨_, _, rfl⟩
  · exact ⟨_, _, rfl⟩
theorem RTs.at {Q : Nat → Prop} {w : World} {a : Option Addr} {n c : Nat} {ts : List (List UInt8)} {k : Nat} {t : List UInt8} (h : RTs Q w ts (.slice a n c)) (ht : ts[k]? = some t) :
    ∃ b o, a = some ⟨b, o, none⟩ ∧ ts.length ≤ c ∧ Q b ∧ b < w.heap.size ∧ w.cell? ⟨b, o + k, none⟩ = some (.string (str t)) := by
  rcases h with ⟨a, c, _, rfl⟩ | ⟨b, o, c, hq, h1, h2, h3, h4⟩
  · simp at ht
  · cases h1
    exact ⟨b, o, rfl, h2, hq, h3, h4 k t ht⟩
set_option maxHeartbeats 1000000 in
theorem keysIndex_any (p g : Nat) (ks : List (List UInt8)) (kv : Value) (w : World) (hM : MCell p g w) (hS : SetAt g 0 [] w) (hne : p ≠ g) (hk : RTs (fun k => k ≠ g) w ks kv) (hl : ks.length ≤ 1000000000) (ht : ∀ t ∈ ks, t.length ≤ 1000000000) :
    Calls Tryd.prog 60 #[kv, .func (.func 45) #[] #[.pointer (some ⟨p, 0, none⟩)]] w fun e w' => (∃ r, e = .returned (.int .i64 r) ∧ decide (0 ≤ r) = !Jsn.keysOK ks) ∧ Kept g w w' := by
  obtain ⟨a, c, rfl⟩ := hk.form
  go_enter Tryd.func60, Tryd.ntmps60
  go_wp2
  go_loopw [8] (fun i wr => ∃ j : Nat, i = .int .i64 j ∧ j ≤ ks.length ∧ SetAt g j (ks.take j) wr ∧ (ks.take j).Nodup ∧ (ks.take j).all Utf.isText = true ∧ Kept g w wr) (fun i _ => ks.length - (intOf i).toNat)
  case atStart => exact ⟨0, rfl, Nat.zero_le _, by simpa using hS, by simp, rfl, Kept.refl _ _⟩
  case round =>
    obtain ⟨j, rfl, hj, hSj, hnd, htx, hK⟩ := hrel
    by_cases hlt : j < ks.length
    · have hat : ks[j]? = some ks[j] := List.getElem?_eq_getElem hlt
      obtain ⟨b, o, rfl, hc, hbg, hbl, hcell⟩ := hk.at hat
      have hcw := (cell_keep (hK.block b hbl hbg) (o := o + j)).trans hcell
      have htl := ht ks[j] (List.getElem_mem hlt)
      have hMr : MCell p g wr := (hK.block p (Array.getElem?_eq_some_iff.1 hM).1 hne).trans hM
      have h1 := oneKey_any p g j (ks.take j) ks[j] wr hMr hSj (by omega) htl
      have hnot := keys_not ks j hlt
      have hspl := keys_split ks j hlt hnd
      have htk : ks.take (j + 1) = ks.take j ++ [ks[j]] := by rw [List.take_add_one, hat]; rfl
      generalize ks[j] = t at *
      cases hres : (Utf.isText t && decide (t ∉ ks.take j))
      · simp only [hres] at h1
        have HN : Hid (Jsn.keysOK ks = false) := hnot (by
          rintro ⟨e1, e2⟩
          rw [e1, decide_eq_true e2] at hres
          cases hres)
        go_wp2_with (first
          | (go_at_call 45; refine h1.mono ?_; rintro e w1 ⟨rfl, _, hK1⟩))
        go_ret
        exact ⟨⟨_, rfl, by rw [HN.out]; simp⟩, hK.trans hK1⟩
      · simp only [hres] at h1
        have hr := Bool.and_eq_true_iff.1 hres
        have hni : t ∉ ks.take j := of_decide_eq_true hr.2
        have HA : Hid ((ks.take (j + 1)).Nodup ∧ (ks.take (j + 1)).all Utf.isText = true ∧ withKey (ks.take j) t = ks.take (j + 1)) := ⟨hspl.2 hni, by rw [htk, List.all_append, htx]; simp [hr.1], by rw [htk]; exact if_neg hni⟩
        have hr1 := hr.1
        clear hnot hspl htk hr hni hres
        go_wp2_with (first
          | (go_at_call 45; refine h1.mono ?_; rintro e w1 ⟨rfl, hS1, hK1⟩))
        go_roundw
        case rel => exact ⟨j + 1, by go_num, by omega, HA.out.2.2 ▸ hS1 hr1, HA.out.1, HA.out.2.1, hK.trans hK1⟩
        case measure => simp [intOf]; omega
    · have he : ks.take j = ks := List.take_of_length_le (by omega)
      have HN : Hid (Jsn.keysOK ks = true) := by
        show _ = _
        unfold Jsn.keysOK
        rw [he] at hnd htx
        rw [htx, decide_eq_true hnd]
        rfl
      go_wp2
      go_ret
      exact ⟨⟨_, rfl, by rw [HN.out]; rfl⟩, hK⟩
set_option maxHeartbeats 1000000 in
theorem areKeys_any (Q : Nat → Prop) (ks : List (List UInt8)) (kv : Value) (w : World) (hk : RTs Q w ks kv) (hl : ks.length ≤ 1000000000) (ht : ∀ t ∈ ks, t.length ≤ 1000000000) :
    Calls Tryd.prog 34 #[kv] w fun e w' => e = .returned (.bool (Jsn.keysOK ks)) ∧ Below w.heap.size w w' := by
  have hmm := @run_makeMap Tryd.prog
  have hmf : ∀ (fn : Fn) (first cap : Array Value) (w : World), (Instr.makeFunc fn first cap).run Tryd.prog w = .ok (.func fn first cap) w := fun _ _ _ _ => rfl
  obtain ⟨a, c, rfl⟩ := hk.form
  have hB : Below w.heap.size w ((w.alloc (.map #[] 0)).alloc (.cells #[.map (some w.heap.size)] 74)) := ((Below.refl _ w).alloc (Nat.le_refl _) _).alloc (by simp) _
  have hS : SetAt w.heap.size 0 [] ((w.alloc (.map #[] 0)).alloc (.cells #[.map (some w.heap.size)] 74)) := (SetAt.made w 0).keep (Lib.alloc_old _ _ _ (by simp))
  have hM : MCell (w.heap.size + 1) w.heap.size ((w.alloc (.map #[] 0)).alloc (.cells #[.map (some w.heap.size)] 74)) := by
    unfold MCell
    have e : w.heap.size + 1 = (w.alloc (.map #[] 0)).heap.size := by simp
    rw [e]
    exact heap_alloc_last _ _
  have hk2 : RTs (fun k => k ≠ w.heap.size) ((w.alloc (.map #[] 0)).alloc (.cells #[.map (some w.heap.size)] 74)) ks (.slice a ks.length c) := hk.keep hB.size (fun k _ hl => ⟨by omega, hB.block k hl⟩)
  have hI := keysIndex_any (w.heap.size + 1) w.heap.size ks _ _ hM hS (by omega) hk2 hl ht
  have hC : Calls Tryd.prog 44 #[.slice a ks.length c, .func (.func 45) #[] #[.pointer (some ⟨w.heap.size + 1, 0, none⟩)]] ((w.alloc (.map #[] 0)).alloc (.cells #[.map (some w.heap.size)] 74)) fun e w' => e = .returned (.bool (!Jsn.keysOK ks)) ∧ Kept w.heap.size ((w.alloc (.map #[] 0)).alloc (.cells #[.map (some w.heap.size)] 74)) w' := by
    generalize (w.alloc (.map #[] 0)).alloc (.cells #[.map (some w.heap.size)] 74) = W at hI ⊢
    go_enter Tryd.func44, Tryd.ntmps44
    go_wp2_with (first
      | (go_at_call 60; refine hI.mono ?_; rintro e w1 ⟨⟨r, rfl, hr⟩, hK1⟩))
    go_ret
    exact ⟨by first | rfl | (rw [← hr]; rfl), hK1⟩
  go_enter Tryd.func34, Tryd.ntmps34
  go_wp2_with fail
  generalize (w.alloc (.map #[] 0)).alloc (.cells #[.map (some w.heap.size)] 74) = W at hC hB ⊢
  go_wp2_with (first
    | (go_at_call 44; refine hC.mono ?_; rintro e w1 ⟨rfl, hK1⟩))
  go_ret
  exact ⟨by simp, ⟨hK1.os.trans hB.os, hK1.tape.trans hB.tape, hK1.output.trans hB.output, Nat.le_trans hB.size hK1.size, fun k hk => (hK1.block k (Nat.lt_of_lt_of_le hk hB.size) (by omega)).trans (hB.block k hk)⟩⟩
end Go.Proofs.YtpnmiknikkhliaaDoor
/- Contracts of May: mayBe, kidsMayBe. -/
set_option linter.unusedVariables false
set_option linter.unusedSimpArgs false
namespace Go.Proofs.YtpnmiknikkhliaaDoor
open Go.RowKit
/-- A census at b that has met n. -/
def CAt (w : World) (b : Nat) (n : Nat) : Prop := w.heap[b]? = some (.cells #[.int .i64 (n : Int)] 50 (0, 0))
theorem CAt.cell {w : World} {b n : Nat} (h : CAt w b n) : w.cell? ⟨b, 0, none⟩ = some (.int .i64 (n : Int)) := Lib.cell_of_heap h 0
theorem CAt.free {w : World} {b n : Nat} (h : CAt w b n) : w.frozen? ⟨b, 0, none⟩ = false := Lib.frozen_of_heap h 0
theorem CAt.lt {w : World} {b n : Nat} (h : CAt w b n) : b < w.heap.size := (Array.getElem?_eq_some_iff.1 h).1
theorem CAt.keep {w w' : World} {b n : Nat} (h : CAt w b n) (e : w'.heap[b]? = w.heap[b]?) : CAt w' b n := e.trans h
theorem CAt.up {w : World} {b n : Nat} (h : CAt w b n) : CAt (w.setCell ⟨b, 0, none⟩ (.int .i64 ((n : Int) + 1))) b (n + 1) := Go.Joins.block_setCell h _
/-- What the census has met, if all may be. -/
def Cnt (b : Nat) (w : World) (x : Option Nat) : Prop := ∀ m, x = some m → CAt w b m ∧ m ≤ 4096
theorem Cnt.no (b : Nat) (w : World) : Cnt b w none := fun m h => by cases h
theorem Cnt.yes {b m : Nat} {w : World} (h : CAt w b m) (hm : m ≤ 4096) : Cnt b w (some m) := fun m' e => by cases e; exact ⟨h, hm⟩
def MPost (b : Nat) (w : World) (x : Option Nat) (e : Ending) (w' : World) : Prop := e = .returned (.bool x.isSome) ∧ Kept b w w' ∧ Cnt b w' x
def MayC (t : Jsn.J) : Prop := ∀ (v : Value) (b n d : Nat) (w : World), RV (· ≠ b) w t v → CAt w b n → n ≤ 4096 → d ≤ 64 → Jsn.sizeJ t ≤ 1000000000 → Calls Tryd.prog 21 #[.pointer (some ⟨b, 0, none⟩), v, .int .i64 (d : Int)] w (MPost b w (Jsn.mayC t d n))
theorem RKs.form {Q : Nat → Prop} {w : World} {cs : List Jsn.J} {v : Value} (h : RKs Q w cs v) : ∃ a c, v = .slice a cs.length c := by
  rcases h with ⟨a, c, rfl, rfl⟩ | ⟨b, o, c, _, rfl, _⟩
  · exact ⟨_, _, rfl⟩
  · exact ⟨_, _, rfl⟩
theorem RKs.at {Q : Nat → Prop} {w : World} {a : Option Addr} {n c : Nat} {cs : List Jsn.J} {j : Nat} {t : Jsn.J} (h : RKs Q w cs (.slice a n c)) (ht : cs[j]? = some t) :
    ∃ b o, a = some ⟨b, o, none⟩ ∧ cs.length ≤ c ∧ Q b ∧ b < w.heap.size ∧ ∃ x0 x1 x2 x3, w.cell? ⟨b, o + j * 4, none⟩ = some x0 ∧ w.cell? ⟨b, o + j * 4 + 1, none⟩ = some x1 ∧ w.cell? ⟨b, o + j * 4 + 2, none⟩ = some x2 ∧ w.cell? ⟨b, o + j * 4 + 3, none⟩ = some x3 ∧ RV Q w t (vv x0 x1 x2 x3) := by
  rcases h with ⟨a, c, _, rfl⟩ | ⟨b, o, c, hq, h1, h2, h3, h4⟩
  · simp at ht
  · cases h1
    exact ⟨b, o, rfl, h2, hq, h3, RCs_at h4 ht⟩
theorem mayL_drop {cs : List Jsn.J} {j : Nat} (h : j < cs.length) (d n : Nat) : Jsn.mayL (cs.drop j) d n = (Jsn.mayC cs[j] d n).bind fun m => Jsn.mayL (cs.drop (j + 1)) d m := by
  rw [List.drop_eq_getElem_cons h]
  conv => lhs; unfold Jsn.mayL
  cases Jsn.mayC cs[j] d n <;> rfl
set_option maxHeartbeats 2000000 in
set_option maxRecDepth 100000 in
theorem kidsMayBe_any (cs : List Jsn.J) (ih : ∀ c ∈ cs, MayC c) (x0 x1 x2 cv : Value) (b n d : Nat) (w : World) (hk : RKs (· ≠ b) w cs cv) (hC : CAt w b n) (hn : n ≤ 4096) (hd : d ≤ 64) (hsz : Jsn.sizeL cs ≤ 1000000000) (hl : cs.length ≤ 1000000000) :
    Calls Tryd.prog 33 #[.pointer (some ⟨b, 0, none⟩), vv x0 x1 x2 cv, .int .i64 (d : Int)] w (MPost b w (if d < 64 then Jsn.mayL cs (d + 1) n else none)) := by
  unfold MPost
  obtain ⟨a, c, rfl⟩ := hk.form
  have hb := hC.lt
  by_cases hd64 : d < 64
  · rw [if_pos hd64]
    have hdi : ¬ (64 : Int) ≤ (d : Int) := by omega
    generalize hX : Jsn.mayL cs (d + 1) n = X
    have HX := show Hid _ from hX
    clear hX
    go_enter Tryd.func33, Tryd.ntmps33
    go_wp2
    go_loopw [14] (fun i wr => ∃ j m : Nat, i = .int .i64 j ∧ j ≤ cs.length ∧ CAt wr b m ∧ m ≤ 4096 ∧ Kept b w wr ∧ Hid (Jsn.mayL (cs.drop j) (d + 1) m = X)) (fun i _ => cs.length - (intOf i).toNat)
    case atStart =>
      have hB : Below w.heap.size w (w.alloc (.cells #[x0, x1, x2, .slice a cs.length c] 25)) := (Below.refl _ w).alloc (Nat.le_refl _) _
      exact ⟨0, n, rfl, Nat.zero_le _, hC.keep (hB.block b hb), hn, Kept.of hB, HX⟩
    case round =>
      obtain ⟨j, m, rfl, hj, hCj, hm, hK, HE⟩ := hrel
      by_cases hlt : j < cs.length
      · have hat : cs[j]? = some cs[j] := List.getElem?_eq_getElem hlt
        obtain ⟨g, o, rfl, hcl, hgb, hgl, y0, y1, y2, y3, e0, e1, e2, e3, hrv⟩ := hk.at hat
        have hkg := hK.block g hgl hgb
        have f0 := (cell_keep hkg (o := o + j * 4)).trans e0
        have f1 := (cell_keep hkg (o := o + j * 4 + 1)).trans e1
        have f2 := (cell_keep hkg (o := o + j * 4 + 2)).trans e2
        have f3 := (cell_keep hkg (o := o + j * 4 + 3)).trans e3
        obtain ⟨aa, na, ca, ab, nb, cb, hsh⟩ := hrv.shape
        cases hsh
        have hE := HE.out
        rw [mayL_drop hlt] at hE
        have hBw : Below wr.heap.size wr (wr.alloc (.cells #[.int .i64 cs[j].kind, .string (str cs[j].text), .slice aa na ca, .slice ab nb cb] 25)) := (Below.refl _ wr).alloc (Nat.le_refl _) _
        have hKw : Kept b w (wr.alloc (.cells #[.int .i64 cs[j].kind, .string (str cs[j].text), .slice aa na ca, .slice ab nb cb] 25)) := hK.trans (Kept.of hBw)
        have hI := ih cs[j] (List.getElem_mem hlt) (vv (.int .i64 cs[j].kind) (.string (str cs[j].text)) (.slice aa na ca) (.slice ab nb cb)) b m (d + 1) (wr.alloc (.cells #[.int .i64 cs[j].kind, .string (str cs[j].text), .slice aa na ca, .slice ab nb cb] 25)) (RV.keep hKw.size (fun k hq hl => ⟨hq, hKw.block k hl hq⟩) hrv) (hCj.keep (hBw.block b hCj.lt)) hm (by omega) (Nat.le_trans (Jsn.sizeL_mem (List.getElem_mem hlt)) hsz)
        cases hmc : Jsn.mayC cs[j] (d + 1) m with
        | none =>
          rw [hmc] at hE hI
          have HY : Hid (X = none) := hE.symm
          clear hE HE hmc
          generalize cs[j] = t at *
          go_wp2_with (first
            | (go_at_call 21; refine hI.mono ?_; rintro e w1 ⟨rfl, hK1, _⟩))
          go_ret
          rw [HY.out]
          exact ⟨rfl, hKw.trans hK1, Cnt.no _ _⟩
        | some q =>
          rw [hmc] at hE hI
          have HY : Hid (Jsn.mayL (cs.drop (j + 1)) (d + 1) q = X) := hE
          clear hE HE hmc
          generalize cs[j] = t at *
          go_wp2_with (first
            | (go_at_call 21; refine hI.mono ?_; rintro e w1 ⟨rfl, hK1, hm1⟩))
          go_roundw
          case rel => exact ⟨j + 1, q, by go_num, by omega, (hm1 q rfl).1, (hm1 q rfl).2, hKw.trans hK1, HY⟩
          case measure => simp [intOf]; omega
      · have HY : Hid (X = some m) := by
          show _ = _
          rw [← HE.out, List.drop_of_length_le (by omega)]
          unfold Jsn.mayL
          rfl
        go_wp2
        go_ret
        rw [HY.out]
        exact ⟨rfl, hK, Cnt.yes hCj hm⟩
  · rw [if_neg hd64]
    have hdi : (64 : Int) ≤ (d : Int) := by omega
    go_enter Tryd.func33, Tryd.ntmps33
    go_wp2
    go_ret
    exact ⟨rfl, Kept.of ((Below.refl _ w).alloc (Nat.le_refl _) _), Cnt.no _ _⟩
set_option maxHeartbeats 4000000 in
set_option maxRecDepth 100000 in
theorem mayBe_all : ∀ t, MayC t := by
  intro tr
  induction tr using Jsn.J.ind with
  | h k t ks cs ih =>
    intro v b n d w hv hC hn hd hsz
    obtain ⟨kv, cv, rfl, hks, hcs⟩ := RV_mk.1 hv
    obtain ⟨a1, c1, rfl⟩ := hks.form
    obtain ⟨a2, c2, rfl⟩ := hcs.form
    rw [Jsn.sizeJ_mk] at hsz
    have hb := hC.lt
    have cc := hC.cell
    have cf := hC.free
    have HC1 := hC.up
    unfold MPost
    unfold Jsn.mayC
    -- the world behind the count
    have hB : ∀ o, Below (w.setCell ⟨b, 0, none⟩ (.int .i64 ((n : Int) + 1))).heap.size (w.setCell ⟨b, 0, none⟩ (.int .i64 ((n : Int) + 1))) ((w.setCell ⟨b, 0, none⟩ (.int .i64 ((n : Int) + 1))).alloc o) := fun o => (Below.refl _ _).alloc (Nat.le_refl _) _
    have hK1 : ∀ o, Kept b w ((w.setCell ⟨b, 0, none⟩ (.int .i64 ((n : Int) + 1))).alloc o) := fun o => (Kept.set b 0 w _).trans (Kept.of (hB o))
    have hC1 : ∀ o, CAt ((w.setCell ⟨b, 0, none⟩ (.int .i64 ((n : Int) + 1))).alloc o) b (n + 1) := fun o => HC1.keep ((hB o).block b HC1.lt)
    by_cases hmany : 4096 ≤ n
    · rw [if_pos hmany]
      have hmi : (4096 : Int) < (n : Int) + 1 := by omega
      go_enter Tryd.func21, Tryd.ntmps21
      go_wp2
      go_ret
      exact ⟨rfl, hK1 _, Cnt.no _ _⟩
    rw [if_neg hmany]
    have hmi : ¬ (4096 : Int) < (n : Int) + 1 := by omega
    have ht0 : (str t).toList.isEmpty = t.isEmpty := empty_is t
    have hz := str_size t
    by_cases h5 : k = 5
    · rw [if_pos h5]
      subst h5
      have hKids := kidsMayBe_any cs ih (.int .i64 5) (.string (str t)) (.slice a1 ks.length c1) (.slice a2 cs.length c2) b (n + 1) d ((w.setCell ⟨b, 0, none⟩ (.int .i64 ((n : Int) + 1))).alloc (.cells #[.int .i64 5, .string (str t), .slice a1 ks.length c1, .slice a2 cs.length c2] 25)) (hcs.keep (hK1 _).size (fun k hq hl => ⟨hq, (hK1 _).block k hl hq⟩)) (hC1 _) (by omega) hd (by omega) (by omega)
      by_cases hte : t = []
      · by_cases hke : ks = []
        · subst hte; subst hke
          have e0 : (str ([] : List UInt8)).toList.isEmpty = true := empty_yes
          have hX : (if ([] : List UInt8) = [] ∧ ([] : List (List UInt8)) = [] ∧ d < 64 then Jsn.mayL cs (d + 1) (n + 1) else none) = (if d < 64 then Jsn.mayL cs (d + 1) (n + 1) else none) := by simp
          rw [hX]
          generalize (if d < 64 then Jsn.mayL cs (d + 1) (n + 1) else none) = X at hKids ⊢
          go_enter Tryd.func21, Tryd.ntmps21
          go_wp2_with (first
            | (go_at_call 33; refine hKids.mono ?_; rintro e w2 ⟨rfl, hK2, hm2⟩))
          go_ret
          exact ⟨rfl, (hK1 _).trans hK2, hm2⟩
        · rw [if_neg (fun e => hke e.2.1)]
          subst hte
          have e0 : (str ([] : List UInt8)).toList.isEmpty = true := empty_yes
          have hkl : ¬ (ks.length : Int) = 0 := by have := List.length_pos_iff.2 hke; omega
          have hkb : ((ks.length : Int) == 0) = false := beq_eq_false_iff_ne.2 hkl
          go_enter Tryd.func21, Tryd.ntmps21
          go_wp2_with fail
          go_ret
          exact ⟨rfl, hK1 _, Cnt.no _ _⟩
      · rw [if_neg (fun e => hte e.1)]
        have e0 : (str t).toList.isEmpty = false := by rw [ht0]; simpa using hte
        clear ht0
        go_enter Tryd.func21, Tryd.ntmps21
        go_wp2_with fail
        go_ret
        exact ⟨rfl, hK1 _, Cnt.no _ _⟩
    rw [if_neg h5]
    have q5 : (k == 5) = false := beq_eq_false_iff_ne.2 h5
    by_cases h6 : k = 6
    · rw [if_pos h6]
      subst h6
      have hKids := kidsMayBe_any cs ih (.int .i64 6) (.string (str t)) (.slice a1 ks.length c1) (.slice a2 cs.length c2) b (n + 1) d ((w.setCell ⟨b, 0, none⟩ (.int .i64 ((n : Int) + 1))).alloc (.cells #[.int .i64 6, .string (str t), .slice a1 ks.length c1, .slice a2 cs.length c2] 25)) (hcs.keep (hK1 _).size (fun k hq hl => ⟨hq, (hK1 _).block k hl hq⟩)) (hC1 _) (by omega) hd (by omega) (by omega)
      have hks1 : RTs (· ≠ b) ((w.setCell ⟨b, 0, none⟩ (.int .i64 ((n : Int) + 1))).alloc (.cells #[.int .i64 6, .string (str t), .slice a1 ks.length c1, .slice a2 cs.length c2] 25)) ks (.slice a1 ks.length c1) := hks.keep (hK1 _).size (fun k hq hl => ⟨hq, (hK1 _).block k hl hq⟩)
      have hbox : ((w.setCell ⟨b, 0, none⟩ (.int .i64 ((n : Int) + 1))).alloc (.cells #[.int .i64 6, .string (str t), .slice a1 ks.length c1, .slice a2 cs.length c2] 25)).heap[w.heap.size]? = some (.cells #[.int .i64 6, .string (str t), .slice a1 ks.length c1, .slice a2 cs.length c2] 25 (0, 0)) := by
        have := heap_alloc_last (w.setCell ⟨b, 0, none⟩ (.int .i64 ((n : Int) + 1))) (.cells #[.int .i64 6, .string (str t), .slice a1 ks.length c1, .slice a2 cs.length c2] 25)
        simpa using this
      by_cases hte : t = []
      · by_cases hke : ks.length = cs.length
        · subst hte
          have e0 : (str ([] : List UInt8)).toList.isEmpty = true := empty_yes
          have hX : (if ([] : List UInt8) = [] ∧ ks.length = cs.length ∧ d < 64 then (if Jsn.keysOK ks = true then Jsn.mayL cs (d + 1) (n + 1) else none) else none) = (if Jsn.keysOK ks = true then (if d < 64 then Jsn.mayL cs (d + 1) (n + 1) else none) else none) := by
            by_cases h1 : d < 64 <;> by_cases h2 : Jsn.keysOK ks = true <;> simp [hke, h1, h2]
          rw [hX]
          generalize (if d < 64 then Jsn.mayL cs (d + 1) (n + 1) else none) = X at hKids ⊢
          have hkl : ((ks.length : Int) == (cs.length : Int)) = true := by simp [hke]
          have HKE := show Hid _ from hke
          clear hke hX
          cases X with
          | none =>
            have hX2 : (if Jsn.keysOK ks = true then (none : Option Nat) else none) = none := by split <;> rfl
            rw [hX2]
            go_enter Tryd.func21, Tryd.ntmps21
            go_wp2_with (first
              | (go_at_call 33; refine hKids.mono ?_; rintro e w2 ⟨rfl, hK2, hm2⟩))
            go_ret
            exact ⟨rfl, (hK1 _).trans hK2, Cnt.no _ _⟩
          | some q =>
            have hA := fun W (hk : RTs (· ≠ b) W ks (.slice a1 ks.length c1)) => areKeys_any (· ≠ b) ks (.slice a1 ks.length c1) W hk (by omega) (fun x hx => by have := Jsn.lenK_mem hx; omega)
            cases hko : Jsn.keysOK ks with
            | false =>
              simp only [hko] at hA
              rw [if_neg (by decide)]
              clear hko
              go_enter Tryd.func21, Tryd.ntmps21
              go_wp2_with (first
                | (go_at_call 33; refine hKids.mono ?_; rintro e w2 ⟨rfl, hK2, hm2⟩; have cb2 : w2.cell? ⟨w.heap.size, 2, none⟩ = some (.slice a1 ks.length c1) := Lib.cell_of_heap ((hK2.block w.heap.size (by simp) (by omega)).trans hbox) 2)
                | (go_at_call 34; refine (hA _ (hks1.keep hK2.size (fun k hq hl => ⟨hq, hK2.block k hl hq⟩))).mono ?_; rintro e w3 ⟨rfl, hB3⟩))
              go_ret
              exact ⟨rfl, ((hK1 _).trans hK2).trans (Kept.of hB3), Cnt.no _ _⟩
            | true =>
              simp only [hko] at hA
              rw [if_pos rfl]
              clear hko
              go_enter Tryd.func21, Tryd.ntmps21
              go_wp2_with (first
                | (go_at_call 33; refine hKids.mono ?_; rintro e w2 ⟨rfl, hK2, hm2⟩; have cb2 : w2.cell? ⟨w.heap.size, 2, none⟩ = some (.slice a1 ks.length c1) := Lib.cell_of_heap ((hK2.block w.heap.size (by simp) (by omega)).trans hbox) 2)
                | (go_at_call 34; refine (hA _ (hks1.keep hK2.size (fun k hq hl => ⟨hq, hK2.block k hl hq⟩))).mono ?_; rintro e w3 ⟨rfl, hB3⟩))
              go_ret
              exact ⟨rfl, ((hK1 _).trans hK2).trans (Kept.of hB3), Cnt.yes ((hm2 _ rfl).1.keep (hB3.block b (hm2 _ rfl).1.lt)) (hm2 _ rfl).2⟩
        · rw [if_neg (fun e => hke e.2.1)]
          subst hte
          have e0 : (str ([] : List UInt8)).toList.isEmpty = true := empty_yes
          have hkl : ((ks.length : Int) == (cs.length : Int)) = false := beq_eq_false_iff_ne.2 (by omega)
          go_enter Tryd.func21, Tryd.ntmps21
          go_wp2_with fail
          go_ret
          exact ⟨rfl, hK1 _, Cnt.no _ _⟩
      · rw [if_neg (fun e => hte e.1)]
        have e0 : (str t).toList.isEmpty = false := by rw [ht0]; simpa using hte
        clear ht0
        go_enter Tryd.func21, Tryd.ntmps21
        go_wp2_with fail
        go_ret
        exact ⟨rfl, hK1 _, Cnt.no _ _⟩
    rw [if_neg h6]
    have q6 : (k == 6) = false := beq_eq_false_iff_ne.2 h6
    by_cases hke : ks = []
    · by_cases hce : cs = []
      · subst hke; subst hce
        have hX : (if ([] : List (List UInt8)) = [] ∧ ([] : List Jsn.J) = [] ∧ Jsn.textOf k t = true then some (n + 1) else none) = (if Jsn.textOf k t = true then some (n + 1) else none) := by simp
        rw [hX]
        have hT := fun W => isTextOf_any k t W (by omega)
        cases hto : Jsn.textOf k t with
        | false =>
          simp only [hto] at hT
          rw [if_neg (by decide)]
          clear hto
          go_enter Tryd.func21, Tryd.ntmps21
          go_wp2_with (first
            | (go_at_call 35; refine (hT _).mono ?_; rintro e w2 ⟨rfl, hB2⟩))
          go_ret
          exact ⟨rfl, (hK1 _).trans (Kept.of hB2), Cnt.no _ _⟩
        | true =>
          simp only [hto] at hT
          rw [if_pos rfl]
          clear hto
          go_enter Tryd.func21, Tryd.ntmps21
          go_wp2_with (first
            | (go_at_call 35; refine (hT _).mono ?_; rintro e w2 ⟨rfl, hB2⟩))
          go_ret
          exact ⟨rfl, (hK1 _).trans (Kept.of hB2), Cnt.yes ((hC1 _).keep (hB2.block b (hC1 _).lt)) (by omega)⟩
      · rw [if_neg (fun e => hce e.2.1)]
        subst hke
        have hkl : ((cs.length : Int) == 0) = false := beq_eq_false_iff_ne.2 (by have := List.length_pos_iff.2 hce; omega)
        go_enter Tryd.func21, Tryd.ntmps21
        go_wp2_with fail
        go_ret
        exact ⟨rfl, hK1 _, Cnt.no _ _⟩
    · rw [if_neg (fun e => hke e.1)]
      have hkl : ((ks.length : Int) == 0) = false := beq_eq_false_iff_ne.2 (by have := List.length_pos_iff.2 hke; omega)
      go_enter Tryd.func21, Tryd.ntmps21
      go_wp2_with fail
      go_ret
      exact ⟨rfl, hK1 _, Cnt.no _ _⟩
set_option maxHeartbeats 1000000 in
theorem May_any (t : Jsn.J) (v : Value) (w : World) (hv : RV (fun _ => True) w t v) (hsz : Jsn.sizeJ t ≤ 1000000000) :
    Calls Tryd.prog 12 #[v] w fun e w' => e = .returned (.bool (Jsn.mayJ t)) ∧ Below w.heap.size w w' := by
  obtain ⟨aa, na, ca, ab, nb, cb, rfl⟩ := hv.shape
  have hB : Below w.heap.size w ((w.alloc (.cells #[.int .i64 t.kind, .string (str t.text), .slice aa na ca, .slice ab nb cb] 25)).alloc (.cells #[.int .i64 0] 50)) := ((Below.refl _ w).alloc (Nat.le_refl _) _).alloc (by simp) _
  have hC : CAt ((w.alloc (.cells #[.int .i64 t.kind, .string (str t.text), .slice aa na ca, .slice ab nb cb] 25)).alloc (.cells #[.int .i64 0] 50)) (w.heap.size + 1) 0 := by
    unfold CAt
    have e : w.heap.size + 1 = (w.alloc (.cells #[.int .i64 t.kind, .string (str t.text), .slice aa na ca, .slice ab nb cb] 25)).heap.size := by simp
    rw [e]
    exact heap_alloc_last _ _
  have hM := mayBe_all t _ (w.heap.size + 1) 0 0 _ (RV.keep hB.size (fun k _ hl => ⟨by omega, hB.block k hl⟩) hv) hC (by omega) (by omega) hsz
  go_enter Tryd.func12, Tryd.ntmps12
  go_wp2_with (first
    | (go_at_call 21; refine hM.mono ?_; rintro e w1 ⟨rfl, hK1, _⟩))
  go_ret
  exact ⟨rfl, ⟨hK1.os.trans hB.os, hK1.tape.trans hB.tape, hK1.output.trans hB.output, Nat.le_trans hB.size hK1.size, fun k hk => (hK1.block k (Nat.lt_of_lt_of_le hk hB.size) (by omega)).trans (hB.block k hk)⟩⟩
end Go.Proofs.YtpnmiknikkhliaaDoor
