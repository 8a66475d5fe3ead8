/- Texts laid as one. -/
import Derived.Test.YtnklbeldheocmaaGreatDoorKDateD
import Derived.Test.YtnklbeldheocmaaGreatDoorKAscii
/- The contract of the reader's moment, as one; of whole at it, and of Parse. -/
namespace Go.Proofs.YtnklbeldheocmaaGreatDoor
open Go.RowKit
theorem day_bd {l r : List UInt8} {v : Int} (h : Dat.dayP l = some (v, r)) : -1000000 ≤ v ∧ v ≤ 3000000 := by
  obtain ⟨p, _, hp, _⟩ := Dat.day_fore h
  unfold Dat.dayR at hp
  split at hp
  · split at hp
    · rename_i hv
      have hy := (Dat.valid_one _).1 hv.1
      have := newY_bd _ hy.1 (by omega)
      have := Dat.yearN_bd (Dat.two (p.take 4) 4)
      have e := Option.some.inj hp
      rw [num_one] at e
      omega
    · cases hp
  · split at hp
    · unfold Dat.days at hp
      split at hp
      · rename_i hv
        have := Dat.num_bd hv
        have e := Option.some.inj hp
        omega
      · cases hp
    · cases hp
theorem clock_bd {l r : List UInt8} {v : Int} (h : Dat.clockP l = some (v, r)) : 0 ≤ v ∧ v ≤ 86399 := by
  unfold Dat.clockP at h
  split at h
  · cases h
  rename_i x h1
  obtain ⟨x1, x2⟩ := num_bds (by omega) h1
  split at h
  · cases h
  split at h
  · cases h
  rename_i m h3
  obtain ⟨m1, m2⟩ := num_bds (by omega) h3
  split at h
  · obtain ⟨rfl, rfl⟩ := Prod.mk.inj (Option.some.inj h)
    omega
  split at h
  · cases h
  rename_i s r2 h5
  obtain ⟨s1, s2⟩ := sec_bd h5
  obtain ⟨rfl, rfl⟩ := Prod.mk.inj (Option.some.inj h)
  omega
theorem zoneS_bd {g : Int} {l r : List UInt8} {v : Int} (hg : g = 1 ∨ g = -1) (h : Dat.zoneS g l = some (v, r)) : -100000 ≤ v ∧ v ≤ 100000 := by
  unfold Dat.zoneS at h
  split at h
  · cases h
  rename_i x h1
  obtain ⟨x1, x2⟩ := num_bds (by omega) h1
  split at h
  · obtain ⟨rfl, rfl⟩ := Prod.mk.inj (Option.some.inj h)
    rcases hg with rfl | rfl <;> omega
  split at h
  · cases h
  rename_i m h3
  obtain ⟨m1, m2⟩ := num_bds (by omega) h3
  obtain ⟨rfl, rfl⟩ := Prod.mk.inj (Option.some.inj h)
  rcases hg with rfl | rfl <;> omega
theorem zone_bd {l r : List UInt8} {v : Int} (h : Dat.zoneP l = some (v, r)) : -100000 ≤ v ∧ v ≤ 100000 := by
  cases l with
  | nil => cases h
  | cons x t =>
    rw [Dat.zoneP_cons] at h
    split at h
    · obtain ⟨rfl, rfl⟩ := Prod.mk.inj (Option.some.inj h)
      omega
    · split at h
      · exact zoneS_bd (.inr rfl) h
      · split at h
        · exact zoneS_bd (.inl rfl) h
        · cases h
/-- What is between a day and a time, as the program asks it. -/
theorem gap_cases {l : List UInt8} (he : ¬ l = []) : (∃ r, Dat.gap l = some r ∧ Dat.rd1 84 l = some r) ∨ (∃ r, Dat.gap l = some r ∧ Dat.rd1 84 l = none ∧ Dat.rd1 116 l = some r) ∨
    (Dat.gap l = some (l.dropWhile Dat.sp) ∧ Dat.rd1 84 l = none ∧ Dat.rd1 116 l = none ∧ ¬ (l.length : Int) - ((l.dropWhile Dat.sp).length : Int) = 0) ∨
    (Dat.gap l = none ∧ Dat.rd1 84 l = none ∧ Dat.rd1 116 l = none ∧ (l.length : Int) - ((l.dropWhile Dat.sp).length : Int) = 0) := by
  cases l with
  | nil => exact absurd rfl he
  | cons c t =>
    have g : Dat.gap (c :: t) = if c = 84 ∨ c = 116 then some t else if c = 32 then some (t.dropWhile Dat.sp) else none := rfl
    by_cases h84 : c = 84
    · subst h84
      exact .inl ⟨t, by rw [g, if_pos (.inl rfl)], rd1_self 84 t⟩
    by_cases h116 : c = 116
    · subst h116
      exact .inr (.inl ⟨t, by rw [g, if_pos (.inr rfl)], rd1_ne t h84, rd1_self 116 t⟩)
    have k1 := rd1_ne t h84
    have k2 := rd1_ne t h116
    rw [if_neg (by rintro (e | e); exact h84 e; exact h116 e)] at g
    by_cases h32 : c = 32
    · subst h32
      have hd : (32 :: t).dropWhile Dat.sp = t.dropWhile Dat.sp := List.dropWhile_cons_of_pos (by decide)
      have := drop_len Dat.sp t
      refine .inr (.inr (.inl ⟨by rw [g, if_pos rfl, hd], k1, k2, ?_⟩))
      rw [hd]
      simp
      omega
    · have hd : (c :: t).dropWhile Dat.sp = c :: t := List.dropWhile_cons_of_neg (by simpa [Dat.sp] using h32)
      refine .inr (.inr (.inr ⟨by rw [g, if_neg h32], k1, k2, ?_⟩))
      rw [hd]
      omega
theorem moment_yes {w0 w : World} {b : Nat} {l r : List UInt8} {m : Int × Bool × Bool} (hL : Rd w0 b l w) (h : Dat.momP l = some (m, r)) :
    Calls Tryz.prog 26 #[.pointer (some ⟨b, 0, none⟩)] w fun e w' => e = .returned (.tuple #[mVal m, .bool true]) ∧ Rd w0 b r w' := by
  unfold Dat.momP at h
  split at h
  · cases h
  rename_i d l1 hd
  obtain ⟨d1, d2⟩ := day_bd hd
  by_cases h1 : l1 = []
  · rw [if_pos h1] at h
    obtain ⟨rfl, rfl⟩ := Prod.mk.inj (Option.some.inj h)
    have := moment_day hL hd d1 d2 h1
    rw [h1] at this
    exact this
  rw [if_neg h1] at h
  split at h
  · cases h
  rename_i l2 hg
  split at h
  · cases h
  rename_i t l3 hc
  obtain ⟨t1, t2⟩ := clock_bd hc
  by_cases h4 : l3.dropWhile Dat.sp = []
  · rw [if_pos h4] at h
    obtain ⟨rfl, rfl⟩ := Prod.mk.inj (Option.some.inj h)
    rcases gap_cases h1 with ⟨q, g0, g1⟩ | ⟨q, g0, g1, g2⟩ | ⟨g0, g1, g2, g3⟩ | ⟨g0, _⟩
    · obtain rfl : l2 = q := Option.some.inj (hg.symm.trans g0)
      have := moment_T_clock hL hd d1 d2 h1 g1 hc t1 (by omega) h4
      rw [h4] at this
      exact this
    · obtain rfl : l2 = q := Option.some.inj (hg.symm.trans g0)
      have := moment_t_clock hL hd d1 d2 h1 g1 g2 hc t1 (by omega) h4
      rw [h4] at this
      exact this
    · obtain rfl : l2 = _ := Option.some.inj (hg.symm.trans g0)
      have := moment_s_clock hL hd d1 d2 h1 g1 g2 g3 hc t1 (by omega) h4
      rw [h4] at this
      exact this
    · rw [g0] at hg; cases hg
  rw [if_neg h4] at h
  split at h
  · cases h
  rename_i z r2 hz
  obtain ⟨z1, z2⟩ := zone_bd hz
  obtain ⟨rfl, rfl⟩ := Prod.mk.inj (Option.some.inj h)
  rcases gap_cases h1 with ⟨q, g0, g1⟩ | ⟨q, g0, g1, g2⟩ | ⟨g0, g1, g2, g3⟩ | ⟨g0, _⟩
  · obtain rfl : l2 = q := Option.some.inj (hg.symm.trans g0)
    exact moment_T_zone hL hd d1 d2 h1 g1 hc t1 (by omega) h4 hz z1 z2
  · obtain rfl : l2 = q := Option.some.inj (hg.symm.trans g0)
    exact moment_t_zone hL hd d1 d2 h1 g1 g2 hc t1 (by omega) h4 hz z1 z2
  · obtain rfl : l2 = _ := Option.some.inj (hg.symm.trans g0)
    exact moment_s_zone hL hd d1 d2 h1 g1 g2 g3 hc t1 (by omega) h4 hz z1 z2
  · rw [g0] at hg; cases hg
theorem moment_no {w0 w : World} {b : Nat} {l : List UInt8} (hL : Rd w0 b l w) (h : Dat.momP l = none) :
    Calls Tryz.prog 26 #[.pointer (some ⟨b, 0, none⟩)] w fun e w' => ∃ m, e = .returned (.tuple #[mVal m, .bool false]) ∧ ∃ r, Rd w0 b r w' := by
  unfold Dat.momP at h
  split at h
  · rename_i hd
    exact moment_day_no hL hd
  rename_i d l1 hd
  obtain ⟨d1, d2⟩ := day_bd hd
  by_cases h1 : l1 = []
  · rw [if_pos h1] at h
    cases h
  rw [if_neg h1] at h
  split at h
  · rename_i hg
    rcases gap_cases h1 with ⟨q, g0, g1⟩ | ⟨q, g0, g1, g2⟩ | ⟨g0, g1, g2, g3⟩ | ⟨g0, g1, g2, g3⟩
    · rw [g0] at hg; cases hg
    · rw [g0] at hg; cases hg
    · rw [g0] at hg; cases hg
    · exact moment_gap_no hL hd d1 d2 h1 g1 g2 g3
  rename_i l2 hg
  split at h
  · rename_i hc
    rcases gap_cases h1 with ⟨q, g0, g1⟩ | ⟨q, g0, g1, g2⟩ | ⟨g0, g1, g2, g3⟩ | ⟨g0, _⟩
    · obtain rfl : l2 = q := Option.some.inj (hg.symm.trans g0)
      exact moment_T_clock_no hL hd d1 d2 h1 g1 hc
    · obtain rfl : l2 = q := Option.some.inj (hg.symm.trans g0)
      exact moment_t_clock_no hL hd d1 d2 h1 g1 g2 hc
    · obtain rfl : l2 = _ := Option.some.inj (hg.symm.trans g0)
      exact moment_s_clock_no hL hd d1 d2 h1 g1 g2 g3 hc
    · rw [g0] at hg; cases hg
  rename_i t l3 hc
  obtain ⟨t1, t2⟩ := clock_bd hc
  by_cases h4 : l3.dropWhile Dat.sp = []
  · rw [if_pos h4] at h
    cases h
  rw [if_neg h4] at h
  split at h
  · rename_i hz
    rcases gap_cases h1 with ⟨q, g0, g1⟩ | ⟨q, g0, g1, g2⟩ | ⟨g0, g1, g2, g3⟩ | ⟨g0, _⟩
    · obtain rfl : l2 = q := Option.some.inj (hg.symm.trans g0)
      exact moment_T_zone_no hL hd d1 d2 h1 g1 hc t1 (by omega) h4 hz
    · obtain rfl : l2 = q := Option.some.inj (hg.symm.trans g0)
      exact moment_t_zone_no hL hd d1 d2 h1 g1 g2 hc t1 (by omega) h4 hz
    · obtain rfl : l2 = _ := Option.some.inj (hg.symm.trans g0)
      exact moment_s_zone_no hL hd d1 d2 h1 g1 g2 g3 hc t1 (by omega) h4 hz
    · rw [g0] at hg; cases hg
  · cases h
end Go.Proofs.YtnklbeldheocmaaGreatDoor
/- The contracts of whole at moments, and of Parse. -/
namespace Go.Proofs.YtnklbeldheocmaaGreatDoor
open Go.RowKit
theorem start_Rd2 (w : World) (o : Obj) (l : List UInt8) (hA : Ahead w) (hl : l.length ≤ 100000) :
    Rd ((w.alloc o).alloc (.cells #[.string (str l)] 58)) (w.heap.size + 1) l ((w.alloc o).alloc (.cells #[.string (str l)] 58)) := by
  have hb := ((Below.refl _ w).alloc (Nat.le_refl _) o).alloc (by simp) (.cells #[.string (str l)] 58)
  refine ⟨?_, hl, by have := hA.lt; omega, hA.below hb, Kept.refl _ _⟩
  have := heap_alloc_last (w.alloc o) (.cells #[.string (str l)] 58)
  simpa using this
theorem alloc_MAt3 (w : World) (s : Int) (t z : Bool) : MAt (w.alloc (.cells #[.int .i64 s, .bool t, .bool z] 34)) w.heap.size (s, t, z) := heap_alloc_last w _
theorem below_setRowM {B c : Nat} {w w' : World} (h : Below B w w') (hc : B ≤ c) (cs : Array Value) : Below B w (w'.setRow c cs) :=
  ⟨h.os, h.tape, h.output, by simp [World.setRow]; exact h.size, fun k hk => by
    rw [← h.block k hk]
    simp [World.setRow, Array.getElem?_modify, show ¬ c = k by omega]⟩
set_option maxRecDepth 100000 in
set_option maxHeartbeats 1000000 in
theorem wholeM_yes {w : World} {l : List UInt8} {m : Int × Bool × Bool} (hA : Ahead w) (hl : l.length ≤ 100000) (h : Dat.momP l = some (m, [])) :
    Calls Tryz.prog 24 #[.string (str l), .func (.func 26) #[] #[]] w fun e w' => e = .returned (.tuple #[mVal m, .int .i64 0]) ∧ Below w.heap.size w w' := by
  obtain ⟨s, t, z⟩ := m
  have hz := (zero_of_info zeroM).1
  unfold mVal mCells mZero at hz
  have hR0 := start_Rd2 w (.cells #[.int .i64 0, .bool false, .bool false] 34) l hA hl
  have hm := moment_yes hR0 h
  rw [mVal_eq] at hm
  have hB0 := ((Below.refl _ w).alloc (Nat.le_refl _) (.cells #[.int .i64 0, .bool false, .bool false] 34)).alloc (by simp) (.cells #[.string (str l)] 58)
  have hC0 : MAt ((w.alloc (.cells #[.int .i64 0, .bool false, .bool false] 34)).alloc (.cells #[.string (str l)] 58)) w.heap.size mZero := (alloc_MAt w 0).below ((Below.refl _ _).alloc (Nat.le_refl _) _)
  have hq := left_no (l := []) rfl
  go_enter Tryz.func24, Tryz.ntmps24
  go_wp2_with (first
    | (go_at_call 26; refine hm.mono ?_; rintro e w1 ⟨rfl, hR⟩; have hC1 := hC0.kept hR.kept (by omega); have hB1 := hB0.trans (hR.kept.below w.heap.size (by omega) (by simp; omega)); have hA1 := (Below.refl _ w1).alloc (Nat.le_refl _) (.cells #[.int .i64 s, .bool t, .bool z] 34); have hC2 := hC1.below hA1; have hG2 := alloc_MAt3 w1 s t z; have hcell := (hR.step hA1).cell; have hB2 := hB1.trans (hA1.mono hB1.size); clear hR hC1 hB1 hA1)
    | ((with_reducible show wpList _ _ _ ({ dst := _, op := Op.load 34 _, type := _, pos := _, after := _, guard := _ } :: _) _ _); refine wpList_load_M _ rfl rfl w1.heap.size (s, t, z) rfl hG2 ?_)
    | ((with_reducible show wpList _ _ _ ({ dst := _, op := Op.store 34 _ _, type := _, pos := _, after := _, guard := _ } :: _) _ _); refine wpList_store_M _ _ rfl rfl w.heap.size (s, t, z) mZero rfl rfl hC2 ?_))
  exact ret_M2 (m := (s, t, z)) rfl rfl rfl rfl (setRow_M hC2) ⟨rfl, below_setRowM hB2 (Nat.le_refl _) _⟩
set_option maxRecDepth 100000 in
set_option maxHeartbeats 1000000 in
theorem wholeM_bad {w : World} {l : List UInt8} (ok : Bool)
    (hm : Calls Tryz.prog 26 #[.pointer (some ⟨w.heap.size + 1, 0, none⟩)] ((w.alloc (.cells #[.int .i64 0, .bool false, .bool false] 34)).alloc (.cells #[.string (str l)] 58)) fun e w' => ∃ m, e = .returned (.tuple #[mVal m, .bool ok]) ∧ ∃ r, Rd ((w.alloc (.cells #[.int .i64 0, .bool false, .bool false] 34)).alloc (.cells #[.string (str l)] 58)) (w.heap.size + 1) r w' ∧ (ok = true → ¬ r = [])) :
    Calls Tryz.prog 24 #[.string (str l), .func (.func 26) #[] #[]] w fun e w' => e = .returned (.tuple #[mVal mZero, .int .i64 3]) ∧ Below w.heap.size w w' := by
  have hz := (zero_of_info zeroM).1
  unfold mVal mCells mZero at hz
  have hB0 := ((Below.refl _ w).alloc (Nat.le_refl _) (.cells #[.int .i64 0, .bool false, .bool false] 34)).alloc (by simp) (.cells #[.string (str l)] 58)
  have hC0 : MAt ((w.alloc (.cells #[.int .i64 0, .bool false, .bool false] 34)).alloc (.cells #[.string (str l)] 58)) w.heap.size mZero := (alloc_MAt w 0).below ((Below.refl _ _).alloc (Nat.le_refl _) _)
  cases ok with
  | false =>
    go_enter Tryz.func24, Tryz.ntmps24
    go_wp2_with (first
      | (go_at_call 26; refine hm.mono ?_; rintro e w1 ⟨⟨s, t, z⟩, rfl, r, hR, _⟩; rw [mVal_eq]; have hC1 := hC0.kept hR.kept (by omega); have hB1 := hB0.trans (hR.kept.below w.heap.size (by omega) (by simp; omega)); have hA1 := ((Below.refl _ w1).alloc (Nat.le_refl _) (.cells #[.int .i64 s, .bool t, .bool z] 34)).alloc (by simp) (.cells #[.int .i64 0, .bool false, .bool false] 34); have hC2 := hC1.below hA1; have hB2 := hB1.trans (hA1.mono hB1.size); clear hR hC1 hB1 hA1)
      | ((with_reducible show wpList _ _ _ ({ dst := _, op := Op.store 34 _ _, type := _, pos := _, after := _, guard := _ } :: _) _ _); refine wpList_store_M _ _ rfl rfl w.heap.size mZero mZero rfl rfl hC2 ?_))
    exact ret_M2 (m := mZero) rfl rfl rfl rfl (setRow_M hC2) ⟨rfl, below_setRowM hB2 (Nat.le_refl _) _⟩
  | true =>
    go_enter Tryz.func24, Tryz.ntmps24
    go_wp2_with (first
      | (go_at_call 26; refine hm.mono ?_; rintro e w1 ⟨⟨s, t, z⟩, rfl, r, hR, hne⟩; rw [mVal_eq]; have hq := left_some (hne rfl); have hC1 := hC0.kept hR.kept (by omega); have hB1 := hB0.trans (hR.kept.below w.heap.size (by omega) (by simp; omega)); have hcell := (hR.step ((Below.refl _ w1).alloc (Nat.le_refl _) (.cells #[.int .i64 s, .bool t, .bool z] 34))).cell; have hA1 := ((Below.refl _ w1).alloc (Nat.le_refl _) (.cells #[.int .i64 s, .bool t, .bool z] 34)).alloc (by simp) (.cells #[.int .i64 0, .bool false, .bool false] 34); have hC2 := hC1.below hA1; have hB2 := hB1.trans (hA1.mono hB1.size); clear hR hC1 hB1 hA1 hne)
      | ((with_reducible show wpList _ _ _ ({ dst := _, op := Op.store 34 _ _, type := _, pos := _, after := _, guard := _ } :: _) _ _); refine wpList_store_M _ _ rfl rfl w.heap.size mZero mZero rfl rfl hC2 ?_))
    exact ret_M2 (m := mZero) rfl rfl rfl rfl (setRow_M hC2) ⟨rfl, below_setRowM hB2 (Nat.le_refl _) _⟩
/-- An error's number. -/
def optE {α : Type} (x : Option α) : Int := match x with | some _ => 0 | none => 3
theorem wholeM_any {w : World} {l : List UInt8} (hA : Ahead w) (hl : l.length ≤ 100000) :
    Calls Tryz.prog 24 #[.string (str l), .func (.func 26) #[] #[]] w fun e w' => e = .returned (.tuple #[mVal ((Dat.whole (Dat.momP l)).getD mZero), .int .i64 (optE (Dat.whole (Dat.momP l)))]) ∧ Below w.heap.size w w' := by
  have hR0 := start_Rd2 w (.cells #[.int .i64 0, .bool false, .bool false] 34) l hA hl
  cases h : Dat.momP l with
  | none =>
    refine wholeM_bad false ?_
    refine (moment_no hR0 h).mono ?_
    rintro e w' ⟨m, rfl, r, hR⟩
    exact ⟨m, rfl, r, hR, fun e => by cases e⟩
  | some x =>
    obtain ⟨m, r⟩ := x
    by_cases hr : r = []
    · subst hr
      exact wholeM_yes hA hl h
    · have e : Dat.whole (some (m, r)) = none := by
        cases hx : Dat.whole (some (m, r)) with
        | none => rfl
        | some v =>
          have := Dat.whole_some.1 hx
          exact absurd (congrArg Prod.snd (Option.some.inj this)) hr
      rw [e]
      refine wholeM_bad true ?_
      refine (moment_yes hR0 h).mono ?_
      rintro e w' ⟨rfl, hR⟩
      exact ⟨m, rfl, r, hR, fun _ => hr⟩
theorem trim_len (l : List UInt8) : (Asc.trim l).length ≤ l.length := by
  unfold Asc.trim Asc.trimR Asc.trimL
  rw [List.length_reverse]
  have h1 := drop_len Asc.isBlank (l.dropWhile Asc.isBlank).reverse
  have h2 := drop_len Asc.isBlank l
  rw [List.length_reverse] at h1
  omega
set_option maxRecDepth 100000 in
set_option maxHeartbeats 1000000 in
theorem Parse_date (l : List UInt8) (w : World) (hA : Ahead w) (hl : l.length ≤ 100000) :
    Calls Tryz.prog 11 #[.string (str l)] w fun e w' => e = .returned (.tuple #[mVal ((Dat.parseR (Asc.trim l)).getD mZero), .int .i64 (optE (Dat.parseR (Asc.trim l)))]) ∧ Below w.heap.size w w' := by
  have hz := (zero_of_info zeroM).1
  unfold mVal mCells mZero at hz
  have ht := trim_len l
  have hB0 := (Below.refl _ w).alloc (Nat.le_refl _) (.cells #[.int .i64 0, .bool false, .bool false] 34)
  have hC0 := alloc_MAt w 0
  have hw := wholeM_any (w := w.alloc (.cells #[.int .i64 0, .bool false, .bool false] 34)) (l := Asc.trim l) (hA.below hB0) (by omega)
  rw [Dat.moment_eq _ (Dat.trim_ended l)] at hw
  have hT := Trim_any (str l) (w.alloc (.cells #[.int .i64 0, .bool false, .bool false] 34)) (by rw [str_size]; omega)
  rw [str_data] at hT
  generalize (Dat.parseR (Asc.trim l)).getD mZero = m at hw
  generalize optE (Dat.parseR (Asc.trim l)) = er at hw
  clear ht
  go_enter Tryz.func11, Tryz.ntmps11
  go_wp2_with (first
    | (go_at_call 25; refine hT.mono ?_; rintro e w1 ⟨rfl, hw1⟩; rw [hw1]; clear hw1)
    | (go_at_call 24; refine hw.mono ?_; rintro e w2 ⟨rfl, hb⟩; have hC1 := hC0.below hb; have hB1 := hB0.trans (hb.mono hB0.size))
    | ((with_reducible show wpList _ _ _ ({ dst := _, op := Op.store 34 _ _, type := _, pos := _, after := _, guard := _ } :: _) _ _); refine wpList_store_M _ _ rfl rfl w.heap.size m mZero rfl rfl hC1 ?_))
  exact ret_M2 (m := m) rfl rfl rfl rfl (setRow_M hC1) ⟨rfl, below_setRowM hB1 (Nat.le_refl _) _⟩
end Go.Proofs.YtnklbeldheocmaaGreatDoor
/- The contract of Format. -/
namespace Go.Proofs.YtnklbeldheocmaaGreatDoor
open Go.RowKit
/-- What the walks are told of the tables. -/
structure Env6 (w : World) : Prop where
  pow : Pow w
  ah : Ahead w
theorem Env6.below {w w' : World} (h : Env6 w) (hb : Below w.heap.size w w') : Env6 w' := ⟨h.pow.below hb, h.ah.below hb⟩
def dgt (n : Int) : UInt8 := UInt8.ofNat (48 + n.toNat)
def p2 (n : Int) : List UInt8 := [dgt (n / 10), dgt (n % 10)]
def p4 (n : Int) : List UInt8 := [dgt (n / 1000), dgt (n / 100 % 10), dgt (n / 10 % 10), dgt (n % 10)]
theorem dec1 (m : Nat) (h : m < 10) : Lib.decDigits m = [dgt m] := by
  rw [Lib.decDigits, dif_pos h]
  rfl
theorem dec2 (m : Nat) (h : ¬ m < 10) : Lib.decDigits m = Lib.decDigits (m / 10) ++ [dgt ((m : Int) % 10)] := by
  rw [Lib.decDigits, dif_neg h]
  rfl
theorem pad_2 (n : Int) (h0 : 0 ≤ n) (h1 : n ≤ 99) : padL n 2 = p2 n := by
  obtain ⟨k, rfl⟩ := Int.eq_ofNat_of_zero_le h0
  unfold padL p2
  rw [if_neg (by omega)]
  have ek : (k : Int).natAbs = k := by omega
  rw [ek]
  by_cases hk : k < 10
  · rw [dec1 k hk]
    have e1 : (k : Int) / 10 = 0 := by omega
    have e2 : (k : Int) % 10 = k := by omega
    rw [e1, e2]
    rfl
  · rw [dec2 k hk, dec1 (k / 10) (by omega)]
    have e1 : (k : Int) / 10 = ((k / 10 : Nat) : Int) := by omega
    rw [e1]
    rfl
theorem pad_4 (n : Int) (h0 : 0 ≤ n) (h1 : n ≤ 9999) : padL n 4 = p4 n := by
  obtain ⟨k, rfl⟩ := Int.eq_ofNat_of_zero_le h0
  unfold padL p4
  rw [if_neg (by omega)]
  have ek : (k : Int).natAbs = k := by omega
  rw [ek]
  by_cases hk : k < 10
  · rw [dec1 k hk]
    have e1 : (k : Int) / 1000 = 0 := by omega
    have e2 : (k : Int) / 100 % 10 = 0 := by omega
    have e3 : (k : Int) / 10 % 10 = 0 := by omega
    have e4 : (k : Int) % 10 = k := by omega
    rw [e1, e2, e3, e4]
    rfl
  · rw [dec2 k hk]
    by_cases hk2 : k / 10 < 10
    · rw [dec1 _ hk2]
      have e1 : (k : Int) / 1000 = 0 := by omega
      have e2 : (k : Int) / 100 % 10 = 0 := by omega
      have e3 : (k : Int) / 10 % 10 = ((k / 10 : Nat) : Int) := by omega
      rw [e1, e2, e3]
      rfl
    · rw [dec2 _ hk2]
      by_cases hk3 : k / 10 / 10 < 10
      · rw [dec1 _ hk3]
        have e1 : (k : Int) / 1000 = 0 := by omega
        have e2 : (k : Int) / 100 % 10 = ((k / 10 / 10 : Nat) : Int) := by omega
        have e3 : ((k / 10 : Nat) : Int) % 10 = (k : Int) / 10 % 10 := by omega
        rw [e1, e2, e3]
        rfl
      · rw [dec2 _ hk3, dec1 _ (by omega)]
        have e1 : (k : Int) / 1000 = ((k / 10 / 10 / 10 : Nat) : Int) := by omega
        have e2 : (k : Int) / 100 % 10 = ((k / 10 / 10 : Nat) : Int) % 10 := by omega
        have e3 : ((k / 10 : Nat) : Int) % 10 = (k : Int) / 10 % 10 := by omega
        rw [e1, e2, e3]
        rfl
/-- A moment's text. -/
def fmtL (y m d L : Int) : List UInt8 :=
  (p4 y ++ [45] ++ p2 m ++ [45] ++ p2 d) ++ [84] ++ (p2 (L / 3600) ++ [58] ++ p2 (L / 60 % 60) ++ [58] ++ p2 (L % 60)) ++ [90]
theorem Pad_str (n size : Int) (w : World) (h0 : -9223372036854775808 ≤ n) (h1 : n ≤ 9223372036854775807) (hT : Pow w) :
    Calls Tryz.prog 29 #[.int .i64 n, .int .i64 size] w fun e w' => e = .returned (.string (str (padL n size))) ∧ Below w.heap.size w w' := Pad_any n size w h0 h1 hT
theorem reads_three (w : World) (a b c : List UInt8) : ReadsTexts (w.alloc (.cells #[.string (str a), .string (str b), .string (str c)] 9)) (.slice (some ⟨w.heap.size, 0, none⟩) 3 3) [a, b, c] := by
  refine .inr ⟨w.heap.size, 0, 3, rfl, Nat.le_refl _, fun j t hj => ?_⟩
  match j, hj with
  | 0, hj => simp at hj; subst hj; simp [strV, str]
  | 1, hj => simp at hj; subst hj; simp [strV, str]
  | 2, hj => simp at hj; subst hj; simp [strV, str]
/-- Three texts, a sign between. -/
def j3 (s : UInt8) (a b c : List UInt8) : List UInt8 := a ++ [s] ++ b ++ [s] ++ c
theorem j3_size {s : UInt8} {a b c : List UInt8} (ha : a.length ≤ 100) (hb : b.length ≤ 100) (hc : c.length ≤ 100) : (str (j3 s a b c)).size ≤ 310 := by
  rw [str_size]
  unfold j3
  simp
  omega
theorem Join3 (w : World) (s : UInt8) (a b c : List UInt8) (ha : a.length ≤ 100) (hb : b.length ≤ 100) (hc : c.length ≤ 100) :
    Calls Tryz.prog 28 #[.string ⟨#[s]⟩, .slice (some ⟨w.heap.size, 0, none⟩) 3 3] (w.alloc (.cells #[.string (str a), .string (str b), .string (str c)] 9)) fun e w' => e = .returned (.string (str (j3 s a b c))) ∧ Below w.heap.size w w' := by
  have ej : Lib.join [a, b, c] [s] = j3 s a b c := by simp [Lib.join, j3]
  have h := Join_any ⟨#[s]⟩ _ [a, b, c] _ (reads_three w a b c) (by simp) (by
    show (Lib.join [a, b, c] [s]).length ≤ _
    rw [ej]
    unfold j3
    simp
    omega)
  refine h.mono ?_
  rintro e w' ⟨rfl, hb⟩
  refine ⟨?_, ((Below.refl _ w).alloc (Nat.le_refl _) _).trans (hb.mono (by simp))⟩
  show Ending.returned (.string (str (Lib.join [a, b, c] [s]))) = _
  rw [ej]
theorem pad_len2 (n : Int) (h0 : 0 ≤ n) (h1 : n ≤ 99) : (padL n 2).length ≤ 100 := by rw [pad_2 n h0 h1]; simp [p2]
theorem pad_len4 (n : Int) (h0 : 0 ≤ n) (h1 : n ≤ 9999) : (padL n 4).length ≤ 100 := by rw [pad_4 n h0 h1]; simp [p4]
theorem fmt_join (y m d L : Int) (y1 : 0 ≤ y) (y2 : y ≤ 9999) (m1 : 0 ≤ m) (m2 : m ≤ 99) (d1 : 0 ≤ d) (d2 : d ≤ 99) (L1 : 0 ≤ L) (L2 : L < 86400) :
    (str (j3 45 (padL y 4) (padL m 2) (padL d 2)) ++ ⟨#[84]⟩ ++ str (j3 58 (padL (L / 3600) 2) (padL (L / 60 % 60) 2) (padL (L % 60) 2)) ++ ⟨#[90]⟩ : ByteArray) = str (fmtL y m d L) := by
  apply str_eq
  rw [pad_4 y y1 y2, pad_2 m m1 m2, pad_2 d d1 d2, pad_2 _ (by omega) (by omega), pad_2 _ (by omega) (by omega), pad_2 _ (by omega) (by omega)]
  rfl
set_option maxRecDepth 100000 in
set_option maxHeartbeats 2000000 in
theorem Format_pos (n y m d : Int) (w : World) (hv : Dat.Valid y m d) (hn : n / 86400 = Dat.num y m d) (h0 : 0 ≤ n) (h1 : n ≤ 9223372036854775807) (hE : Env6 w) :
    Calls Tryz.prog 12 #[.int .i64 n] w fun e w' => e = .returned (.tuple #[.string (str (fmtL y m d (n % 86400))), .int .i64 0]) ∧ Below w.heap.size w w' := by
  have hB : Below w.heap.size w w := Below.refl _ _
  have HV : Hid (Dat.Valid y m d) := hv
  have hN := Dat.num_bd hv
  obtain ⟨y1, y2, m1, m2, d1, d3⟩ := hv
  have d2 : d ≤ 31 := by have := Dat.monthN_bd y m; omega
  clear d3
  have hL1 : 0 ≤ n % 86400 := by omega
  have hL2 : n % 86400 < 86400 := by omega
  have HF : Hid _ := fmt_join y m d (n % 86400) (by omega) (by omega) (by omega) (by omega) (by omega) (by omega) hL1 hL2
  have k1 := pad_len4 y (by omega) (by omega)
  have k2 := pad_len2 m (by omega) (by omega)
  have k3 := pad_len2 d (by omega) (by omega)
  have k4 := pad_len2 (n % 86400 / 3600) (by omega) (by omega)
  have k5 := pad_len2 (n % 86400 / 60 % 60) (by omega) (by omega)
  have k6 := pad_len2 (n % 86400 % 60) (by omega) (by omega)
  have z1 := j3_size (s := 45) k1 k2 k3
  have z2 := j3_size (s := 58) k4 k5 k6
  rw [← HF.out]
  have HD : Hid (n / 86400 = Dat.num y m d) := hn
  rw [← hn] at hN
  clear hn HF
  obtain ⟨L, hL⟩ : ∃ L, n % 86400 = L := ⟨_, rfl⟩
  obtain ⟨D, hD⟩ : ∃ D, n / 86400 = D := ⟨_, rfl⟩
  rw [hL] at hL1 hL2 k4 k5 k6 z2
  rw [hL]
  rw [hD] at hN HD
  obtain ⟨hN1, hN2⟩ := hN
  go_enter Tryz.func12, Tryz.ntmps12
  go_wp2_with (first
    | (go_at_call 27; refine (Civil_yes _ y m d _ HV.out HD.out hE.ah).mono ?_; rintro e wn ⟨rfl, hn⟩; have hE2 := hE.below hn; replace hE := hE2; clear hE2; replace hB := hB.trans (hn.mono hB.size); clear hn)
    | (go_at_call 29; refine (Pad_str _ _ _ (by omega) (by omega) hE.pow).mono ?_; rintro e wn ⟨rfl, hn⟩; have hE2 := hE.below hn; replace hE := hE2; clear hE2; replace hB := hB.trans (hn.mono hB.size); clear hn)
    | (go_at_call 28; refine (Join3 _ _ _ _ _ (by assumption) (by assumption) (by assumption)).mono ?_; rintro e wn ⟨rfl, hn⟩; have hE2 := hE.below hn; replace hE := hE2; clear hE2; replace hB := hB.trans (hn.mono hB.size); clear hn))
  go_ret2
  exact ⟨rfl, hB⟩
set_option maxRecDepth 100000 in
set_option maxHeartbeats 2000000 in
theorem Format_zero (n y m d : Int) (w : World) (hv : Dat.Valid y m d) (hn : n / 86400 = Dat.num y m d) (h0 : n < 0) (h1 : -9223372036854775808 ≤ n) (h2 : n % 86400 = 0) (hE : Env6 w) :
    Calls Tryz.prog 12 #[.int .i64 n] w fun e w' => e = .returned (.tuple #[.string (str (fmtL y m d (n % 86400))), .int .i64 0]) ∧ Below w.heap.size w w' := by
  have hB : Below w.heap.size w w := Below.refl _ _
  have HV : Hid (Dat.Valid y m d) := hv
  have hN := Dat.num_bd hv
  obtain ⟨y1, y2, m1, m2, d1, d3⟩ := hv
  have d2 : d ≤ 31 := by have := Dat.monthN_bd y m; omega
  clear d3
  have hL1 : 0 ≤ n % 86400 := by omega
  have hL2 : n % 86400 < 86400 := by omega
  have HF : Hid _ := fmt_join y m d (n % 86400) (by omega) (by omega) (by omega) (by omega) (by omega) (by omega) hL1 hL2
  have k1 := pad_len4 y (by omega) (by omega)
  have k2 := pad_len2 m (by omega) (by omega)
  have k3 := pad_len2 d (by omega) (by omega)
  have k4 := pad_len2 (n % 86400 / 3600) (by omega) (by omega)
  have k5 := pad_len2 (n % 86400 / 60 % 60) (by omega) (by omega)
  have k6 := pad_len2 (n % 86400 % 60) (by omega) (by omega)
  have z1 := j3_size (s := 45) k1 k2 k3
  have z2 := j3_size (s := 58) k4 k5 k6
  rw [← HF.out]
  have HD : Hid (n / 86400 = Dat.num y m d) := hn
  rw [← hn] at hN
  clear hn HF
  have e1 : n.tdiv 86400 = -((-n) / 86400) := by
    rw [← Int.tdiv_eq_ediv_of_nonneg (by omega), Int.neg_tdiv, Int.neg_neg]
  have e2 : n.tmod 86400 = -((-n) % 86400) := by
    rw [← Int.tmod_eq_emod_of_nonneg (by omega), Int.neg_tmod, Int.neg_neg]
  obtain ⟨L, hL⟩ : ∃ L, n % 86400 = L := ⟨_, rfl⟩
  obtain ⟨D, hD⟩ : ∃ D, n / 86400 = D := ⟨_, rfl⟩
  have f1 : n.tdiv 86400 = D := by omega
  have f2 : n.tmod 86400 = L := by omega
  clear h2
  clear e1 e2
  rw [hL] at hL1 hL2 k4 k5 k6 z2
  rw [hL]
  rw [hD] at hN HD
  clear hL hD
  obtain ⟨hN1, hN2⟩ := hN
  go_enter Tryz.func12, Tryz.ntmps12
  go_wp2_with (first
    | (go_at_call 27; refine (Civil_yes _ y m d _ HV.out HD.out hE.ah).mono ?_; rintro e wn ⟨rfl, hn⟩; have hE2 := hE.below hn; replace hE := hE2; clear hE2; replace hB := hB.trans (hn.mono hB.size); clear hn)
    | (go_at_call 29; refine (Pad_str _ _ _ (by omega) (by omega) hE.pow).mono ?_; rintro e wn ⟨rfl, hn⟩; have hE2 := hE.below hn; replace hE := hE2; clear hE2; replace hB := hB.trans (hn.mono hB.size); clear hn)
    | (go_at_call 28; refine (Join3 _ _ _ _ _ (by assumption) (by assumption) (by assumption)).mono ?_; rintro e wn ⟨rfl, hn⟩; have hE2 := hE.below hn; replace hE := hE2; clear hE2; replace hB := hB.trans (hn.mono hB.size); clear hn))
  go_ret2
  exact ⟨rfl, hB⟩
set_option maxRecDepth 100000 in
set_option maxHeartbeats 2000000 in
theorem Format_neg (n y m d : Int) (w : World) (hv : Dat.Valid y m d) (hn : n / 86400 = Dat.num y m d) (h0 : n < 0) (h1 : -9223372036854775808 ≤ n) (h2 : ¬ n % 86400 = 0) (hE : Env6 w) :
    Calls Tryz.prog 12 #[.int .i64 n] w fun e w' => e = .returned (.tuple #[.string (str (fmtL y m d (n % 86400))), .int .i64 0]) ∧ Below w.heap.size w w' := by
  have hB : Below w.heap.size w w := Below.refl _ _
  have HV : Hid (Dat.Valid y m d) := hv
  have hN := Dat.num_bd hv
  obtain ⟨y1, y2, m1, m2, d1, d3⟩ := hv
  have d2 : d ≤ 31 := by have := Dat.monthN_bd y m; omega
  clear d3
  have hL1 : 0 ≤ n % 86400 := by omega
  have hL2 : n % 86400 < 86400 := by omega
  have HF : Hid _ := fmt_join y m d (n % 86400) (by omega) (by omega) (by omega) (by omega) (by omega) (by omega) hL1 hL2
  have k1 := pad_len4 y (by omega) (by omega)
  have k2 := pad_len2 m (by omega) (by omega)
  have k3 := pad_len2 d (by omega) (by omega)
  have k4 := pad_len2 (n % 86400 / 3600) (by omega) (by omega)
  have k5 := pad_len2 (n % 86400 / 60 % 60) (by omega) (by omega)
  have k6 := pad_len2 (n % 86400 % 60) (by omega) (by omega)
  have z1 := j3_size (s := 45) k1 k2 k3
  have z2 := j3_size (s := 58) k4 k5 k6
  rw [← HF.out]
  have HD : Hid (n / 86400 = Dat.num y m d) := hn
  rw [← hn] at hN
  clear hn HF
  have e1 : n.tdiv 86400 = -((-n) / 86400) := by
    rw [← Int.tdiv_eq_ediv_of_nonneg (by omega), Int.neg_tdiv, Int.neg_neg]
  have e2 : n.tmod 86400 = -((-n) % 86400) := by
    rw [← Int.tmod_eq_emod_of_nonneg (by omega), Int.neg_tmod, Int.neg_neg]
  obtain ⟨L, hL⟩ : ∃ L, n % 86400 = L := ⟨_, rfl⟩
  obtain ⟨D, hD⟩ : ∃ D, n / 86400 = D := ⟨_, rfl⟩
  have f1 : n.tdiv 86400 = D + 1 := by omega
  have f2 : n.tmod 86400 = L - 86400 := by omega
  have f3 : L - 86400 < 0 := by omega
  clear h2
  clear e1 e2
  rw [hL] at hL1 hL2 k4 k5 k6 z2
  rw [hL]
  rw [hD] at hN HD
  clear hL hD
  obtain ⟨hN1, hN2⟩ := hN
  go_enter Tryz.func12, Tryz.ntmps12
  go_wp2_with (first
    | (go_at_call 27; refine (Civil_yes _ y m d _ HV.out HD.out hE.ah).mono ?_; rintro e wn ⟨rfl, hn⟩; have hE2 := hE.below hn; replace hE := hE2; clear hE2; replace hB := hB.trans (hn.mono hB.size); clear hn)
    | (go_at_call 29; refine (Pad_str _ _ _ (by omega) (by omega) hE.pow).mono ?_; rintro e wn ⟨rfl, hn⟩; have hE2 := hE.below hn; replace hE := hE2; clear hE2; replace hB := hB.trans (hn.mono hB.size); clear hn)
    | (go_at_call 28; refine (Join3 _ _ _ _ _ (by assumption) (by assumption) (by assumption)).mono ?_; rintro e wn ⟨rfl, hn⟩; have hE2 := hE.below hn; replace hE := hE2; clear hE2; replace hB := hB.trans (hn.mono hB.size); clear hn))
  go_ret2
  exact ⟨rfl, hB⟩
theorem Format_yes (n y m d : Int) (w : World) (hv : Dat.Valid y m d) (hn : n / 86400 = Dat.num y m d) (h0 : -9223372036854775808 ≤ n) (h1 : n ≤ 9223372036854775807) (hE : Env6 w) :
    Calls Tryz.prog 12 #[.int .i64 n] w fun e w' => e = .returned (.tuple #[.string (str (fmtL y m d (n % 86400))), .int .i64 0]) ∧ Below w.heap.size w w' := by
  by_cases h : 0 ≤ n
  · exact Format_pos n y m d w hv hn h h1 hE
  · by_cases hz : n % 86400 = 0
    · exact Format_zero n y m d w hv hn (by omega) h0 hz hE
    · exact Format_neg n y m d w hv hn (by omega) h0 hz hE
set_option maxRecDepth 100000 in
set_option maxHeartbeats 2000000 in
theorem Format_no_pos (n : Int) (w : World) (hn : n / 86400 < -719162 ∨ 2932896 < n / 86400) (h0 : -9223372036854775808 ≤ n) (h1 : n ≤ 9223372036854775807) (hp : 0 ≤ n) :
    Calls Tryz.prog 12 #[.int .i64 n] w fun e w' => e = .returned (.tuple #[.string ⟨#[]⟩, .int .i64 3]) ∧ Below w.heap.size w w' := by
  obtain ⟨L, hL⟩ : ∃ L, n % 86400 = L := ⟨_, rfl⟩
  obtain ⟨D, hD⟩ : ∃ D, n / 86400 = D := ⟨_, rfl⟩
  have b1 : -110000000000000 ≤ D := by omega
  have b2 : D ≤ 110000000000000 := by omega
  have b3 : 0 ≤ L := by omega
  have b4 : L < 86400 := by omega
  rw [hD] at hn
  go_enter Tryz.func12, Tryz.ntmps12
  go_wp2_with (first
    | (go_at_call 27; refine (Civil_no _ _ (by omega) (by omega) (by omega)).mono ?_; rintro e wn ⟨rfl, hn⟩))
  go_ret2
  exact ⟨rfl, hn⟩
set_option maxRecDepth 100000 in
set_option maxHeartbeats 2000000 in
theorem Format_no_zero (n : Int) (w : World) (hn : n / 86400 < -719162 ∨ 2932896 < n / 86400) (h0 : -9223372036854775808 ≤ n) (h1 : n ≤ 9223372036854775807) (hp : n < 0) (h2 : n % 86400 = 0) :
    Calls Tryz.prog 12 #[.int .i64 n] w fun e w' => e = .returned (.tuple #[.string ⟨#[]⟩, .int .i64 3]) ∧ Below w.heap.size w w' := by
  obtain ⟨L, hL⟩ : ∃ L, n % 86400 = L := ⟨_, rfl⟩
  obtain ⟨D, hD⟩ : ∃ D, n / 86400 = D := ⟨_, rfl⟩
  have b1 : -110000000000000 ≤ D := by omega
  have b2 : D ≤ 110000000000000 := by omega
  have b3 : 0 ≤ L := by omega
  have b4 : L < 86400 := by omega
  have e1 : n.tdiv 86400 = -((-n) / 86400) := by
    rw [← Int.tdiv_eq_ediv_of_nonneg (by omega), Int.neg_tdiv, Int.neg_neg]
  have e2 : n.tmod 86400 = -((-n) % 86400) := by
    rw [← Int.tmod_eq_emod_of_nonneg (by omega), Int.neg_tmod, Int.neg_neg]
  have f1 : n.tdiv 86400 = D := by omega
  have f2 : n.tmod 86400 = L := by omega
  have f3 : ¬ L < 0 := by omega
  rw [hD] at hn
  clear e1 e2 h2 hL hD
  go_enter Tryz.func12, Tryz.ntmps12
  go_wp2_with (first
    | (go_at_call 27; refine (Civil_no _ _ (by omega) (by omega) (by omega)).mono ?_; rintro e wn ⟨rfl, hn⟩))
  go_ret2
  exact ⟨rfl, hn⟩
set_option maxRecDepth 100000 in
set_option maxHeartbeats 2000000 in
theorem Format_no_neg (n : Int) (w : World) (hn : n / 86400 < -719162 ∨ 2932896 < n / 86400) (h0 : -9223372036854775808 ≤ n) (h1 : n ≤ 9223372036854775807) (hp : n < 0) (h2 : ¬ n % 86400 = 0) :
    Calls Tryz.prog 12 #[.int .i64 n] w fun e w' => e = .returned (.tuple #[.string ⟨#[]⟩, .int .i64 3]) ∧ Below w.heap.size w w' := by
  obtain ⟨L, hL⟩ : ∃ L, n % 86400 = L := ⟨_, rfl⟩
  obtain ⟨D, hD⟩ : ∃ D, n / 86400 = D := ⟨_, rfl⟩
  have b1 : -110000000000000 ≤ D := by omega
  have b2 : D ≤ 110000000000000 := by omega
  have b3 : 0 ≤ L := by omega
  have b4 : L < 86400 := by omega
  have e1 : n.tdiv 86400 = -((-n) / 86400) := by
    rw [← Int.tdiv_eq_ediv_of_nonneg (by omega), Int.neg_tdiv, Int.neg_neg]
  have e2 : n.tmod 86400 = -((-n) % 86400) := by
    rw [← Int.tmod_eq_emod_of_nonneg (by omega), Int.neg_tmod, Int.neg_neg]
  have f1 : n.tdiv 86400 = D + 1 := by omega
  have f2 : n.tmod 86400 = L - 86400 := by omega
  have f3 : L - 86400 < 0 := by omega
  rw [hD] at hn
  clear e1 e2 h2 hL hD
  go_enter Tryz.func12, Tryz.ntmps12
  go_wp2_with (first
    | (go_at_call 27; refine (Civil_no _ _ (by omega) (by omega) (by omega)).mono ?_; rintro e wn ⟨rfl, hn⟩))
  go_ret2
  exact ⟨rfl, hn⟩
theorem Format_no (n : Int) (w : World) (hn : n / 86400 < -719162 ∨ 2932896 < n / 86400) (h0 : -9223372036854775808 ≤ n) (h1 : n ≤ 9223372036854775807) :
    Calls Tryz.prog 12 #[.int .i64 n] w fun e w' => e = .returned (.tuple #[.string ⟨#[]⟩, .int .i64 3]) ∧ Below w.heap.size w w' := by
  by_cases h : 0 ≤ n
  · exact Format_no_pos n w hn h0 h1 h
  · by_cases hz : n % 86400 = 0
    · exact Format_no_zero n w hn h0 h1 (by omega) hz
    · exact Format_no_neg n w hn h0 h1 (by omega) hz
end Go.Proofs.YtnklbeldheocmaaGreatDoor
/- The contract of the law's alive. -/
namespace Go.Proofs.YtnklbeldheocmaaGreatDoor
open Go.RowKit
def aliveT : List UInt8 := [50, 48, 50, 48, 45, 48, 50, 45, 50, 57, 32, 50, 51, 58, 51, 48, 32, 45, 48, 49, 51, 48]
theorem alive_parse : Dat.parseR (Asc.trim aliveT) = some (1583024400, true, true) := by decide +kernel
theorem alive_valid : Dat.Valid 2020 3 1 := by decide
theorem alive_num : (1583024400 : Int) / 86400 = Dat.num 2020 3 1 := by decide +kernel
theorem alive_text : fmtL 2020 3 1 ((1583024400 : Int) % 86400) = [50, 48, 50, 48, 45, 48, 51, 45, 48, 49, 84, 48, 49, 58, 48, 48, 58, 48, 48, 90] := by decide +kernel
theorem Parse_alive (w : World) (hE : Env6 w) :
    Calls Tryz.prog 11 #[.string ⟨#[50, 48, 50, 48, 45, 48, 50, 45, 50, 57, 32, 50, 51, 58, 51, 48, 32, 45, 48, 49, 51, 48]⟩] w fun e w' => e = .returned (.tuple #[.agg #[.int .i64 1583024400, .bool true, .bool true], .int .i64 0]) ∧ Below w.heap.size w w' := by
  have h := Parse_date aliveT w hE.ah (by decide)
  rw [alive_parse] at h
  exact h
theorem Format_alive (w : World) (hE : Env6 w) :
    Calls Tryz.prog 12 #[.int .i64 1583024400] w fun e w' => e = .returned (.tuple #[.string ⟨#[50, 48, 50, 48, 45, 48, 51, 45, 48, 49, 84, 48, 49, 58, 48, 48, 58, 48, 48, 90]⟩, .int .i64 0]) ∧ Below w.heap.size w w' := by
  have h := Format_yes 1583024400 2020 3 1 w alive_valid alive_num (by omega) (by omega) hE
  rw [alive_text] at h
  exact h
set_option maxRecDepth 100000 in
set_option maxHeartbeats 1000000 in
theorem alive6_any (w : World) (hE : Env6 w) : Calls Tryz.prog 4 #[] w fun e w' => e = .returned (.bool true) ∧ Below w.heap.size w w' := by
  have hz := (zero_of_info zeroM).1
  unfold mVal mCells mZero at hz
  go_enter Tryz.func4, Tryz.ntmps4
  go_wp2_with (first
    | (go_at_call 11; refine (Parse_alive _ hE).mono ?_; rintro e w1 ⟨rfl, hb⟩; have hA1 := (Below.refl _ w1).alloc (Nat.le_refl _) (.cells #[.int .i64 1583024400, .bool true, .bool true] 34); have hE1 := (hE.below hb).below hA1; have hM1 := alloc_MAt3 w1 1583024400 true true; have hB1 := hb.trans (hA1.mono hb.size); clear hA1)
    | (go_at_call 12; refine (Format_alive _ hE1).mono ?_; rintro e w2 ⟨rfl, hb2⟩; have hM2 := hM1.below hb2; have q1 := hM2.c1; have q2 := hM2.c2; have hB2 := hB1.trans (hb2.mono hB1.size); clear hM1 hM2))
  go_ret
  exact ⟨rfl, hB2⟩
end Go.Proofs.YtnklbeldheocmaaGreatDoor
/- Plain facts: what is formatted is parsed as it, with any zone behind. -/
namespace Go.Proofs.YtnklbeldheocmaaGreatDoor
open Dat Asc
theorem bt_dgt (k : Int) (h0 : 0 ≤ k) (h1 : k ≤ 9) : bt (dgt k) = 48 + k := by
  unfold bt dgt
  rw [UInt8.toNat_ofNat']
  omega
theorem dg_dgt (k : Int) (h0 : 0 ≤ k) (h1 : k ≤ 9) : dg (dgt k) := by
  unfold dg
  rw [bt_dgt k h0 h1]
  omega
theorem v2_dgt (a b : Int) (a0 : 0 ≤ a) (a1 : a ≤ 9) (b0 : 0 ≤ b) (b1 : b ≤ 9) : v2 (dgt a) (dgt b) = a * 10 + b := by
  unfold v2
  rw [bt_dgt a a0 a1, bt_dgt b b0 b1]
  omega
theorem two_p2 (n : Int) (h0 : 0 ≤ n) (h1 : n ≤ 99) : two (p2 n) 2 = n := by
  unfold p2
  rw [two2 (dg_dgt _ (by omega) (by omega)) (dg_dgt _ (by omega) (by omega)), v2_dgt _ _ (by omega) (by omega) (by omega) (by omega)]
  omega
theorem two_p4 (n : Int) (h0 : 0 ≤ n) (h1 : n ≤ 9999) : two (p4 n) 4 = n := by
  unfold p4
  rw [two4 (dg_dgt _ (by omega) (by omega)) (dg_dgt _ (by omega) (by omega)) (dg_dgt _ (by omega) (by omega)) (dg_dgt _ (by omega) (by omega))]
  unfold v4
  rw [bt_dgt _ (by omega) (by omega), bt_dgt _ (by omega) (by omega), bt_dgt _ (by omega) (by omega), bt_dgt _ (by omega) (by omega)]
  omega
def dateL (y m d : Int) : List UInt8 := p4 y ++ [45] ++ p2 m ++ [45] ++ p2 d
def timeL (L : Int) : List UInt8 := p2 (L / 3600) ++ [58] ++ p2 (L / 60 % 60) ++ [58] ++ p2 (L % 60)
theorem fmtL_parts (y m d L : Int) : fmtL y m d L = dateL y m d ++ ([84] ++ (timeL L ++ [90])) := by
  unfold fmtL dateL timeL
  simp
theorem date_read {y m d : Int} (hv : Valid y m d) : dayR (dateL y m d) = some (num y m d) := by
  have mb := monthN_bd y m
  have hv0 := hv
  obtain ⟨y1, y2, m1, m2, d1, d2⟩ := hv
  unfold dayR
  rw [if_neg (by simp [dateL, p4, p2]), if_pos ⟨by simp [dateL, p4, p2], by simp [dateL, p4, p2], by simp [dateL, p4, p2]⟩]
  show days (two (p4 y) 4) (two (p2 m) 2) (two (p2 d) 2) = _
  rw [two_p4 y (by omega) y2, two_p2 m (by omega) (by omega), two_p2 d (by omega) (by omega)]
  unfold days
  rw [if_pos hv0]
theorem time_read (L : Int) (h0 : 0 ≤ L) (h1 : L < 86400) : timeR (timeL L) = some L := by
  have g : ∀ k : Int, 0 ≤ k → k ≤ 99 → dg (dgt (k / 10)) ∧ dg (dgt (k % 10)) ∧ v2 (dgt (k / 10)) (dgt (k % 10)) = k := fun k k0 k1 =>
    ⟨dg_dgt _ (by omega) (by omega), dg_dgt _ (by omega) (by omega), by rw [v2_dgt _ _ (by omega) (by omega) (by omega) (by omega)]; omega⟩
  obtain ⟨a1, a2, a3⟩ := g (L / 3600) (by omega) (by omega)
  obtain ⟨b1, b2, b3⟩ := g (L / 60 % 60) (by omega) (by omega)
  obtain ⟨c1, c2, c3⟩ := g (L % 60) (by omega) (by omega)
  have h := timeR_mk a1 a2 b1 b2 (secR_two c1 c2) (by omega) (by omega) (by omega) (by omega)
  rw [a3, b3, c3] at h
  have e : L / 3600 * 3600 + L / 60 % 60 * 60 + min (L % 60) 59 = L := by omega
  rw [e] at h
  exact h
theorem date_signs (y m d : Int) (y0 : 0 ≤ y) (y1 : y ≤ 9999) (m0 : 0 ≤ m) (m1 : m ≤ 99) (d0 : 0 ≤ d) (d1 : d ≤ 99) : (dateL y m d).all dayC = true := by
  have g : ∀ k : Int, 0 ≤ k → k ≤ 9 → dayC (dgt k) = true := fun k k0 k1 => dayC_dg (dg_dgt k k0 k1)
  simp only [dateL, p4, p2, List.cons_append, List.nil_append, List.all_cons, List.all_nil, Bool.and_true, dayC_dash]
  rw [g _ (by omega) (by omega), g _ (by omega) (by omega), g _ (by omega) (by omega), g _ (by omega) (by omega), g _ (by omega) (by omega), g _ (by omega) (by omega), g _ (by omega) (by omega), g _ (by omega) (by omega)]
  rfl
theorem time_signs (L : Int) (h0 : 0 ≤ L) (h1 : L < 86400) : (timeL L).all clkC = true := by
  have g : ∀ k : Int, 0 ≤ k → k ≤ 9 → clkC (dgt k) = true := fun k k0 k1 => clkC_dg (dg_dgt k k0 k1)
  simp only [timeL, p2, List.cons_append, List.nil_append, List.all_cons, List.all_nil, Bool.and_true, clk58]
  rw [g _ (by omega) (by omega), g _ (by omega) (by omega), g _ (by omega) (by omega), g _ (by omega) (by omega), g _ (by omega) (by omega), g _ (by omega) (by omega)]
  rfl
/-- A day, a time, and a zone. -/
theorem parse_zone {y m d L v : Int} {x : UInt8} {z : List UInt8} (hv : Valid y m d) (h0 : 0 ≤ L) (h1 : L < 86400) (hz : zoneR (x :: z) = some v) (hx : clkC x = false) (hs : sp x = false) :
    parseR (dateL y m d ++ ([84] ++ (timeL L ++ (x :: z)))) = some (num y m d * 86400 + L - v, true, true) := by
  have mb := monthN_bd y m
  have hv0 := hv
  obtain ⟨y1, y2, m1, m2, d1, d2⟩ := hv
  have s1 := span_stop dayC (dateL y m d) ([84] ++ (timeL L ++ (x :: z))) (date_signs y m d (by omega) y2 (by omega) (by omega) (by omega) (by omega)) (by
    intro c hc
    have : (84 : UInt8) = c := by simpa using hc
    subst this
    decide)
  have s2 := span_stop clkC (timeL L) (x :: z) (time_signs L h0 h1) (by
    intro c hc
    have : x = c := by simpa using hc
    subst this
    exact hx)
  unfold parseR
  rw [s1.1, s1.2, date_read hv0]
  show (if [84] ++ (timeL L ++ (x :: z)) = [] then _ else match gap ([84] ++ (timeL L ++ (x :: z))) with | none => none | some l2 => _) = _
  have hg : gap ([84] ++ (timeL L ++ (x :: z))) = some (timeL L ++ (x :: z)) := rfl
  rw [if_neg (by simp), hg]
  show (match timeR ((timeL L ++ (x :: z)).takeWhile clkC) with | none => none | some t => _) = _
  rw [s2.1, time_read L h0 h1]
  show (if (timeL L ++ (x :: z)).dropWhile clkC = [] then _ else match zoneR (((timeL L ++ (x :: z)).dropWhile clkC).dropWhile sp) with | none => none | some z => some (num y m d * 86400 + L - z, true, true)) = _
  rw [s2.2, if_neg (by simp), List.dropWhile_cons_of_neg (by rw [hs]; decide), hz]
/-- A text that begins and ends with no blank is trimmed to itself. -/
theorem trim_same (l : List UInt8) (c : UInt8) (h1 : ∀ x, l.head? = some x → isBlank x = false) (hc : isBlank c = false) (hl : l ≠ []) : trim (l ++ [c]) = l ++ [c] := by
  have e1 : trimL (l ++ [c]) = l ++ [c] := by
    cases l with
    | nil => exact absurd rfl hl
    | cons x t =>
      unfold trimL
      rw [List.cons_append, List.dropWhile_cons_of_neg (by rw [h1 x rfl]; decide)]
  unfold trim
  rw [e1, trimR_stop l c hc]
theorem blank_dgt (k : Int) (h0 : 0 ≤ k) (h1 : k ≤ 9) : isBlank (dgt k) = false := by
  have hd := dg_dgt k h0 h1
  cases h : isBlank (dgt k)
  · rfl
  · exfalso
    unfold dg bt at hd
    unfold isBlank at h
    simp at h
    rcases h with (((h | h) | h) | h) | h <;> (rw [h] at hd; simp at hd)
/-- What is formatted is parsed as it. -/
theorem parse_fmt {y m d L : Int} (hv : Valid y m d) (h0 : 0 ≤ L) (h1 : L < 86400) : parseR (trim (fmtL y m d L)) = some (num y m d * 86400 + L, true, true) := by
  have ht : trim (fmtL y m d L) = fmtL y m d L := by
    have e : fmtL y m d L = (dateL y m d ++ ([84] ++ timeL L)) ++ [90] := by rw [fmtL_parts]; simp
    rw [e]
    refine trim_same _ 90 ?_ (by decide) (by simp)
    intro x hx
    have : dgt (y / 1000) = x := by simpa [dateL, p4] using hx
    subst this
    exact blank_dgt _ (by have := hv.1; omega) (by have := hv.2.1; omega)
  rw [ht, fmtL_parts]
  have h := parse_zone (x := 90) (z := []) (v := 0) hv h0 h1 rfl (by decide) (by decide)
  rw [h, Int.sub_zero]
theorem fmtL_len (y m d L : Int) : (fmtL y m d L).length = 20 := rfl
end Go.Proofs.YtnklbeldheocmaaGreatDoor
