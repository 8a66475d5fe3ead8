/- The walk of the law PercentPairs, out of the contracts. -/
import Derived.Test.YtoahjdpkhnkfiaaDoorPLaw
import Derived.Test.YtoahjdpkhnkfiaaDoorPFar
import Derived.Test.YtoahjdpkhnkfiaaDoorPSame
import Derived.Test.YtoahjdpkhnkfiaaDoorPArgs
namespace Go.Proofs.YtoahjdpkhnkfiaaDoor
open Go.RowKit
theorem lens_le (ts : List (List UInt8)) (n : Nat) (h : ∀ t ∈ ts, t.length ≤ n) : Lib.lens ts ≤ ts.length * n := by
  induction ts with
  | nil => simp [Lib.lens]
  | cons t r ih =>
    have h1 := ih (fun x hx => h x (List.mem_cons_of_mem _ hx))
    have h2 := h t (List.mem_cons_self ..)
    simp only [Lib.lens, List.map_cons, List.sum_cons, List.length_cons] at h1 ⊢
    rw [Nat.add_mul]
    omega
theorem form_len (ps : List Pct.Pr) (n : Nat) (h : ∀ p ∈ ps, p.1.length ≤ n ∧ p.2.length ≤ n) : (Pct.form ps).length ≤ ps.length * (6 * n + 2) := by
  have h1 := Asc.join_len (ps.map Pct.text) [38]
  have h2 := lens_le (ps.map Pct.text) (6 * n + 1) (by
    intro t ht
    rw [List.mem_map] at ht
    obtain ⟨p, hp, rfl⟩ := ht
    have h3 := h p hp
    have h4 := Pct.part_len p.1
    have h5 := Pct.part_len p.2
    unfold Pct.text
    rw [List.length_append, List.length_append, List.length_singleton]
    omega)
  rw [List.length_map] at h1 h2
  unfold Pct.form
  rw [List.length_singleton, Nat.one_mul] at h1
  have h3 : ps.length * (6 * n + 2) = ps.length + ps.length * (6 * n + 1) := by rw [Nat.mul_add, Nat.mul_add]; omega
  omega
theorem same_bel (v u : Value) (ts us : List Pct.Pr) (w : World) (hv : ReadsPairs w v ts) (hu : ReadsPairs w u us) (hl : ts.length ≤ 1000000) (hm : us.length ≤ 1000000) :
    Calls Tryd.prog 21 #[v, u] w fun e w' => e = .returned (.bool (decide (ts = us))) ∧ Below w.heap.size w w' := by
  refine (same_any v u ts us w hv hu hl hm).mono ?_
  rintro e w' ⟨rfl, n, rfl⟩
  exact ⟨rfl, below_drewN n (Below.refl _ _)⟩
theorem pairs_yes (ps : List Pct.Pr) : decide (ps = ps) = true := by simp
end Go.Proofs.YtoahjdpkhnkfiaaDoor
namespace Go.Proofs.YtoahjdpkhnkfiaaDoor.percentPairs
open Go.RowKit
theorem Parse_form (ps : List Pct.Pr) (w : World) (hM : MaxL w) (hn : ps.length ≤ 60) (hz : (Pct.form ps).length ≤ 1000000000) (ht : ∀ p ∈ ps, Utf.isText p.1 = true ∧ Utf.isText p.2 = true) :
    Calls Tryd.prog 16 #[.string (str (Pct.form ps))] w fun e w' => ∃ u, e = .returned (.tuple #[u, .int .i64 0]) ∧ ReadsPairs w' u ps ∧ Below w.heap.size w w' := by
  refine (Parse_any _ w hM hz).mono ?_
  rintro e w' ⟨u, rfl, ho, hb⟩
  have h := parsed_ok (l := Pct.form ps) (by rw [Pct.form_count]; omega)
  rw [h.1, Pct.parse_form ps ht] at ho
  exact ⟨u, by rw [h.2], ho.reads, hb⟩
set_option maxHeartbeats 4000000 in
set_option maxRecDepth 100000 in
theorem walk (a0 : Option Addr) (len0 cap0 n0 : Nat) (z0 : List Pct.Pr) (w : World) (h0 : ArgPairs w a0 len0 cap0 n0 z0) (hn0 : n0 ≤ 1048576) (hT : MaxL w) :
    Calls Tryd.prog 7 #[.slice a0 len0 cap0] w fun e w' => e = .returned (.bool true) ∧ Below w.heap.size w w' := by
  obtain ⟨rfl, hmx, hr, hz⟩ := h0
  have HR : Hid (ReadsPairs w (.slice a0 z0.length cap0) z0) := hr
  have HZ : Hid (∀ p ∈ z0, p.1.length ≤ n0 ∧ p.2.length ≤ n0) := hz
  clear hr hz
  unfold maxLen at hmx
  go_enter Tryd.func7, Tryd.ntmps7
  go_wp2_with fail
  go_at_call 15
  refine (far_any _ z0 _ HR.out hmx).mono ?_
  rintro e w1 ⟨r, rfl, hr, hb1⟩
  cases r
  case true =>
    go_wp2_with (go_at_call 10; refine (alive_any _ (hT.below hb1)).mono ?_; rintro e w2 ⟨rfl, hb⟩)
    go_ret
    exact ⟨rfl, bel hb1 hb⟩
  have h60 := hr rfl
  clear hr
  go_wp2_with fail
  go_loopw [12] (fun i wr => ∃ k : Nat, k ≤ z0.length ∧ i = .int .i64 k ∧ Hid (∀ p ∈ z0.take k, Utf.isText p.1 = true ∧ Utf.isText p.2 = true) ∧ Below w.heap.size w wr) (fun i _ => z0.length - (intOf i).toNat)
  case atStart => exact ⟨0, Nat.zero_le _, rfl, by intro p hp; simp at hp, hb1⟩
  case round =>
    obtain ⟨k, hk, rfl, HX, hbw⟩ := hrel
    by_cases hlt : k < z0.length
    · obtain ⟨p, hp⟩ : ∃ p, z0[k]? = some p := ⟨_, List.getElem?_eq_getElem hlt⟩
      obtain ⟨b, o, rfl, hc, hbl, h1, h2⟩ := HR.out.at hp
      have g1 := (hbw.cell (p := ⟨b, o + k * 2, none⟩) hbl).trans h1
      have g2 := (hbw.cell (p := ⟨b, o + k * 2 + 1, none⟩) hbl).trans h2
      obtain ⟨l1, l2⟩ := HZ.out p (List.mem_of_getElem? hp)
      have HP : Hid (z0[k]? = some p) := hp
      have hws := hbw.size
      clear hp h1 h2
      have hal : Below w.heap.size w (wr.alloc (.cells #[.string (str p.1), .string (str p.2)] 49)) := hbw.alloc hws _
      have d2 : ∀ W, Below (wr.alloc (.cells #[.string (str p.1), .string (str p.2)] 49)).heap.size (wr.alloc (.cells #[.string (str p.1), .string (str p.2)] 49)) W → W.cell? ⟨wr.heap.size, 1, none⟩ = some (.string (str p.2)) := fun W hW => (hW.cell (p := ⟨wr.heap.size, 1, none⟩) (by simp)).trans (by simp)
      have D2 : Hid _ := d2
      clear d2
      cases t1 : Utf.isText p.1
      · go_wp2_with (first
          | (go_at_call_of 28 (str p.1); refine (RIsText_bel _ _ (by omega)).mono ?_; rintro e w4 ⟨rfl, hb4⟩; rw [t1])
          | (go_at_call 10; refine (alive_any _ (hT.below (bel hal hb4))).mono ?_; rintro e w5 ⟨rfl, hb5⟩))
        go_ret
        exact ⟨rfl, bel (bel hal hb4) hb5⟩
      cases t2 : Utf.isText p.2
      · go_wp2_with (first
          | (go_at_call_of 28 (str p.1); refine (RIsText_bel _ _ (by omega)).mono ?_; rintro e w4 ⟨rfl, hb4⟩; rw [t1]; have c4 := D2.out _ hb4)
          | (go_at_call_of 28 (str p.2); refine (RIsText_bel _ _ (by omega)).mono ?_; rintro e w5 ⟨rfl, hb5⟩; rw [t2])
          | (go_at_call 10; refine (alive_any _ (hT.below (bel (bel hal hb4) hb5))).mono ?_; rintro e w6 ⟨rfl, hb6⟩))
        go_ret
        exact ⟨rfl, bel (bel (bel hal hb4) hb5) hb6⟩
      · go_wp2_with (first
          | (go_at_call_of 28 (str p.1); refine (RIsText_bel _ _ (by omega)).mono ?_; rintro e w4 ⟨rfl, hb4⟩; rw [t1]; have c4 := D2.out _ hb4)
          | (go_at_call_of 28 (str p.2); refine (RIsText_bel _ _ (by omega)).mono ?_; rintro e w5 ⟨rfl, hb5⟩; rw [t2]))
        go_roundw
        case rel => exact ⟨k + 1, by omega, by go_num, by
          intro q hq
          rw [List.take_add_one, HP.out, List.mem_append] at hq
          rcases hq with hq | hq
          · exact HX.out q hq
          · simp at hq; subst hq; exact ⟨t1, t2⟩, bel (bel hal hb4) hb5⟩
        case measure => simp [intOf]; omega
    · have HA : Hid (∀ p ∈ z0, Utf.isText p.1 = true ∧ Utf.isText p.2 = true) := by
        have h := HX.out
        rw [List.take_of_length_le (by omega)] at h
        exact h
      have hfl := form_len z0 n0 HZ.out
      have hfl2 : (Pct.form z0).length ≤ 1000000000 := by
        have h1 : z0.length * (6 * n0 + 2) ≤ 60 * (6 * 1048576 + 2) := Nat.mul_le_mul h60 (by omega)
        omega
      have HF : Hid ((Pct.form z0).length ≤ 1000000000) := hfl2
      have HZ2 : Hid (∀ p ∈ z0, p.1.length ≤ 100000000 ∧ p.2.length ≤ 100000000) := fun p hp => ⟨by have := (HZ.out p hp).1; omega, by have := (HZ.out p hp).2; omega⟩
      clear hfl hfl2
      go_wp2_with (first
        | (go_at_call 19; refine (theirs_any _ z0 _ (HR.out.below hbw) (by omega)).mono ?_; rintro e w4 ⟨u, rfl, ho4, hb4⟩; have hb4' := bel hbw hb4; have hr4 := ho4.reads; clear ho4)
        | (go_at_call 18; refine (Form_any _ z0 _ hr4 (hT.below hb4') (by omega) HZ2.out HF.out).mono ?_; rintro e w5 ⟨rfl, hb5⟩; have hb5' := bel hb4' hb5)
        | (go_at_call 16; refine (Parse_form z0 _ (hT.below hb5') h60 HF.out HA.out).mono ?_; rintro e w6 ⟨u6, rfl, hr6, hb6⟩; have hb6' := bel hb5' hb6)
        | (go_at_call 22; refine (ours_any _ z0 _ hr6 (by omega)).mono ?_; rintro e w7 ⟨u7, rfl, ho7, hb7⟩; have hb7' := bel hb6' hb7; have hr7 := ho7.reads; clear ho7)
        | (go_at_call 21; refine (same_bel _ _ z0 z0 _ hr7 (HR.out.below hb7') (by omega) (by omega)).mono ?_; rintro e w8 ⟨rfl, hb8⟩; rw [pairs_yes]; have hb8' := bel hb7' hb8)
        | (go_at_call 10; refine (alive_any _ (hT.below hb8')).mono ?_; rintro e w9 ⟨rfl, hb9⟩))
      go_ret
      exact ⟨rfl, bel hb8' hb9⟩
end Go.Proofs.YtoahjdpkhnkfiaaDoor.percentPairs
