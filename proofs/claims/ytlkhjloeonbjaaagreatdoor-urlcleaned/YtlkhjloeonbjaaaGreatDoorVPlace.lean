/- The contracts of package url's ownPort, readPort, readPlace. -/
import Derived.Test.YtlkhjloeonbjaaaGreatDoorVHost
namespace Go.Proofs.YtlkhjloeonbjaaaGreatDoor
open Go.RowKit
theorem ownPort_any (s : List UInt8) (w : World) :
    Calls Tryz.prog 93 #[.string (str s)] w fun e w' => e = .returned (.int .i64 (Url.own s)) ∧ w' = w := by
  by_cases h : s = Url.https
  · have n1 : ((str s).toList == [104, 116, 116, 112, 115]) = true := eq_list h
    have HS : Hid (Url.own s = 443) := if_pos h
    clear h
    go_enter Tryz.func93, Tryz.ntmps93
    go_wp2
    go_ret
    exact ⟨by rw [HS.out]; rfl, rfl⟩
  · have n1 : ((str s).toList == [104, 116, 116, 112, 115]) = false := ne_list h
    have HS : Hid (Url.own s = 80) := if_neg h
    clear h
    go_enter Tryz.func93, Tryz.ntmps93
    go_wp2
    go_ret
    exact ⟨by rw [HS.out]; rfl, rfl⟩
theorem U.same_port (u : Url.U) (h : u.port = 0) : { u with port := 0 } = u := by cases u; simp at h; simp [h]
set_option maxHeartbeats 2000000 in
set_option maxRecDepth 100000 in
theorem readPort_any (d t : List UInt8) (u : Url.U) (b : Nat) (w : World) (hp : IsP w b t u) (h0 : u.port = 0) (hz : d.length ≤ 1000000000) :
    Calls Tryz.prog 62 #[.pointer (some ⟨b, 0, none⟩), .string (str d)] w fun e w' => e = .returned (.int .i64 (Url.portE d)) ∧ (Url.portE d = 0 → IsP w' b t { u with port := Url.port u.sch d }) ∧ Below b w w' := by
  by_cases hd : d = []
  · have HS : Hid (Url.portE d = 0 ∧ Url.port u.sch d = 0) := ⟨if_pos (.inl hd), if_pos hd⟩
    have he := empty_is hd
    clear hd
    go_enter Tryz.func62, Tryz.ntmps62
    go_wp2
    go_ret
    exact ⟨by rw [HS.out.1]; rfl, fun _ => by rw [HS.out.2, U.same_port u h0]; exact hp, Below.refl _ _⟩
  · have he := empty_isnt hd
    by_cases hn : Asc.numErr d 65535 = 0
    · have hrb := Asc.read_back d 65535 (by decide) hn
      have n0 := hrb.1
      have n1 := hrb.2.1
      clear hrb
      have HE : Hid (Url.portE d = 0) := if_pos (.inr hn)
      have c1 : w.cell? ⟨b, 1, none⟩ = some (.string (str u.sch)) := hp.cell 1
      have c3 : w.cell? ⟨b, 3, none⟩ = some (.int .i64 u.port) := hp.cell 3
      have f3 := hp.frozen 3
      by_cases ho : Asc.numNum d 65535 = Url.own u.sch
      · have HP : Hid (Url.port u.sch d = 0) := (if_neg hd).trans (if_pos ho)
        have hq : (Asc.numNum d 65535 != Url.own u.sch) = false := by rw [ho]; simp
        clear hd ho
        go_enter Tryz.func62, Tryz.ntmps62
        go_wp2_with (first
          | (go_at_call 92; refine (Number_str d 65535 _ hz (by decide)).mono ?_; rintro e w1 ⟨rfl, hw1⟩; rw [hw1, hn]; clear hw1)
          | (go_at_call 93; refine (ownPort_any u.sch _).mono ?_; rintro e w2 ⟨rfl, hw2⟩; rw [hw2]; clear hw2))
        go_ret
        exact ⟨by rw [HE.out]; rfl, fun _ => by rw [HP.out, U.same_port u h0]; exact hp, Below.refl _ _⟩
      · have HP : Hid (Url.port u.sch d = Asc.numNum d 65535) := (if_neg hd).trans (if_neg ho)
        have hq : (Asc.numNum d 65535 != Url.own u.sch) = true := by rw [bne_iff_ne]; exact ho
        clear hd ho
        go_enter Tryz.func62, Tryz.ntmps62
        go_wp2_with (first
          | (go_at_call 92; refine (Number_str d 65535 _ hz (by decide)).mono ?_; rintro e w1 ⟨rfl, hw1⟩; rw [hw1, hn]; clear hw1)
          | (go_at_call 93; refine (ownPort_any u.sch _).mono ?_; rintro e w2 ⟨rfl, hw2⟩; rw [hw2]; clear hw2))
        go_ret
        exact ⟨by rw [HE.out]; rfl, fun _ => by rw [HP.out]; exact hp.port _, (Below.refl b w).setCell (p := ⟨b, 3, none⟩) (Nat.le_refl _) _⟩
    · have HE : Hid (Url.portE d = 3) := if_neg (fun h => h.elim hd hn)
      have he2 : (Asc.numErr d 65535 != 0) = true := by rw [bne_iff_ne]; exact hn
      clear hd hn
      go_enter Tryz.func62, Tryz.ntmps62
      go_wp2_with (first
        | (go_at_call 92; refine (Number_str d 65535 _ hz (by decide)).mono ?_; rintro e w1 ⟨rfl, hw1⟩; rw [hw1]; clear hw1))
      go_ret
      exact ⟨by rw [HE.out]; rfl, fun h => absurd (HE.out.symm.trans h) (by decide), Below.refl _ _⟩
theorem cut_upto (b : UInt8) (t : List UInt8) : Lib.cut t [b] = (Url.upto [b] t, (Url.rest [b] t).drop 1, Url.hasB b (Url.rest [b] t)) := by
  have h1 := Url.upto_rest [b] t
  have h2 := Url.upto_not [b] t
  have h3 := Url.rest_head [b] t
  generalize Url.upto [b] t = a at h1 h2 ⊢
  generalize Url.rest [b] t = r at h1 h3 ⊢
  subst h1
  cases r with
  | nil =>
    rw [List.append_nil, Pct.cut_none a b (fun j hj => by
      have := h2 b (List.mem_of_getElem? hj)
      simp at this)]
    rfl
  | cons x r =>
    have hx : x = b := by
      have := h3 x rfl
      simpa using this
    subst hx
    rw [Pct.cut_at (a ++ x :: r) x a.length (by simp) (fun j hj hh => by
      rw [List.getElem?_append_left hj] at hh
      have := h2 x (List.mem_of_getElem? hh)
      simp at this)]
    simp [Url.hasB]
theorem Cut_colon (t : List UInt8) (w : World) (hM : MaxL w) (hz : t.length ≤ 1000000000) :
    Calls Tryz.prog 61 #[.string (str t), .string ⟨#[58]⟩] w fun e w' => e = .returned (.tuple #[.string (str (Url.upto [58] t)), .string (str ((Url.rest [58] t).drop 1)), .bool (Url.hasB 58 (Url.rest [58] t))]) ∧ Below w.heap.size w w' := by
  obtain ⟨m, hm⟩ := hM
  have := Tryz.strings_Cut (str t) ⟨#[58]⟩ m w (by rw [str_size]; omega) hm
  rw [str_data] at this
  have e : Lib.cut t (⟨#[58]⟩ : ByteArray).data.toList = _ := cut_upto 58 t
  rw [e] at this
  refine this.mono ?_
  rintro e w' ⟨rfl, n, rfl⟩
  exact ⟨rfl, below_drewN' (Below.refl _ _) n⟩
theorem Contains_at (t : List UInt8) (w : World) :
    Calls Tryz.prog 60 #[.string (str t), .string ⟨#[64]⟩] w fun e w' => e = .returned (.bool (t.contains 64)) ∧ w' = w := by
  have := Tryz.strings_Contains_one (str t) 64 w
  rw [str_data, ← Lib.contains_iff_indexByte] at this
  exact this
theorem upTo_slash (t : List UInt8) (u : Url.U) (b : Nat) (w : World) (hp : IsP w b t u) (hz : t.length ≤ 1000000000) :
    Calls Tryz.prog 56 #[.pointer (some ⟨b, 0, none⟩), .string ⟨#[47, 92, 63, 35]⟩] w fun r w' => r = .returned (.string (str (Url.upto [47, 92, 63, 35] t))) ∧ IsP w' b (Url.rest [47, 92, 63, 35] t) u ∧ Below b w w' :=
  upTo_any [47, 92, 63, 35] t u b w hp (by decide) (by decide) (by decide) hz
set_option maxHeartbeats 1000000 in
set_option maxRecDepth 100000 in
theorem readPlace_any (t : List UInt8) (u : Url.U) (b : Nat) (w : World) (hp : IsP w b t u) (hE : Env w) (h0 : u.port = 0) (hz : t.length ≤ 1000000000) (hG : Env w → ∀ w', Below b w w' → Env w') :
    Calls Tryz.prog 27 #[.pointer (some ⟨b, 0, none⟩)] w fun e w' => e = .returned (.int .i64 (Url.placeE t)) ∧ (Url.placeE t = 0 → IsP w' b (Url.placeR t) { u with host := Url.host (Url.nameT t), port := Url.port u.sch (Url.portT t) }) ∧ Below b w w' := by
  have hul : (Url.unsl t).length ≤ t.length := (List.dropWhile_sublist _).length_le
  have hpl := Url.upto_len [47, 92, 63, 35] (Url.unsl t)
  have hnl := Url.upto_len [58] (Url.place t)
  have hdl := Url.rest_len [58] (Url.place t)
  have hdl2 : (Url.portT t).length ≤ t.length := by
    unfold Url.portT
    rw [List.length_drop]
    unfold Url.place at hdl ⊢
    omega
  have hnl2 : (Url.nameT t).length ≤ t.length := by
    unfold Url.nameT
    unfold Url.place at hnl ⊢
    omega
  by_cases hs : (Url.unsl t).length = t.length
  · have HE : Hid (Url.placeE t = 3) := if_pos hs
    have hq : decide ((Url.unsl t).length < t.length) = false := decide_eq_false (by omega)
    clear hs
    go_enter Tryz.func27, Tryz.ntmps27
    go_wp2_with (go_at_call 59; refine (skip_any t u b _ hp).mono ?_; rw [hq]; rintro e w1 ⟨rfl, hp1, hb1⟩)
    go_ret
    exact ⟨by rw [HE.out]; rfl, fun h => absurd (HE.out.symm.trans h) (by decide), hb1⟩
  · have hq : decide ((Url.unsl t).length < t.length) = true := decide_eq_true (by omega)
    have upc : ∀ W : World, IsP W b (Url.unsl t) u → Calls Tryz.prog 56 #[.pointer (some ⟨b, 0, none⟩), .string ⟨#[47, 92, 63, 35]⟩] W fun r w' => r = .returned (.string (str (Url.place t))) ∧ IsP w' b (Url.placeR t) u ∧ Below b W w' := fun W h => upTo_slash (Url.unsl t) u b W h (by omega)
    have hpl2 : (Url.place t).length ≤ t.length := by unfold Url.place; omega
    cases hat : (Url.place t).contains 64
    · have cutc : ∀ W : World, MaxL W → Calls Tryz.prog 61 #[.string (str (Url.place t)), .string ⟨#[58]⟩] W fun e w' => e = .returned (.tuple #[.string (str (Url.nameT t)), .string (str (Url.portT t)), .bool (Url.hasB 58 (Url.rest [58] (Url.place t)))]) ∧ Below W.heap.size W w' := fun W h => Cut_colon (Url.place t) W h (by omega)
      by_cases hh : Url.hostE (Url.nameT t) = 0
      · have HE : Hid (Url.placeE t = Url.portE (Url.portT t)) := by
          show _ = _
          unfold Url.placeE
          rw [if_neg hs, hat, if_neg (by decide), if_neg (by rw [hh]; decide)]
        clear hs
        go_enter Tryz.func27, Tryz.ntmps27
        go_wp2_with (first
          | (go_at_call 59; refine (skip_any t u b _ hp).mono ?_; rw [hq]; rintro e w1 ⟨rfl, hp1, hb1⟩)
          | (go_at_call 56; refine (upc _ hp1).mono ?_; rintro e w2 ⟨rfl, hp2, hb2⟩; have hb2' := hb1.trans hb2; have hE2 := hG hE w2 hb2')
          | (go_at_call 60; refine (Contains_at _ _).mono ?_; rintro e w3 ⟨rfl, hw3⟩; rw [hw3, hat]; clear hw3)
          | (go_at_call 61; refine (cutc _ hE2.max).mono ?_; rintro e w4 ⟨rfl, hb4⟩; have hp4 := hp2.below hb4; have hE4 := hE2.below hb4; have hb4' := hb2'.trans (belowP hb4 hp2.lt))
          | (go_at_call 15; refine (Host_any _ _ hE4 (by omega)).mono ?_; rw [hh]; rintro e w5 ⟨rfl, hb5⟩; have hp5 := hp4.below hb5; have hb5' := hb4'.trans (belowP hb5 hp4.lt); have c5 : w5.cell? ⟨b, 2, none⟩ = some (.string (str u.host)) := hp5.cell 2; have f5 := hp5.frozen 2)
          | fail)
        have hp5h := hp5.host (Url.host (Url.nameT t))
        have hbh := hb5'.setCell (p := ⟨b, 2, none⟩) (Nat.le_refl _) (.string (str (Url.host (Url.nameT t))))
        clear c5 f5 hp5 hp4 hp2 hp1 hE4 hE2 hG hb5' hb4' hb2' hb5 hb4 hb2 hb1
        generalize w5.setCell ⟨b, 2, none⟩ (.string (str (Url.host (Url.nameT t)))) = w5h at hp5h hbh ⊢
        go_at_call 62
        refine (readPort_any (Url.portT t) (Url.placeR t) _ b w5h hp5h h0 (by omega)).mono ?_
        rintro e w6 ⟨rfl, hp6, hb6⟩
        go_wp2
        go_ret
        exact ⟨by rw [HE.out]; rfl, fun h => hp6 (HE.out.symm.trans h), hbh.trans hb6⟩
      · have HE : Hid (Url.placeE t = Url.hostE (Url.nameT t)) := by
          show _ = _
          unfold Url.placeE
          rw [if_neg hs, hat, if_neg (by decide), if_pos hh]
        have HN : Hid (¬ Url.hostE (Url.nameT t) = 0) := hh
        have hh2 : (Url.hostE (Url.nameT t) != 0) = true := by rw [bne_iff_ne]; exact hh
        clear hs hh
        go_enter Tryz.func27, Tryz.ntmps27
        go_wp2_with (first
          | (go_at_call 59; refine (skip_any t u b _ hp).mono ?_; rw [hq]; rintro e w1 ⟨rfl, hp1, hb1⟩)
          | (go_at_call 56; refine (upc _ hp1).mono ?_; rintro e w2 ⟨rfl, hp2, hb2⟩; have hb2' := hb1.trans hb2; have hE2 := hG hE w2 hb2')
          | (go_at_call 60; refine (Contains_at _ _).mono ?_; rintro e w3 ⟨rfl, hw3⟩; rw [hw3, hat]; clear hw3)
          | (go_at_call 61; refine (cutc _ hE2.max).mono ?_; rintro e w4 ⟨rfl, hb4⟩; have hp4 := hp2.below hb4; have hE4 := hE2.below hb4; have hb4' := hb2'.trans (belowP hb4 hp2.lt))
          | (go_at_call 15; refine (Host_any _ _ hE4 (by omega)).mono ?_; rintro e w5 ⟨rfl, hb5⟩; have hb5' := hb4'.trans (belowP hb5 hp4.lt)))
        go_ret
        exact ⟨by rw [HE.out]; rfl, fun h => absurd (HE.out.symm.trans h) HN.out, hb5'⟩
    · have HE : Hid (Url.placeE t = 3) := by
        show _ = _
        unfold Url.placeE
        rw [if_neg hs, if_pos hat]
      clear hs
      go_enter Tryz.func27, Tryz.ntmps27
      go_wp2_with (first
        | (go_at_call 59; refine (skip_any t u b _ hp).mono ?_; rw [hq]; rintro e w1 ⟨rfl, hp1, hb1⟩)
        | (go_at_call 56; refine (upc _ hp1).mono ?_; rintro e w2 ⟨rfl, hp2, hb2⟩)
        | (go_at_call 60; refine (Contains_at _ _).mono ?_; rintro e w3 ⟨rfl, hw3⟩; rw [hw3, hat]; clear hw3))
      go_ret
      exact ⟨by rw [HE.out]; rfl, fun h => absurd (HE.out.symm.trans h) (by decide), hb1.trans hb2⟩
end Go.Proofs.YtlkhjloeonbjaaaGreatDoor
