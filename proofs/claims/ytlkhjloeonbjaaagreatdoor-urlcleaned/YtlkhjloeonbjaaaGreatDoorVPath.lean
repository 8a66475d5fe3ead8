/- The contracts of package url's dotsOf and Path. -/
import Derived.Test.YtlkhjloeonbjaaaGreatDoorVPlace
import Derived.Test.YtlkhjloeonbjaaaGreatDoorPMark2
namespace Go.Proofs.YtlkhjloeonbjaaaGreatDoor
open Go.RowKit
theorem countFrom_le (n : Nat) : ∀ t : List UInt8, Lib.countFrom [37, 50, 101] n t ≤ n := by
  induction n with
  | zero => intro t; simp [Lib.countFrom]
  | succ n ih =>
    intro t
    rw [Lib.countFrom]
    split
    · omega
    · have := ih (t.drop ((Lib.index t [37, 50, 101]).toNat + [37, 50, 101].length))
      omega
theorem Replace_dots (l : List UInt8) (w : World) (hM : MaxL w) (hz : l.length ≤ 1000000000) :
    Calls Tryz.prog 46 #[.string (str l), .string ⟨#[37, 50, 101]⟩, .string ⟨#[46]⟩] w fun e w' => e = .returned (.string (str (Url.undot l))) ∧ Below w.heap.size w w' := by
  obtain ⟨m, hm⟩ := hM
  have hcb : Lib.countB (str l) ⟨#[37, 50, 101]⟩ ≤ l.length + 1 := by
    have e : Lib.countB (str l) ⟨#[37, 50, 101]⟩ = Lib.count l [37, 50, 101] := by
      unfold Lib.countB
      rw [str_data]
    rw [e]
    exact countFrom_le _ _
  have := Tryz.strings_ReplaceAll (str l) ⟨#[37, 50, 101]⟩ ⟨#[46]⟩ m w (by rw [str_size]; omega) hm (by decide) (by
    rw [str_size]
    have e : (⟨#[46]⟩ : ByteArray).size = 1 := rfl
    rw [e]
    omega)
  rw [str_data] at this
  have e : Lib.replaceAll l (⟨#[37, 50, 101]⟩ : ByteArray).data.toList (⟨#[46]⟩ : ByteArray).data.toList = Url.undot l := Url.replaceAll_undot l
  rw [e] at this
  exact this
set_option maxHeartbeats 1000000 in
theorem dotsOf_any (l : List UInt8) (w : World) (hM : MaxL w) (hz : l.length ≤ 1000000000) :
    Calls Tryz.prog 49 #[.string (str l)] w fun e w' => e = .returned (.int .i64 (Url.dots l : Nat)) ∧ Below w.heap.size w w' := by
  have hll := lower_len' l
  have hd := Url.dots_undot l
  by_cases h1 : Url.undot (Asc.lower l) = [46]
  · have HD : Hid (Url.dots l = 1) := hd.trans (if_pos h1)
    have n1 : ((str (Url.undot (Asc.lower l))).toList == [46]) = true := eq_list h1
    clear h1 hd
    go_enter Tryz.func49, Tryz.ntmps49
    go_wp2_with (first
      | (go_at_call 36; refine (Lower_str l _ hz).mono ?_; rintro e w1 ⟨rfl, hb1⟩)
      | (go_at_call 46; refine (Replace_dots _ _ (hM.below hb1) (by omega)).mono ?_; rintro e w2 ⟨rfl, hb2⟩))
    go_ret
    exact ⟨by rw [HD.out]; rfl, bel hb1 hb2⟩
  · have n1 : ((str (Url.undot (Asc.lower l))).toList == [46]) = false := ne_list h1
    by_cases h2 : Url.undot (Asc.lower l) = [46, 46]
    · have HD : Hid (Url.dots l = 2) := hd.trans ((if_neg h1).trans (if_pos h2))
      have n2 : ((str (Url.undot (Asc.lower l))).toList == [46, 46]) = true := eq_list h2
      clear h1 h2 hd
      go_enter Tryz.func49, Tryz.ntmps49
      go_wp2_with (first
        | (go_at_call 36; refine (Lower_str l _ hz).mono ?_; rintro e w1 ⟨rfl, hb1⟩)
        | (go_at_call 46; refine (Replace_dots _ _ (hM.below hb1) (by omega)).mono ?_; rintro e w2 ⟨rfl, hb2⟩))
      go_ret
      exact ⟨by rw [HD.out]; rfl, bel hb1 hb2⟩
    · have HD : Hid (Url.dots l = 0) := hd.trans ((if_neg h1).trans (if_neg h2))
      have n2 : ((str (Url.undot (Asc.lower l))).toList == [46, 46]) = false := ne_list h2
      clear h1 h2 hd
      go_enter Tryz.func49, Tryz.ntmps49
      go_wp2_with (first
        | (go_at_call 36; refine (Lower_str l _ hz).mono ?_; rintro e w1 ⟨rfl, hb1⟩)
        | (go_at_call 46; refine (Replace_dots _ _ (hM.below hb1) (by omega)).mono ?_; rintro e w2 ⟨rfl, hb2⟩))
      go_ret
      exact ⟨by rw [HD.out]; rfl, bel hb1 hb2⟩
theorem OwnsTexts.form {w : World} {B : Nat} {v : Value} {ts : List (List UInt8)} (h : OwnsTexts w B v ts) : ∃ a c, v = .slice a ts.length c := by
  rcases h.2 with ⟨rfl, h0⟩ | ⟨g, cap, cur, rfl, _⟩
  · exact ⟨none, 0, by rw [h0]⟩
  · exact ⟨_, _, rfl⟩
theorem OwnsTexts.place {w : World} {B : Nat} {a : Option Addr} {n c : Nat} {ts : List (List UInt8)} (h : OwnsTexts w B (.slice a n c) ts) (hn : ts ≠ []) : ∃ g, a = some ⟨g, 0, none⟩ ∧ ts.length ≤ c := by
  rcases h.2 with ⟨_, h0⟩ | ⟨g, cap, cur, hv, _, _, hc, _⟩
  · exact absurd (List.eq_nil_of_length_eq_zero h0) hn
  · cases hv
    exact ⟨g, rfl, hc⟩
/-- A row without its last text. -/
theorem OwnsTexts.cut {w : World} {B g c n : Nat} {ts : List (List UInt8)} (h : OwnsTexts w B (.slice (some ⟨g, 0, none⟩) (n + 1) c) ts) (hn : ts.length = n + 1) : OwnsTexts w B (.slice (some ⟨g, 0, none⟩) n c) ts.dropLast := by
  have hl : ts.dropLast.length = n := by rw [List.length_dropLast]; omega
  refine ⟨by rw [List.length_map]; omega, .inr ?_⟩
  rcases h.2 with ⟨hv, _⟩ | ⟨g', cap, cur, hv, h1, h2, h3, h4, h5, h6⟩
  · cases hv
  · injection hv with e1 e2 e3
    injection e1 with e1
    injection e1 with e4
    subst e4 e3
    refine ⟨g, c, cur, by rw [hl], h1, h2, by omega, h4, h5, ?_⟩
    rw [hl]
    have e := congrArg (List.take (n * 1)) h6
    rw [List.take_take, Nat.min_eq_left (by omega)] at e
    rw [e, List.dropLast_eq_take, hn, Nat.add_sub_cancel, List.map_take, Nat.mul_one]
theorem Mark_str (l free : List UInt8) (w : World) (hs : l.length ≤ 1000000000) (hf : free.length ≤ 1000000000) :
    Calls Tryz.prog 48 #[.string (str l), .string (str free)] w fun e w' => e = .returned (.string (str (Pct.mark free l))) ∧ Below w.heap.size w w' := by
  have := Mark_any (str l) (str free) w (by rw [str_size]; exact hs) (by rw [str_size]; exact hf)
  rw [str_data, str_data] at this
  exact this
theorem Replace_slash (l : List UInt8) (w : World) (hM : MaxL w) (hz : l.length ≤ 1000000000) :
    Calls Tryz.prog 46 #[.string (str l), .string ⟨#[92]⟩, .string ⟨#[47]⟩] w fun e w' => e = .returned (.string (str (Pct.turned l 92 47))) ∧ Below w.heap.size w w' :=
  ReplaceAll_any 92 47 (by decide) l w hM (by omega)
theorem TrimPrefix_slash (l : List UInt8) (w : World) :
    Calls Tryz.prog 45 #[.string (str l), .string ⟨#[47]⟩] w fun e w' => e = .returned (.string (str (Lib.trimPrefix l [47]))) ∧ w' = w := by
  have := Tryz.strings_TrimPrefix (str l) ⟨#[47]⟩ w
  rw [str_data] at this
  exact this
theorem Split_slash (l : List UInt8) (w : World) (hz : l.length ≤ 1000000000) :
    Calls Tryz.prog 47 #[.string (str l), .int .u8 47] w fun e w' => ∃ v, e = .returned v ∧ OwnsTexts w' w.heap.size v (Asc.split l 47) ∧ Below w.heap.size w w' := by
  have := Split_any (str l) 47 w (by rw [str_size]; exact hz)
  rw [str_data] at this
  exact this
theorem trimP_len (l p : List UInt8) : (Lib.trimPrefix l p).length ≤ l.length := by
  unfold Lib.trimPrefix
  split
  · simp
  · exact Nat.le_refl _
theorem pstep_zero {ks : List (List UInt8)} {t : List UInt8} {b : Bool} (h : Url.dots t = 0) : Url.pstep ks t b = ks ++ [t] := if_pos h
theorem pstep_one {ks : List (List UInt8)} {t : List UInt8} {b : Bool} (h : Url.dots t = 1) : Url.pstep ks t b = ks ++ (if b = true then [[]] else []) := by
  unfold Url.pstep
  rw [h]
  rfl
theorem pstep_two {ks : List (List UInt8)} {t : List UInt8} {b : Bool} (h : Url.dots t = 2) : Url.pstep ks t b = ks.dropLast ++ (if b = true then [[]] else []) := by
  unfold Url.pstep
  rw [h]
  rfl
theorem dots_cases (t : List UInt8) : Url.dots t = 0 ∨ Url.dots t = 1 ∨ Url.dots t = 2 := by
  unfold Url.dots
  split <;> simp
set_option maxHeartbeats 4000000 in
set_option maxRecDepth 100000 in
theorem Path_any (l : List UInt8) (w : World) (hE : Env w) (hz : l.length ≤ 100000000) :
    Calls Tryz.prog 19 #[.string (str l)] w fun e w' => e = .returned (.string (str (Url.path l))) ∧ Below w.heap.size w w' := by
  obtain ⟨i0, hi, hz0, hz1, hz2⟩ := info_parts info9
  have htl := Pct.turned_len l 92 47
  have hpl := trimP_len (Pct.turned l 92 47) [47]
  have hml := Pct.mark_len Url.freeP (Lib.trimPrefix (Pct.turned l 92 47) [47])
  have hcnt := Url.pparts_count l
  have hne := Url.pparts_ne l
  have hks := Url.kept_size l
  have HP : Hid (∀ p ∈ Url.pparts l, p.length ≤ 3 * l.length) := fun p hp => Nat.le_trans (Asc.split_part 47 _ p hp) (by omega)
  have markc : ∀ W : World, Calls Tryz.prog 48 #[.string (str (Lib.trimPrefix (Pct.turned l 92 47) [47])), .string ⟨#[33, 36, 37, 38, 40, 41, 42, 43, 44, 47, 58, 59, 61, 64, 91, 92, 93, 94, 124, 39]⟩] W _ := fun W => Mark_str _ Url.freeP W (by omega) (by decide)
  have splitc : ∀ W : World, Calls Tryz.prog 47 #[.string (str (Pct.mark Url.freeP (Lib.trimPrefix (Pct.turned l 92 47) [47]))), .int .u8 47] W fun e w' => ∃ v, e = .returned v ∧ OwnsTexts w' W.heap.size v (Url.pparts l) ∧ Below W.heap.size W w' := fun W => Split_slash _ W (by omega)
  have HK : Hid (Url.path l = 47 :: Lib.join (Url.st (Url.pparts l) (Url.pparts l).length) [47] ∧ (Lib.join (Url.st (Url.pparts l) (Url.pparts l).length) [47]).length ≤ 6 * l.length + 1) := ⟨rfl, hks⟩
  generalize Url.pparts l = ps at hcnt hne HP splitc HK
  clear hks
  have HST := Url.st_len ps hne
  have HST : Hid _ := HST
  go_enter Tryz.func19, Tryz.ntmps19
  go_wp2_with (first
    | (go_at_call 46; refine (Replace_slash l _ hE.max (by omega)).mono ?_; rintro e w1 ⟨rfl, hb1⟩)
    | (go_at_call 45; refine (TrimPrefix_slash _ _).mono ?_; rintro e w2 ⟨rfl, hw2⟩; rw [hw2]; clear hw2)
    | (go_at_call 48; refine (markc _).mono ?_; rintro e w3 ⟨rfl, hb3⟩; have hb3' := bel hb1 hb3)
    | (go_at_call 47; refine (splitc _).mono ?_; rintro e w4 ⟨v, rfl, hown4, hb4⟩; have hb4' := bel hb3' hb4; have hrd := hown4.reads; clear hown4; obtain ⟨a1, c1, rfl⟩ := hrd.form))
  have HRD : Hid (ReadsTexts w4 (.slice a1 ps.length c1) ps) := hrd
  have hE4 := hE.below hb4'
  have hM4 := hE4.max
  have hn4 := hb4'.size
  clear hrd markc splitc hb4 hb3 hb1 hb3' htl hpl hml
  go_loopw [4, 16] (fun v i wr => ∃ k : Nat, k ≤ ps.length ∧ i = .int .i64 k ∧ OwnsTexts wr w4.heap.size v (Url.st ps k) ∧ Below w4.heap.size w4 wr) (fun _ i _ => ps.length - (intOf i).toNat)
  case atStart => exact ⟨0, Nat.zero_le _, rfl, by rw [Url.st_zero ps hne]; exact OwnsTexts.nil _ _, Below.refl _ _⟩
  case round =>
    obtain ⟨k, hk, rfl, hown, hbel⟩ := hrel
    by_cases hlt : k < ps.length
    · obtain ⟨t, ht⟩ : ∃ t, ps[k]? = some t := ⟨_, List.getElem?_eq_getElem hlt⟩
      obtain ⟨b, o, rfl, hc, hbl, h1⟩ := ReadsTexts.at HRD.out ht
      have g1 := (hbel.cell (p := ⟨b, o + k, none⟩) hbl).trans h1
      have htl := HP.out t (List.mem_of_getElem? ht)
      have hst := Url.st_next ps k hlt
      have hge : ps[k] = t := by
        rw [List.getElem?_eq_getElem hlt] at ht
        exact Option.some.inj ht
      rw [hge] at hst
      have hsl := HST.out k hk
      have hM := hM4.below hbel
      have hsz := hbel.size
      generalize hks : Url.st ps k = ks at hown hst hsl
      clear h1 hge ht hks
      have dcall : ∀ W : World, MaxL W → Calls Tryz.prog 49 #[.string (str t)] W _ := fun W h => dotsOf_any t W h (by omega)
      obtain ⟨va, vc, rfl⟩ := hown.form
      rcases dots_cases t with hd | hd | hd
      · rw [pstep_zero hd] at hst
        rw [hd] at dcall
        have HST2 : Hid _ := hst
        clear hst hd
        go_wp2_with (first
          | (go_at_call 49; refine (dcall _ hM).mono ?_; rintro e w5 ⟨rfl, hb5⟩; have hown5 : OwnsTexts w5 w4.heap.size _ ks := ownsRow_below hown hb5; have hb5' := hbel.trans (hb5.mono hsz); have hsz5 := hb5'.size)
          | (at_builtin; refine wpList_append_own _ rfl _ _ 61 rfl w4.heap.size 9 i0 (.string ByteArray.empty) 1 16 Tryz.underlying61 hi hz0 hz1 hz2 rfl (by decide) _ _ _ rfl (World.ownsRow.alloc hown5 _) ⟨w5.heap.size, 0, none⟩ 1 1 [.string (str t)] rfl rfl (cell_one_new _ _ _) (fun x hx => by simp at hx; subst hx; rfl) (by unfold maxLen; omega) (by omega) (by simp; omega) ?_; intro v' w6 hown' hgrow hnil))
        go_roundw
        case rel => exact ⟨k + 1, by omega, by go_num, OwnsTexts.of HST2.out rfl hown', (hb5'.alloc hsz5 _).grown hgrow (by simp; omega) (fun q hq => (World.ownsRow.lt hown5 q hq).1)⟩
        case measure => simp [intOf]; omega
      · rw [pstep_one hd] at hst
        rw [hd] at dcall
        clear hd
        by_cases hlast : k + 1 = ps.length
        · rw [decide_eq_true hlast, if_pos rfl] at hst
          have HST2 : Hid _ := hst
          have hq : ((k : Int) == (ps.length : Int) - 1) = true := by rw [beq_iff_eq]; omega
          clear hst
          have hlast2 : Hid _ := hlast
          clear hlast
          go_wp2_with (first
            | (go_at_call 49; refine (dcall _ hM).mono ?_; rintro e w5 ⟨rfl, hb5⟩; have hown5 : OwnsTexts w5 w4.heap.size _ ks := ownsRow_below hown hb5; have hb5' := hbel.trans (hb5.mono hsz); have hsz5 := hb5'.size)
            | (at_builtin; refine wpList_append_own _ rfl _ _ 61 rfl w4.heap.size 9 i0 (.string ByteArray.empty) 1 16 Tryz.underlying61 hi hz0 hz1 hz2 rfl (by decide) _ _ _ rfl (World.ownsRow.alloc hown5 _) ⟨w5.heap.size, 0, none⟩ 1 1 [.string (str [])] rfl rfl (cell_one_new _ _ _) (fun x hx => by simp at hx; subst hx; rfl) (by unfold maxLen; omega) (by omega) (by simp; omega) ?_; intro v' w6 hown' hgrow hnil))
          go_roundw
          case rel => exact ⟨k + 1, by omega, by go_num, OwnsTexts.of HST2.out rfl hown', (hb5'.alloc hsz5 _).grown hgrow (by simp; omega) (fun q hq => (World.ownsRow.lt hown5 q hq).1)⟩
          case measure => simp [intOf]; omega
        · rw [decide_eq_false hlast, if_neg (by decide), List.append_nil] at hst
          have HST2 : Hid _ := hst
          have hq : ((k : Int) == (ps.length : Int) - 1) = false := by rw [beq_eq_false_iff_ne]; omega
          clear hst
          go_wp2_with (first
            | (go_at_call 49; refine (dcall _ hM).mono ?_; rintro e w5 ⟨rfl, hb5⟩; have hown5 : OwnsTexts w5 w4.heap.size _ ks := ownsRow_below hown hb5; have hb5' := hbel.trans (hb5.mono hsz); have hsz5 := hb5'.size))
          go_roundw
          case rel => exact ⟨k + 1, by omega, by go_num, by rw [HST2.out]; exact hown5, hb5'⟩
          case measure => simp [intOf]; omega
      · rw [pstep_two hd] at hst
        rw [hd] at dcall
        clear hd
        by_cases hemp : ks = []
        · subst hemp
          rw [List.dropLast_nil, List.nil_append] at hst
          by_cases hlast : k + 1 = ps.length
          · rw [decide_eq_true hlast, if_pos rfl] at hst
            have HST2 : Hid _ := hst
            have hq : ((k : Int) == (ps.length : Int) - 1) = true := by rw [beq_iff_eq]; omega
            clear hst
            have hlast2 : Hid _ := hlast
            clear hlast
            go_wp2_with (first
              | (go_at_call 49; refine (dcall _ hM).mono ?_; rintro e w5 ⟨rfl, hb5⟩; have hown5 : OwnsTexts w5 w4.heap.size _ [] := ownsRow_below hown hb5; have hb5' := hbel.trans (hb5.mono hsz); have hsz5 := hb5'.size)
              | (at_builtin; refine wpList_append_own _ rfl _ _ 61 rfl w4.heap.size 9 i0 (.string ByteArray.empty) 1 16 Tryz.underlying61 hi hz0 hz1 hz2 rfl (by decide) _ _ _ rfl (World.ownsRow.alloc hown5 _) ⟨w5.heap.size, 0, none⟩ 1 1 [.string (str [])] rfl rfl (cell_one_new _ _ _) (fun x hx => by simp at hx; subst hx; rfl) (by unfold maxLen; omega) (by omega) (by simp; omega) ?_; intro v' w6 hown' hgrow hnil))
            go_roundw
            case rel => exact ⟨k + 1, by omega, by go_num, OwnsTexts.of (ts := []) HST2.out rfl hown', (hb5'.alloc hsz5 _).grown hgrow (by simp; omega) (fun q hq => (World.ownsRow.lt hown5 q hq).1)⟩
            case measure => simp [intOf]; omega
          · rw [decide_eq_false hlast, if_neg (by decide)] at hst
            have HST2 : Hid _ := hst
            have hq : ((k : Int) == (ps.length : Int) - 1) = false := by rw [beq_eq_false_iff_ne]; omega
            clear hst
            go_wp2_with (first
              | (go_at_call 49; refine (dcall _ hM).mono ?_; rintro e w5 ⟨rfl, hb5⟩; have hown5 : OwnsTexts w5 w4.heap.size _ [] := ownsRow_below hown hb5; have hb5' := hbel.trans (hb5.mono hsz); have hsz5 := hb5'.size))
            go_roundw
            case rel => exact ⟨k + 1, by omega, by go_num, by rw [HST2.out]; exact hown5, hb5'⟩
            case measure => simp [intOf]; omega
        · obtain ⟨g, rfl, hvc⟩ := hown.place hemp
          obtain ⟨n, hn⟩ : ∃ n, ks.length = n + 1 := ⟨ks.length - 1, by have := List.length_pos_iff.2 hemp; omega⟩
          rw [hn] at hown hvc ⊢
          have hcut := hown.cut hn
          have hnc : (n : Int) ≤ (vc : Int) := by omega
          have hdl : ks.dropLast.length = n := by rw [List.length_dropLast]; omega
          generalize hkd : ks.dropLast = kd at hst hcut hdl
          clear hkd hemp hown
          subst hdl
          by_cases hlast : k + 1 = ps.length
          · rw [decide_eq_true hlast, if_pos rfl] at hst
            have HST2 : Hid _ := hst
            have hq : ((k : Int) == (ps.length : Int) - 1) = true := by rw [beq_iff_eq]; omega
            clear hst
            have hlast2 : Hid _ := hlast
            clear hlast
            go_wp2_with (first
              | (go_at_call 49; refine (dcall _ hM).mono ?_; rintro e w5 ⟨rfl, hb5⟩; have hown5 : OwnsTexts w5 w4.heap.size _ kd := ownsRow_below hcut hb5; have hb5' := hbel.trans (hb5.mono hsz); have hsz5 := hb5'.size)
              | (at_builtin; refine wpList_append_own _ rfl _ _ 61 rfl w4.heap.size 9 i0 (.string ByteArray.empty) 1 16 Tryz.underlying61 hi hz0 hz1 hz2 rfl (by decide) _ _ _ rfl (World.ownsRow.alloc hown5 _) ⟨w5.heap.size, 0, none⟩ 1 1 [.string (str [])] rfl rfl (cell_one_new _ _ _) (fun x hx => by simp at hx; subst hx; rfl) (by unfold maxLen; omega) (by omega) (by simp; omega) ?_; intro v' w6 hown' hgrow hnil))
            go_roundw
            case rel => exact ⟨k + 1, by omega, by go_num, OwnsTexts.of HST2.out rfl hown', (hb5'.alloc hsz5 _).grown hgrow (by simp; omega) (fun q hq => (World.ownsRow.lt hown5 q hq).1)⟩
            case measure => simp [intOf]; omega
          · rw [decide_eq_false hlast, if_neg (by decide), List.append_nil] at hst
            have HST2 : Hid _ := hst
            have hq : ((k : Int) == (ps.length : Int) - 1) = false := by rw [beq_eq_false_iff_ne]; omega
            clear hst
            go_wp2_with (first
              | (go_at_call 49; refine (dcall _ hM).mono ?_; rintro e w5 ⟨rfl, hb5⟩; have hown5 : OwnsTexts w5 w4.heap.size _ kd := ownsRow_below hcut hb5; have hb5' := hbel.trans (hb5.mono hsz); have hsz5 := hb5'.size))
            go_roundw
            case rel => exact ⟨k + 1, by omega, by go_num, by rw [HST2.out]; exact hown5, hb5'⟩
            case measure => simp [intOf]; omega
    · obtain rfl : k = ps.length := by omega
      have hsl := HST.out _ (Nat.le_refl _)
      generalize Url.st ps ps.length = ks at hown HK hsl
      have hrd := hown.reads
      have hkl := HK.out.2
      have joinc : Calls Tryz.prog 50 #[.string ⟨#[47]⟩, _] wr fun e w' => e = .returned (.string (str (Lib.join ks [47]))) ∧ Below wr.heap.size wr w' := Join_any ⟨#[47]⟩ _ ks wr hrd (by omega) (Nat.le_trans hkl (by omega))
      have hadd : (⟨#[47]⟩ : ByteArray) ++ str (Lib.join ks [47]) = str (Url.path l) := by
        rw [HK.out.1]
        exact str_add [47] _
      have hjs := str_size (Lib.join ks [47])
      go_wp2_with (go_at_call 50; refine joinc.mono ?_; rintro e w5 ⟨rfl, hb5⟩)
      go_ret
      exact ⟨rfl, hb4'.trans ((hbel.trans (hb5.mono hbel.size)).mono hn4)⟩
end Go.Proofs.YtlkhjloeonbjaaaGreatDoor
