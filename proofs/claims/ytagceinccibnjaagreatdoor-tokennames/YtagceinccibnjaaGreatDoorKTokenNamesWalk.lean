/- The walk of the law TokenNames, out of the contracts. -/
import Derived.Test.YtagceinccibnjaaGreatDoorKTkY
set_option linter.unusedVariables false
set_option linter.unusedSimpArgs false
namespace Go.Proofs.YtagceinccibnjaaGreatDoor.tokenNames
open Go.RowKit
theorem beq_two (a b : List UInt8) (h : a ≠ b) : ((str a).toList == (str b).toList) = false := str_beq_no h
/-- What a token's attributes are for the law. -/
def AtsOK (ats : List Pr) : Prop := ats.length ≤ 64 ∧ ats.Pairwise (fun a b => a.1 ≠ b.1) ∧ ∀ a ∈ ats, Tk.NameOK a.1 ∧ Utf.isText a.2 = true ∧ a.1.length ≤ 13500 ∧ a.2.length ≤ 13500
theorem ats_ok (k : Tk.Tok) (hf : Tk.Fine k) (ht : Tk.TextT k) (hz : Tk.Wz 13500 k) : AtsOK k.attrs := by
  have hs := hz.sz.2.1
  rcases hf with ⟨_, _, h, _⟩ | ⟨_, _, h, _⟩ | ⟨_, _, h, _⟩ | ⟨_, _, h, _⟩
  · exact ⟨h.1, h.2.1, fun a ha => ⟨Tk.goodN_ok _ (h.2.2 a ha) (ht.2.1 a ha).1, (ht.2.1 a ha).2, (hs a ha).1, (hs a ha).2⟩⟩
  all_goals
    rw [h]
    exact ⟨by simp, List.Pairwise.nil, by simp⟩
theorem pair_ne {ats : List Pr} (h : ats.Pairwise (fun a b => a.1 ≠ b.1)) {i j : Nat} (hi : i < j) (hj : j < ats.length) : ats[j].1 ≠ ats[i].1 := fun e => (List.pairwise_iff_getElem.1 h) i j (by omega) hj hi e.symm
set_option maxHeartbeats 4000000 in
set_option maxRecDepth 100000 in
theorem walk (a0 : ByteArray) (w : World) (h0 : a0.size ≤ 140737488351232) (hT : EnvT w) :
    Calls Tryz.prog 8 #[.string a0] w fun e w' => e = .returned (.bool true) ∧ Below w.heap.size w w' := by
  have HT : Hid (EnvT w) := hT
  clear hT
  obtain ⟨l, rfl⟩ : ∃ l, a0 = str l := ⟨_, (str_self a0).symm⟩
  have hL := long12_any l
  by_cases hl : 1500 < l.length ∧ l.length ≤ 65536
  · rw [longT_yes hl] at hL
    clear hl
    go_enter Tryz.func8, Tryz.ntmps8
    go_wp2_with (first
      | (go_at_call 9; refine (hL _).mono ?_; rintro e w1 ⟨rfl, hw⟩; rw [hw]; clear hw)
      | (go_at_call 10; refine (alive12_any _ HT.out).mono ?_; rintro e w2 ⟨rfl, hb2⟩))
    go_ret
    exact ⟨rfl, hb2⟩
  · rw [longT_no hl] at hL
    have hA := All_any l w HT.out
    obtain ⟨ks, ee, hR, hkl, hP⟩ : ∃ ks ee, allR l = (ks, ee) ∧ ks.length ≤ 13500 ∧ ∀ k ∈ ks, Tk.Fine k ∧ Tk.TextT k ∧ Tk.Wz 13500 k := by
      by_cases h65 : 65536 < l.length
      · exact ⟨[], 5, allR_long l h65, Nat.zero_le _, by simp⟩
      · obtain ⟨hR, hkl, hcl⟩ := allR_short l (by omega)
        exact ⟨_, 0, hR, hkl, fun k hk => ⟨Tk.all_fine _ k hk, Tk.all_text _ (Tk.clean_text l) k hk, (Tk.all_size _ k hk).mono hcl⟩⟩
    rw [hR] at hA
    have HP := hideQ hP
    clear hl hR hP
    go_enter Tryz.func8, Tryz.ntmps8
    go_wp2_with (first
      | (go_at_call 9; refine (hL _).mono ?_; rintro e w1 ⟨rfl, hw⟩; rw [hw]; clear hw)
      | (go_at_call 11; refine hA.mono ?_; rintro e w1 ⟨ad, ln, cp, rfl, hK, hb1⟩; obtain ⟨a1, c1, e1⟩ := hK.form; cases e1; have HK := hideQ hK; have HB1 := hideQ hb1; clear hK hb1))
    clear hL hA
    go_loopw [23] (fun i wr => ∃ j : Nat, i = .int .i64 j ∧ j ≤ ks.length ∧ Below w1.heap.size w1 wr) (fun i _ => ks.length - (intOf i).toNat)
    case atStart => exact ⟨0, rfl, Nat.zero_le _, Below.refl _ _⟩
    case round =>
      obtain ⟨j, rfl, hj, hB⟩ := hrel
      rename World => V1
      have HB := hideQ hB
      clear hB
      have HE := hideQ ((HT.out.below HB1.out).below HB.out)
      by_cases hjl : j < ks.length
      · have hat : ks[j]? = some ks[j] := List.getElem?_eq_getElem hjl
        obtain ⟨hf, htx, hwz⟩ := HP.out _ (List.getElem_mem hjl)
        have hats := ats_ok _ hf htx hwz
        have hsz := hwz.sz
        obtain ⟨g, ua, ul, uc, rfl, hg, hc, r0, o0⟩ := (HK.out.below HB.out).range hat
        have hname : (ks[j].kind = 1 ∨ ks[j].kind = 2) → Tk.NameOK ks[j].name := by
          intro h
          rcases hf with h1 | h1 | h1 | h1
          · exact Tk.goodT_ok _ h1.2.1 htx.1
          · exact Tk.goodT_ok _ h1.2.1 htx.1
          · omega
          · omega
        have hkind : ks[j].kind = 1 ∨ (ks[j].kind = 2 ∧ ks[j].attrs = [] ∧ ks[j].self = false) ∨ (ks[j].kind = 3 ∧ ks[j].name = [] ∧ ks[j].attrs = [] ∧ ks[j].self = false ∧ ks[j].text ≠ []) ∨ (ks[j].kind = 4 ∧ ks[j].name = [] ∧ ks[j].attrs = [] ∧ ks[j].self = false) ∨ (ks[j].kind = 5 ∧ ks[j].name = [] ∧ ks[j].attrs = [] ∧ ks[j].self = false) := by
          rcases hf with h | h | h | h
          · exact .inl h.1
          · exact .inr (.inl ⟨h.1, h.2.2.1, h.2.2.2.1⟩)
          · exact .inr (.inr (.inl ⟨h.1, h.2.1, h.2.2.1, h.2.2.2.1, h.2.2.2.2⟩))
          · rcases h.1 with h2 | h2
            · exact .inr (.inr (.inr (.inl ⟨h2, h.2.1, h.2.2.1, h.2.2.2⟩)))
            · exact .inr (.inr (.inr (.inr ⟨h2, h.2.1, h.2.2.1, h.2.2.2⟩)))
        have htext := htx.2.2
        have htl := hsz.2.2
        have hnl := hsz.1
        clear hf htx hwz hsz hat
        generalize ks[j] = k at *
        obtain ⟨kk, kn, ka, ksf, kx⟩ := k
        simp only at hats hname hkind htext htl hnl r0 o0
        have HATS := hideQ hats
        have hal := hats.1
        have or0 := o0.reads
        obtain ⟨xa, xc, e3⟩ := or0.form
        cases e3
        have HR := hideQ r0
        have hb5 : Below V1.heap.size V1 (V1.alloc (.cells (kCells kk kn (.slice ua ka.length uc) ksf kx) 37)) := (Below.refl _ _).alloc (Nat.le_refl _) _
        have T5 : KAt (V1.alloc (.cells (kCells kk kn (.slice ua ka.length uc) ksf kx) 37)) V1.heap.size (kCells kk kn (.slice ua ka.length uc) ksf kx) := heap_new V1 _
        have HT5 := hideQ T5
        have OR5 := hideQ (or0.below hb5)
        have HB5 := hideQ (bel HB.out hb5)
        have HE5 := hideQ (HE.out.below hb5)
        have hI : ∀ W, Calls Tryz.prog 27 #[.string (str kx)] W fun e w' => e = .returned (.bool true) ∧ ∃ n, w' = W.drewN n := fun W => by
          have := RIsText_any kx W (by omega)
          rw [htext] at this
          exact this
        have HI := hideQ hI
        clear r0 o0 T5 or0 hb5 hats htext hI
        rcases hkind with hk | ⟨hk, h2, h3⟩ | ⟨hk, h1, h2, h3, h4⟩ | ⟨hk, h1, h2, h3⟩ | ⟨hk, h1, h2, h3⟩
        · skip
          subst hk
          have hno := hname (by omega)
          have hne := isEmpty_no hno.1
          have HNF := hideQ (fun W => nameFn_any kn W hno (by omega))
          clear hno hname
          have hal0 : (ka.length : Int) ≤ 64 := by omega
          go_wp2_with (first
            | ((with_reducible show wpList _ _ _ ({ op := Op.load 37 _, .. } :: _) _ _); refine wpList_load_Tg (by rfl) _ rfl g (j * 5) rfl _ _ _ _ _ HR.out ?_)
            | (go_at_call 24; refine (HNF.out _).mono ?_; rintro e w7 ⟨rfl, hb7⟩; have T7 := HT5.out.step hb7; have HT7 := hideQ T7; have d0 := Lib.cell_of_heap T7 0; have d2 := Lib.cell_of_heap T7 2; have d3 := Lib.cell_of_heap T7 3; have d4 := Lib.cell_of_heap T7 4; have OR7 := hideQ (OR5.out.below hb7); have HB7 := hideQ (bel HB5.out hb7); clear T7 hb7)
            | (go_at_call 27; refine (HI.out _).mono ?_; rintro e w8 ⟨rfl, hq8⟩; have hb8 := bel_quiet hq8; have T8 := HT7.out.step hb8; have HT8 := hideQ T8; have f0 := Lib.cell_of_heap T8 0; have f2 := Lib.cell_of_heap T8 2; have f3 := Lib.cell_of_heap T8 3; have f4 := Lib.cell_of_heap T8 4; have OR8 := hideQ (OR7.out.below hb8); have HB8 := hideQ (bel HB7.out hb8); clear T8 hb8 hq8 d0 d2 d3 d4))
          clear HI
          go_loopw [90] (fun i wr2 => ∃ m : Nat, i = .int .i64 m ∧ m ≤ ka.length ∧ Below w8.heap.size w8 wr2) (fun i _ => ka.length - (intOf i).toNat)
          case atStart => exact ⟨0, rfl, Nat.zero_le _, Below.refl _ _⟩
          case round =>
            obtain ⟨m, rfl, hm, hB9⟩ := hrel
            rename World => V2
            have HB9 := hideQ hB9
            clear hB9
            by_cases hml : m < ka.length
            · have hatm : ka[m]? = some ka[m] := List.getElem?_eq_getElem hml
              obtain ⟨pb, po, rfl, hpc, hpl, p1, p2⟩ := (OR8.out.below HB9.out).at hatm
              obtain ⟨hm1, hm2, hm3, hm4⟩ := HATS.out.2.2 _ (List.getElem_mem hml)
              have HPW := hideQ (fun i (hi : i < m) => pair_ne HATS.out.2.1 hi hml)
              have HNM := hideQ (fun W => nameFn_any ka[m].1 W hm1 (by omega))
              have hI9 : ∀ W, Calls Tryz.prog 27 #[.string (str ka[m].2)] W fun e w' => e = .returned (.bool true) ∧ ∃ n, w' = W.drewN n := fun W => by
                have := RIsText_any ka[m].2 W (by omega)
                rw [hm2] at this
                exact this
              have HI9 := hideQ hI9
              have T9 := HT8.out.step HB9.out
              have hb10 : Below V2.heap.size V2 (V2.alloc (.cells #[.string (str ka[m].1), .string (str ka[m].2)] 49)) := (Below.refl _ _).alloc (Nat.le_refl _) _
              have A10 : (V2.alloc (.cells #[.string (str ka[m].1), .string (str ka[m].2)] 49)).heap[V2.heap.size]? = some (.cells #[.string (str ka[m].1), .string (str ka[m].2)] 49 (0, 0)) := heap_new V2 _
              have HA10 := hideQ A10
              have HB10 := hideQ (bel HB9.out hb10)
              have HT10 := hideQ (T9.step hb10)
              have OR10 := hideQ ((OR8.out.below HB9.out).below hb10)
              clear hm1 hm2 hm3 hm4 hI9 T9 hb10 A10 hatm
              generalize ka[m] = p at *
              go_wp2_with (first
                | (go_at_call 24; refine (HNM.out _).mono ?_; rintro e w11 ⟨rfl, hb11⟩; have A11 := (hb11.block _ (Array.getElem?_eq_some_iff.1 HA10.out).1).trans HA10.out; have c11 := Lib.cell_of_heap A11 1; have HA11 := hideQ A11; have HT11 := hideQ (HT10.out.step hb11); have OR11 := hideQ (OR10.out.below hb11); have HB11 := hideQ (bel HB10.out hb11); clear A11 hb11)
                | (go_at_call 27; refine (HI9.out _).mono ?_; rintro e w12 ⟨rfl, hq12⟩; have hb12 := bel_quiet hq12; have A12 := (hb12.block _ (Array.getElem?_eq_some_iff.1 HA11.out).1).trans HA11.out; have T12 := HT11.out.step hb12; have c12 : w12.cell? ⟨V1.heap.size, 2, none⟩ = some (.slice (some ⟨pb, po, none⟩) ka.length uc) := Lib.cell_of_heap T12 2; have HA12 := hideQ A12; have OR12 := hideQ (OR11.out.below hb12); have HB12 := hideQ (bel HB11.out hb12); clear A12 T12 hb12 hq12 c11))
              go_loopw [111] (fun i wr3 => ∃ q : Nat, i = .int .i64 q ∧ q ≤ m ∧ Below w12.heap.size w12 wr3) (fun i _ => m - (intOf i).toNat)
              case atStart => exact ⟨0, rfl, Nat.zero_le _, Below.refl _ _⟩
              case round =>
                obtain ⟨q, rfl, hq, hB13⟩ := hrel
                rename World => V3
                have HB13 := hideQ hB13
                clear hB13
                by_cases hqm : q < m
                · have hatq : ka[q]? = some ka[q] := List.getElem?_eq_getElem (by omega)
                  obtain ⟨pb', po', e4, -, -, z1, z2⟩ := (OR12.out.below HB13.out).at hatq
                  cases e4
                  have hnq := str_beq_no (HPW.out q hqm)
                  have A13 := (HB13.out.block _ (Array.getElem?_eq_some_iff.1 HA12.out).1).trans HA12.out
                  have c13 := Lib.cell_of_heap A13 0
                  have hlt13 : V2.heap.size < V3.heap.size := (Array.getElem?_eq_some_iff.1 A13).1
                  have hb14 : Below V3.heap.size V3 (V3.alloc (.cells #[.string (str ka[q].1), .string (str ka[q].2)] 49)) := (Below.refl _ _).alloc (Nat.le_refl _) _
                  have c14 : (V3.alloc (.cells #[.string (str ka[q].1), .string (str ka[q].2)] 49)).cell? ⟨V2.heap.size, 0, none⟩ = some (.string (str p.1)) := (hb14.cell (p := ⟨V2.heap.size, 0, none⟩) hlt13).trans c13
                  have HB14 := hideQ (bel HB13.out hb14)
                  clear hatq A13 hb14
                  generalize ka[q] = r at *
                  go_wp2
                  go_roundw
                  case rel => exact ⟨q + 1, by go_num, by omega, HB14.out⟩
                  case measure => simp [intOf]; omega
                · go_wp2
                  go_roundw
                  case rel => exact ⟨m + 1, by go_num, by omega, bel HB12.out HB13.out⟩
                  case measure => simp [intOf]; omega
            · go_wp2
              go_roundw
              case rel => exact ⟨j + 1, by go_num, by omega, bel HB8.out HB9.out⟩
              case measure => simp [intOf]; omega
        · subst h2 h3
          subst hk
          have hno := hname (by omega)
          have hne := isEmpty_no hno.1
          have HNF := hideQ (fun W => nameFn_any kn W hno (by omega))
          clear hno hname
          have hal0 : (0 : Int) ≤ 64 := by omega
          go_wp2_with (first
            | ((with_reducible show wpList _ _ _ ({ op := Op.load 37 _, .. } :: _) _ _); refine wpList_load_Tg (by rfl) _ rfl g (j * 5) rfl _ _ _ _ _ HR.out ?_)
            | (go_at_call 24; refine (HNF.out _).mono ?_; rintro e w7 ⟨rfl, hb7⟩; have T7 := HT5.out.step hb7; have HT7 := hideQ T7; have d0 := Lib.cell_of_heap T7 0; have d2 := Lib.cell_of_heap T7 2; have d3 := Lib.cell_of_heap T7 3; have d4 := Lib.cell_of_heap T7 4; have OR7 := hideQ (OR5.out.below hb7); have HB7 := hideQ (bel HB5.out hb7); clear T7 hb7)
            | (go_at_call 27; refine (HI.out _).mono ?_; rintro e w8 ⟨rfl, hq8⟩; have hb8 := bel_quiet hq8; have T8 := HT7.out.step hb8; have HT8 := hideQ T8; have f0 := Lib.cell_of_heap T8 0; have f2 := Lib.cell_of_heap T8 2; have f3 := Lib.cell_of_heap T8 3; have f4 := Lib.cell_of_heap T8 4; have OR8 := hideQ (OR7.out.below hb8); have HB8 := hideQ (bel HB7.out hb8); clear T8 hb8 hq8 d0 d2 d3 d4))
          go_loopw [90] (fun i wr2 => i = .int .i64 0 ∧ wr2 = w8) (fun i _ => 0)
          case atStart => exact ⟨rfl, rfl⟩
          case round =>
            obtain ⟨rfl, he⟩ := hrel
            replace he := he.symm
            subst he
            go_wp2
            go_roundw
            case rel => exact ⟨j + 1, by go_num, by omega, HB8.out⟩
            case measure => simp [intOf]; omega
        · subst h1 h2 h3
          subst hk
          have hne : ((str ([] : List UInt8)).toList.isEmpty) = true := by rw [str_list]; rfl
          clear hname
          have hnx := isEmpty_no h4
          clear h4
          have hal0 : (0 : Int) ≤ 64 := by omega
          go_wp2_with (first
            | ((with_reducible show wpList _ _ _ ({ op := Op.load 37 _, .. } :: _) _ _); refine wpList_load_Tg (by rfl) _ rfl g (j * 5) rfl _ _ _ _ _ HR.out ?_)
            | (go_at_call 27; refine (HI.out _).mono ?_; rintro e w8 ⟨rfl, hq8⟩; have hb8 := bel_quiet hq8; have T8 := HT5.out.step hb8; have HT8 := hideQ T8; have f0 := Lib.cell_of_heap T8 0; have f2 := Lib.cell_of_heap T8 2; have f3 := Lib.cell_of_heap T8 3; have f4 := Lib.cell_of_heap T8 4; have OR8 := hideQ (OR5.out.below hb8); have HB8 := hideQ (bel HB5.out hb8); clear T8 hb8 hq8))
          go_loopw [90] (fun i wr2 => i = .int .i64 0 ∧ wr2 = w8) (fun i _ => 0)
          case atStart => exact ⟨rfl, rfl⟩
          case round =>
            obtain ⟨rfl, he⟩ := hrel
            replace he := he.symm
            subst he
            go_wp2
            go_roundw
            case rel => exact ⟨j + 1, by go_num, by omega, HB8.out⟩
            case measure => simp [intOf]; omega
        · subst h1 h2 h3
          subst hk
          have hne : ((str ([] : List UInt8)).toList.isEmpty) = true := by rw [str_list]; rfl
          clear hname
          have hal0 : (0 : Int) ≤ 64 := by omega
          go_wp2_with (first
            | ((with_reducible show wpList _ _ _ ({ op := Op.load 37 _, .. } :: _) _ _); refine wpList_load_Tg (by rfl) _ rfl g (j * 5) rfl _ _ _ _ _ HR.out ?_)
            | (go_at_call 27; refine (HI.out _).mono ?_; rintro e w8 ⟨rfl, hq8⟩; have hb8 := bel_quiet hq8; have T8 := HT5.out.step hb8; have HT8 := hideQ T8; have f0 := Lib.cell_of_heap T8 0; have f2 := Lib.cell_of_heap T8 2; have f3 := Lib.cell_of_heap T8 3; have f4 := Lib.cell_of_heap T8 4; have OR8 := hideQ (OR5.out.below hb8); have HB8 := hideQ (bel HB5.out hb8); clear T8 hb8 hq8))
          go_loopw [90] (fun i wr2 => i = .int .i64 0 ∧ wr2 = w8) (fun i _ => 0)
          case atStart => exact ⟨rfl, rfl⟩
          case round =>
            obtain ⟨rfl, he⟩ := hrel
            replace he := he.symm
            subst he
            go_wp2
            go_roundw
            case rel => exact ⟨j + 1, by go_num, by omega, HB8.out⟩
            case measure => simp [intOf]; omega
        · subst h1 h2 h3
          subst hk
          have hne : ((str ([] : List UInt8)).toList.isEmpty) = true := by rw [str_list]; rfl
          clear hname
          have hal0 : (0 : Int) ≤ 64 := by omega
          go_wp2_with (first
            | ((with_reducible show wpList _ _ _ ({ op := Op.load 37 _, .. } :: _) _ _); refine wpList_load_Tg (by rfl) _ rfl g (j * 5) rfl _ _ _ _ _ HR.out ?_)
            | (go_at_call 27; refine (HI.out _).mono ?_; rintro e w8 ⟨rfl, hq8⟩; have hb8 := bel_quiet hq8; have T8 := HT5.out.step hb8; have HT8 := hideQ T8; have f0 := Lib.cell_of_heap T8 0; have f2 := Lib.cell_of_heap T8 2; have f3 := Lib.cell_of_heap T8 3; have f4 := Lib.cell_of_heap T8 4; have OR8 := hideQ (OR5.out.below hb8); have HB8 := hideQ (bel HB5.out hb8); clear T8 hb8 hq8))
          go_loopw [90] (fun i wr2 => i = .int .i64 0 ∧ wr2 = w8) (fun i _ => 0)
          case atStart => exact ⟨rfl, rfl⟩
          case round =>
            obtain ⟨rfl, he⟩ := hrel
            replace he := he.symm
            subst he
            go_wp2
            go_roundw
            case rel => exact ⟨j + 1, by go_num, by omega, HB8.out⟩
            case measure => simp [intOf]; omega
      · go_wp2_with (go_at_call 10; refine (alive12_any _ HE.out).mono ?_; rintro e w9 ⟨rfl, hb9⟩)
        go_ret
        exact ⟨rfl, bel (bel HB1.out HB.out) hb9⟩
end Go.Proofs.YtagceinccibnjaaGreatDoor.tokenNames
