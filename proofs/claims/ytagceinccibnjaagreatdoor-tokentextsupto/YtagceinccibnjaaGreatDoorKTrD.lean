/- The contract of the reference's tag. -/
import Derived.Test.YtagceinccibnjaaGreatDoorKTrC
set_option linter.unusedVariables false
set_option linter.unusedSimpArgs false
namespace Go.Proofs.YtagceinccibnjaaGreatDoor
open Go.RowKit
/-- Where a tag ends; 0: it does not. -/
def tagN (S : List UInt8) (n : Nat) : Nat := match Tk.tag (S.drop n) with
  | none => 0
  | some x => S.length - x.2.length
def RTagPost (S : List UInt8) (n : Nat) (w : World) (e : Ending) (w' : World) : Prop :=
  ∃ ad ln cp, e = .returned (.tuple #[tokV (tagP (S.drop n)).1 (.slice ad ln cp), .int .i64 (tagN S n)]) ∧ OwnsA w' w.heap.size (.slice ad ln cp) (tagP (S.drop n)).1.attrs ∧ Below w.heap.size w w'
theorem tag_none (S : List UInt8) (n : Nat) (h : Tk.tg ((S.drop n).dropWhile Tk.tn) [] false = none) : tagP (S.drop n) = (Tk.zero, []) ∧ tagN S n = 0 := by
  unfold tagP tagN Tk.tag
  rw [h]
  exact ⟨rfl, rfl⟩
theorem tag_some (S : List UInt8) (n k : Nat) (ats : List Pr) (sl : Bool) (hk : k < S.length) (h : Tk.tg ((S.drop n).dropWhile Tk.tn) [] false = some (ats, sl, S.drop (k + 1))) : tagP (S.drop n) = (⟨1, Asc.lower ((S.drop n).takeWhile Tk.tn), ats, sl, []⟩, S.drop (k + 1)) ∧ tagN S n = k + 1 := by
  unfold tagP tagN Tk.tag
  rw [h]
  refine ⟨rfl, ?_⟩
  show S.length - (S.drop (k + 1)).length = _
  rw [List.length_drop]
  omega
theorem RAt12.set {w : World} {b : Nat} {x0 x1 x2 x3 x4 : Value} (h : RAt12 w b #[x0, x1, x2, x3, x4]) (z : Value) : RAt12 (w.setCell ⟨b, 2, none⟩ z) b #[x0, x1, z, x3, x4] := Go.Joins.block_setCell h z
theorem RAt12.set3 {w : World} {b : Nat} {x0 x1 x2 x3 x4 : Value} (h : RAt12 w b #[x0, x1, x2, x3, x4]) (z : Value) : RAt12 (w.setCell ⟨b, 3, none⟩ z) b #[x0, x1, x2, z, x4] := Go.Joins.block_setCell h z
theorem add_yes (ats : List Pr) (a : Pr) (h : Tk.has ats a.1 = false) (h2 : ats.length < 64) : Tk.add ats a = ats ++ [a] := if_pos ⟨h, h2⟩
theorem add_has (ats : List Pr) (a : Pr) (h : Tk.has ats a.1 = true) : Tk.add ats a = ats := if_neg (by rw [h]; simp)
theorem add_full (ats : List Pr) (a : Pr) (h2 : ¬ ats.length < 64) : Tk.add ats a = ats := if_neg (by omega)
abbrev kC (x : List UInt8) (v : Value) (sl : Bool) : Array Value := #[.int .i64 1, .string (str x), v, .bool sl, .string ByteArray.empty]
set_option maxHeartbeats 4000000 in
set_option maxRecDepth 100000 in
theorem Rtag_any (S : List UInt8) (n : Nat) (w : World) (hn : n ≤ S.length) (hz : S.length ≤ 1000000) :
    Calls Tryz.prog 37 #[.string (str S), .int .i64 n] w (RTagPost S n w) := by
  obtain ⟨i0, hi, hz0, hz1, hz2⟩ := info_parts infoAttr
  have hzt := (zero_of_info zeroT12).1
  have hza := (zero_of_info zeroA).1
  have hsz := str_size S
  have hb0 : Below w.heap.size w (w.alloc (.cells kCells0 35)) := (Below.refl _ w).alloc (Nat.le_refl _) _
  have ha0 : RAt12 (w.alloc (.cells kCells0 35)) w.heap.size kCells0 := heap_new w _
  obtain ⟨E, hE⟩ : ∃ E, Tk.on Tk.tn S n = E := ⟨_, rfl⟩
  have hEl := Tk.on_le Tk.tn S n hn
  rw [hE] at hEl
  have hN := Tk.on_take Tk.tn S n
  have hD := Tk.on_drop Tk.tn S n
  rw [hE] at hN hD
  go_enter Tryz.func37, Tryz.ntmps37
  go_upto_block 0 with fail
  generalize (w.alloc (.cells kCells0 35)) = W0 at *
  have HB0 := hideT hb0
  have HA0 := hideT ha0
  clear hb0 ha0
  go_cut [1] from 13 to 37 (fun x w' => x = Value.int .i64 E ∧ w' = W0)
  case first =>
    go_wp2_with fail
    go_loopw [1] (fun x wr => ∃ k : Nat, x = .int .i64 k ∧ k ≤ S.length ∧ Hid (Tk.on Tk.tn S k = E) ∧ wr = W0) (fun x _ => S.length - (intOf x).toNat)
    case atStart => exact ⟨n, rfl, hn, hE, rfl⟩
    case round =>
      obtain ⟨k, rfl, hk, HE, rfl⟩ := hrel
      by_cases hlt : k < S.length
      · obtain ⟨c, hc⟩ : ∃ c, S[k] = c := ⟨_, rfl⟩
        have hat := byte_at S k hlt c hc
        have hIB := RIsBlank_c c
        have HAN : Hid (Tk.tn c = (!Asc.isBlank c && c != 47 && c != 62)) := rfl
        have HS : Hid (Tk.tn c = false → k = E) := fun h => by rw [← HE.out, Tk.on_here Tk.tn S k hlt (by rw [hc]; exact h)]
        have HG : Hid (Tk.tn c = true → Tk.on Tk.tn S (k + 1) = E) := fun h => by rw [← HE.out]; exact (Tk.on_next Tk.tn S k hlt (by rw [hc]; exact h)).symm
        clear hc HE
        cases hb : Asc.isBlank c
        · rw [hb] at hIB HAN
          by_cases h47 : c = 47
          · have q47 : ((c.toNat : Int) != 47) = false := by rw [h47]; rfl
            have HX := hideT (HS.out (by rw [HAN.out, h47]; rfl))
            clear HAN HG HS h47
            go_wp2_with (go_at_call 25; refine (hIB _).mono ?_; rintro e w1 ⟨rfl, hw⟩; rw [hw]; clear hw)
            go_meet
            case rel => exact ⟨by rw [HX.out], rfl⟩
          have q47 : ((c.toNat : Int) != 47) = true := b_yes (q_no c 47 (by omega) h47)
          by_cases h62 : c = 62
          · have q62 : ((c.toNat : Int) != 62) = false := by rw [h62]; rfl
            have HX := hideT (HS.out (by rw [HAN.out, h62]; rfl))
            clear HAN HG HS h62 h47
            go_wp2_with (go_at_call 25; refine (hIB _).mono ?_; rintro e w1 ⟨rfl, hw⟩; rw [hw]; clear hw)
            go_meet
            case rel => exact ⟨by rw [HX.out], rfl⟩
          have q62 : ((c.toNat : Int) != 62) = true := b_yes (q_no c 62 (by omega) h62)
          have HX := hideT (HG.out (by rw [HAN.out]; simp [h47, h62]))
          clear HAN HG HS h62 h47
          go_wp2_with (go_at_call 25; refine (hIB _).mono ?_; rintro e w1 ⟨rfl, hw⟩; rw [hw]; clear hw)
          go_roundw
          case rel => exact ⟨k + 1, by go_num, by omega, HX.out, by trivial⟩
          case measure => simp [intOf]; omega
        · rw [hb] at hIB HAN
          have HX := hideT (HS.out (by rw [HAN.out]; rfl))
          clear HAN HG HS
          go_wp2_with (go_at_call 25; refine (hIB _).mono ?_; rintro e w1 ⟨rfl, hw⟩; rw [hw]; clear hw)
          go_meet
          case rel => exact ⟨by rw [HX.out], rfl⟩
      · have HX : Hid (k = E) := by show k = E; rw [← HE.out, Tk.on_end Tk.tn S k (by omega)]
        clear HE
        go_wp2
        go_meet
        case rel => exact ⟨by rw [HX.out], rfl⟩
  case rest =>
    obtain ⟨rfl, he⟩ := hcut
    replace he := he.symm
    subst he
    have hx0 := str_midR S n E
    rw [hN] at hx0
    have hxl : ((S.drop n).takeWhile Tk.tn).length ≤ 1000000 := by
      rw [← hN, List.length_drop, List.length_take]
      omega
    have HNone := hideT (tag_none S n)
    have HSome := hideT (fun k ats sl hk => tag_some S n k ats sl hk)
    rw [← hD] at HNone HSome
    generalize (S.drop n).takeWhile Tk.tn = y at *
    have hLo := RLower_any (str y) W0 (by rw [str_size]; omega)
    rw [str_data] at hLo
    generalize Asc.lower y = x at *
    have HLo := hideT hLo
    clear hLo hN hD hE
    go_upto_block 2 with (go_at_call 26; (try rw [hx0]); refine HLo.out.mono ?_; rintro e w1 ⟨rfl, hb1⟩; have hb2 : Below w1.heap.size w1 (w1.alloc (.cells (kC x (.slice none 0 0) false) 35)) := (Below.refl _ _).alloc (Nat.le_refl _) _; have HA2 : Hid (RAt12 (w1.alloc (.cells (kC x (.slice none 0 0) false) 35)) w1.heap.size (kC x (.slice none 0 0) false)) := heap_new w1 _; have HR2 := hideT (HA0.out.step (bel hb1 hb2)); have HB2 := hideT (HB0.out.trans ((bel hb1 hb2).mono HB0.out.size)); have hne1 : w.heap.size < w1.heap.size := (by have := HA0.out.lt; have := hb1.size; omega); clear hb1 hb2)
    have hsB : (w1.alloc (.cells (kC x (.slice none 0 0) false) 35)).heap.size = w1.heap.size + 1 := alloc_size12 _ _
    generalize (w1.alloc (.cells (kC x (.slice none 0 0) false) 35)) = W2 at *
    clear hx0 HLo HA0 HB0
    go_wp2_with fail
    go_loopw [1, 8] (fun p s wr => ∃ (k : Nat) (sl : Bool) (ats : List Pr) (va : Option Addr) (vc : Nat), p = .int .i64 k ∧ s = .bool sl ∧ k ≤ S.length + 1 ∧ Hid (Tk.tg (S.drop E) [] false = Tk.tg (S.drop k) ats sl) ∧ RAt12 wr w1.heap.size (kC x (.slice va ats.length vc) false) ∧ OwnsA wr (w1.heap.size + 1) (.slice va ats.length vc) ats ∧ ats.length ≤ 64 ∧ RAt12 wr w.heap.size kCells0 ∧ Below w.heap.size w wr) (fun p _ _ => S.length + 1 - (intOf p).toNat)
    case atStart => exact ⟨E, false, [], none, 0, rfl, rfl, by omega, rfl, HA2.out, OwnsPairs.nil _ _ _, Nat.zero_le _, HR2.out, HB2.out⟩
    case round =>
      obtain ⟨k, sl, ats, va, vc, rfl, rfl, hk, HE, hA, hO, hal, hR, hB⟩ := hrel
      have HA := hideT hA
      have HO := hideT hO
      have HR := hideT hR
      have HB := hideT hB
      have hs2 := hA.lt
      have hsw := hB.size
      have c2 := Lib.cell_of_heap hA 2
      have c3 := Lib.cell_of_heap hA 3
      have f3 := Lib.frozen_of_heap hA 3
      clear hA hO hR hB HA2 HR2 HB2
      by_cases hlt : k < S.length
      · obtain ⟨c, hc⟩ : ∃ c, S[k] = c := ⟨_, rfl⟩
        have hat := byte_at S k hlt c hc
        have hdk : S.drop k = c :: S.drop (k + 1) := by rw [List.drop_eq_getElem_cons hlt, hc]
        have HDK := hideT hdk
        clear hc hdk
        by_cases h62 : c = 62
        · have q62 : ((c.toNat : Int) == 62) = true := by rw [h62]; rfl
          obtain ⟨hP, hNn⟩ := HSome.out k ats sl hlt (by rw [HE.out, HDK.out, h62, Tk.tg_end])
          have A5 := hideT (HA.out.set3 (.bool sl))
          have R5 := hideT (HR.out.kept (Kept.set w1.heap.size 3 wr (.bool sl)) (by omega))
          have O5 := hideT (OwnsPairs.kept HO.out (Kept.set w1.heap.size 3 wr (.bool sl)) (Nat.lt_succ_self _))
          have B5 := hideT (HB.out.setCell (p := ⟨w1.heap.size, 3, none⟩) (Nat.le_of_lt hne1) (.bool sl))
          have HX := hideT hP
          have HY := hideT hNn
          clear hP hNn h62 HE HNone HSome
          go_wp2_with (first
            | ((with_reducible show wpList _ _ _ ({ op := Op.load 35 _, .. } :: _) _ _); refine wpList_load_R _ rfl rfl w1.heap.size _ _ _ _ _ rfl A5.out ?_)
            | ((with_reducible show wpList _ _ _ ({ op := Op.store 35 _ _, .. } :: _) _ _); refine wpList_store_R _ _ rfl rfl w.heap.size _ rfl 1 (str x) ByteArray.empty sl va ats.length vc rfl rfl R5.out ?_))
          refine ret_R2 rfl rfl rfl rfl (setRow_R R5.out) ?_
          unfold RTagPost
          rw [HX.out, HY.out]
          exact ⟨va, ats.length, vc, rfl, (OwnsPairs.kept O5.out (kept_setRow _ _ _) (by omega)).mono (by omega), B5.out.trans ((kept_setRow _ _ _).below w.heap.size (Nat.le_refl _) B5.out.size)⟩
        have q62 : ((c.toNat : Int) == 62) = false := q_no c 62 (by omega) h62
        by_cases h47 : c = 47
        · have q47 : ((c.toNat : Int) == 47) = true := by rw [h47]; rfl
          have HN : Hid (Tk.tg (S.drop E) [] false = Tk.tg (S.drop (k + 1)) ats true) := by
            show _ = _
            rw [HE.out, HDK.out, Tk.tg_gap c _ ats sl h62 (.inl h47), h47]
            rfl
          clear h47 h62 HE HNone HSome HDK
          go_wp2
          go_roundw
          case rel => exact ⟨k + 1, true, ats, va, vc, by go_num, rfl, by omega, HN.out, HA.out, HO.out, hal, HR.out, HB.out⟩
          case measure => simp [intOf]; omega
        have q47 : ((c.toNat : Int) == 47) = false := q_no c 47 (by omega) h47
        have hIB := RIsBlank_c c
        cases hbl : Asc.isBlank c
        · rw [hbl] at hIB
          have htn : Tk.tn c = true := by unfold Tk.tn; rw [hbl]; simp [h47, h62]
          have HT : Hid (Tk.tg (S.drop E) [] false = Tk.tg (Tk.attr (S.drop k)).2 (Tk.add ats (Tk.attr (S.drop k)).1) false) := by
            show _ = _
            rw [HE.out, HDK.out, Tk.tg_attr c _ ats sl htn]
          have hAt := hideT (fun W => Rattr_any S k W hlt hz)
          clear HE HDK htn h47 h62 c3 f3 hbl
          unfold RAttrPost at hAt
          generalize Tk.attr (S.drop k) = pr at *
          obtain ⟨⟨an, av⟩, rest⟩ := pr
          simp only at HT hAt
          go_wp2_with (first
            | (go_at_call 25; refine (hIB _).mono ?_; rintro e w4 ⟨rfl, hw⟩; rw [hw]; clear hw))
          go_at_call 62
          refine (hAt.out _).mono ?_
          rintro e w5 ⟨j, rfl, hj, hj1, hj2, hb5⟩
          have hb6 : Below w5.heap.size w5 (w5.alloc (.cells #[.string (str an), .string (str av)] 49)) := (Below.refl _ _).alloc (Nat.le_refl _) _
          have T6 : Hid (AAt (w5.alloc (.cells #[.string (str an), .string (str av)] 49)) w5.heap.size (.string (str an)) (.string (str av))) := heap_new w5 _
          have A6 := hideT (HA.out.step (bel hb5 hb6))
          have R6 := hideT (HR.out.step (bel hb5 hb6))
          have O6 := hideT (OwnsPairs.below HO.out (bel hb5 hb6))
          have B6 := hideT (bel HB.out (bel hb5 hb6))
          have d2 := Lib.cell_of_heap A6.out 2
          have t0 := Lib.cell_of_heap T6.out 0
          have hHas := hideT (fun W (h : W = (w5.alloc (.cells #[.string (str an), .string (str av)] 49))) => Rhas_any ats (.slice va ats.length vc) an W (by rw [h]; exact O6.out.reads) (by omega))
          have hsz5 := hb5.size
          have hsz6 := alloc_size12 w5 (.cells #[.string (str an), .string (str av)] 49)
          clear hAt hIB c2 HA HR HO HB hb5 hb6
          go_wp2_with fail
          generalize hW6 : (w5.alloc (.cells #[.string (str an), .string (str av)] 49)) = W6 at *
          have hH := hHas.out W6 rfl
          rw [hj] at HT
          have HB6 := B6.out.size
          clear hHas hj HNone HSome
          cases hhas : Tk.has ats an
          · rw [hhas] at hH
            by_cases h64 : ats.length < 64
            · have h64I : (ats.length : Int) < 64 := by omega
              rw [add_yes ats (an, av) hhas h64] at HT
              have W7b : Below W6.heap.size W6 (W6.alloc (.cells #[.string (str an), .string (str av)] 49)) := (Below.refl _ _).alloc (Nat.le_refl _) _
              have A7 := hideT (A6.out.step W7b)
              have R7 := hideT (R6.out.step W7b)
              have O7 := hideT (OwnsPairs.below O6.out W7b)
              have B7 := hideT (bel B6.out W7b)
              have hsz7 := alloc_size12 W6 (.cells #[.string (str an), .string (str av)] 49)
              have OW7 : (W6.alloc (.cells #[.string (str an), .string (str av)] 49)).ownsRow (w1.heap.size + 1) 49 2 (.slice va ats.length vc) ats.length (pairCells ats) := O7.out
              have HOW7 := hideT OW7
              clear OW7
              have hB07 : w1.heap.size + 1 ≤ (W6.alloc (.cells #[.string (str an), .string (str av)] 49)).heap.size := by omega
              clear W7b t0 hhas h64 hsz7 hsz6
              go_wp2_with (first
                | (go_at_call 63; refine hH.mono ?_; rintro e w4 ⟨rfl, hw⟩; rw [hw]; clear hw)
                | ((with_reducible show wpList _ _ _ ({ op := Op.load 49 _, .. } :: _) _ _); refine wpList_load_A _ rfl rfl w5.heap.size _ _ rfl T6.out ?_)
                | (at_builtin; refine wpList_append_own _ rfl _ _ 33 rfl (w1.heap.size + 1) 49 i0 (.agg #[.string ByteArray.empty, .string ByteArray.empty]) 2 32 Tryz.underlying33 hi hz0 hz1 hz2 rfl (by decide) _ _ _ rfl HOW7.out ⟨W6.heap.size, 0, none⟩ 1 1 [.string (str an), .string (str av)] rfl rfl (cell_two_new W6 _ _ _) (fun x hx => by simp at hx; rcases hx with rfl | rfl <;> rfl) (by unfold maxLen; omega) (by omega) hB07 ?_; intro v8 w8 hown8 hgrow8 hnil8; have hb8 : Below (w1.heap.size + 1) _ w8 := (Below.refl _ _).grown hgrow8 hB07 (fun q hq => (World.ownsRow.lt HOW7.out q hq).1); have A8 := A7.out.belowB hb8 (Nat.lt_succ_self _); have R8 := hideT (R7.out.belowB hb8 (by omega)); have B8 := hideT (B7.out.trans (hb8.mono (by omega))); have O8 : OwnsA w8 (w1.heap.size + 1) v8 (ats ++ [(an, av)]) := OwnsPairs.of (ps := ats) (p := (an, av)) rfl rfl rfl hown8; obtain ⟨va8, vc8, rfl⟩ := O8.reads.form; have c8 := Lib.cell_of_heap A8 2; have f8 := Lib.frozen_of_heap A8 2; rw [show (ats ++ [(an, av)]).length = ats.length + 1 from by simp] at O8; have HA8 := hideT A8; have HO8 := hideT O8; clear A8 O8 hown8 hgrow8 hnil8 hb8))
              go_roundw
              case rel => exact ⟨j, false, ats ++ [(an, av)], va8, vc8, rfl, rfl, hj2, HT.out, by rw [show (ats ++ [(an, av)]).length = ats.length + 1 from by simp]; exact HA8.out.set _, by rw [show (ats ++ [(an, av)]).length = ats.length + 1 from by simp]; exact OwnsPairs.kept HO8.out (Kept.set w1.heap.size 2 w8 _) (Nat.lt_succ_self _), by rw [List.length_append, List.length_singleton]; omega, R8.out.kept (Kept.set w1.heap.size 2 w8 _) (by omega), B8.out.setCell (p := ⟨w1.heap.size, 2, none⟩) (Nat.le_of_lt hne1) _⟩
              case measure => simp [intOf]; omega
            · have h64I : ¬ (ats.length : Int) < 64 := by omega
              rw [add_full ats (an, av) h64] at HT
              clear t0 hhas h64
              go_wp2_with (go_at_call 63; refine hH.mono ?_; rintro e w4 ⟨rfl, hw⟩; rw [hw]; clear hw)
              go_roundw
              case rel => exact ⟨j, false, ats, va, vc, rfl, rfl, hj2, HT.out, A6.out, O6.out, hal, R6.out, B6.out⟩
              case measure => simp [intOf]; omega
          · rw [hhas] at hH
            rw [add_has ats (an, av) hhas] at HT
            clear t0 hhas
            go_wp2_with (go_at_call 63; refine hH.mono ?_; rintro e w4 ⟨rfl, hw⟩; rw [hw]; clear hw)
            go_roundw
            case rel => exact ⟨j, false, ats, va, vc, rfl, rfl, hj2, HT.out, A6.out, O6.out, hal, R6.out, B6.out⟩
            case measure => simp [intOf]; omega
        · rw [hbl] at hIB
          have HN : Hid (Tk.tg (S.drop E) [] false = Tk.tg (S.drop (k + 1)) ats false) := by
            show _ = _
            rw [HE.out, HDK.out, Tk.tg_gap c _ ats sl h62 (.inr hbl)]
            rw [show (c == 47) = false from beq_eq_false_iff_ne.2 h47]
          clear h47 h62 HE HNone HSome HDK hbl
          go_wp2_with (go_at_call 25; refine (hIB _).mono ?_; rintro e w4 ⟨rfl, hw⟩; rw [hw]; clear hw)
          go_roundw
          case rel => exact ⟨k + 1, false, ats, va, vc, by go_num, rfl, by omega, HN.out, HA.out, HO.out, hal, HR.out, HB.out⟩
          case measure => simp [intOf]; omega
      · obtain ⟨hP, hNn⟩ := HNone.out (by rw [HE.out, List.drop_eq_nil_of_le (by omega)]; rfl)
        have HX := hideT hP
        have HY := hideT hNn
        clear hP hNn HE HNone HSome
        go_wp2_with (first
          | ((with_reducible show wpList _ _ _ ({ op := Op.store 35 _ _, .. } :: _) _ _); refine wpList_store_R _ _ rfl rfl w.heap.size _ rfl 0 ByteArray.empty ByteArray.empty false none 0 0 rfl rfl HR.out ?_))
        refine ret_R2 rfl rfl rfl rfl (setRow_R HR.out) ?_
        unfold RTagPost
        rw [HX.out, HY.out]
        exact ⟨none, 0, 0, rfl, OwnsPairs.nil _ _ _, HB.out.trans ((kept_setRow _ _ _).below w.heap.size (Nat.le_refl _) HB.out.size)⟩
end Go.Proofs.YtagceinccibnjaaGreatDoor
