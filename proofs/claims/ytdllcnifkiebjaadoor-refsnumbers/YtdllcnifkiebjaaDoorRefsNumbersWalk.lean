/- The walk of the law RefsNumbers, out of the contracts. -/
import Derived.Test.YtdllcnifkiebjaaDoorRfM
import Derived.Test.YtdllcnifkiebjaaDoorRfNum
import Derived.Test.YtdllcnifkiebjaaDoorURPut
set_option linter.unusedVariables false
set_option linter.unusedSimpArgs false
namespace Go.Proofs.YtdllcnifkiebjaaDoor.refsNumbers
open Go.RowKit
theorem str_cat (a b : List UInt8) : str a ++ str b = str (a ++ b) := by
  apply str_eq
  rw [ByteArray.data_append]
  simp [str]
def lit16 : ByteArray := ⟨#[48, 49, 50, 51, 52, 53, 54, 55, 56, 57, 97, 98, 99, 100, 101, 102]⟩
theorem lit_cut : ∀ k, k < 16 → lit16.extract k (k + 1) = str [Rf.hxD k] := by
  intro k hk
  have : ∀ k : Fin 16, (lit16.extract k.val (k.val + 1)).data.toList = [Rf.hxD k.val] := by decide +kernel
  exact str_eq (this ⟨k, hk⟩)
theorem one_byte (w : World) (c : UInt8) (n : Int) (h : n = (c.toNat : Int)) : (convert 34 9 (.slice (some ⟨w.heap.size, 0, none⟩) 1 1)).run Tryd.prog (w.alloc (.cells #[.int .u8 n] 5)) = .ok (.string (str [c])) (w.alloc (.cells #[.int .u8 n] 5)) := by
  subst h
  exact conv_owned (owns_new w [.int .u8 c.toNat] [c] 1 rfl rfl (by omega))
/-- One sign put behind nothing, by the reference. -/
theorem RPut_one (c : Int) (w : World) :
    Calls Tryd.prog 23 #[.slice none 0 0, .slice (some ⟨w.heap.size, 0, none⟩) 1 1] (w.alloc (.cells #[.int .i32 c] 21)) fun e w' => ∃ v', e = .returned v' ∧ OwnsBytes w' (w.heap.size + 1) v' (Lib.encodeRune c) ∧ Below w.heap.size w w' := by
  refine (RPut_any _ _ [] [c] _ (by decide) (by simp) (ReadsCells.nil _) (.inr ⟨w.heap.size, 0, 1, rfl, Nat.le_refl _, ?_⟩)).mono ?_
  · intro j x hj
    match j, hj with
    | 0, hj =>
      cases hj
      rw [Nat.zero_add, Lib.cell_of_heap (heap_new w _)]
      rfl
    | (j + 1), hj => simp [cellsR] at hj
  · rintro e w' ⟨v', rfl, ho, hb⟩
    have e1 : [] ++ puts [c] = Lib.encodeRune c := by simp [puts]
    rw [e1] at ho
    exact ⟨v', rfl, by simpa using ho, ((Below.refl _ w).alloc (Nat.le_refl _) _).trans (hb.mono (by simp))⟩
def bitOf : Value → Nat
  | .bool true => 1
  | _ => 0
theorem three_cells (w : World) (a b c : ByteArray) (T : Nat) : (w.alloc (.cells #[.string a, .string b, .string c] T)).cell? ⟨w.heap.size, 0, none⟩ = some (.string a) ∧ (w.alloc (.cells #[.string a, .string b, .string c] T)).cell? ⟨w.heap.size, 1, none⟩ = some (.string b) ∧ (w.alloc (.cells #[.string a, .string b, .string c] T)).cell? ⟨w.heap.size, 2, none⟩ = some (.string c) := by
  unfold World.cell?
  rw [heap_new]
  exact ⟨rfl, rfl, rfl⟩
set_option maxHeartbeats 4000000 in
set_option maxRecDepth 100000 in
theorem walkA (n : Nat) (z : Nat) (w : World) (hn : n ≤ 4294967295) (hz : z ≤ 255) (hT : Win w) (hA : n < 160) :
    Calls Tryd.prog 8 #[.int .u32 n, .int .u8 z] w fun e w' => e = .returned (.bool true) ∧ Below w.heap.size w w' := by
  have HT : Hid (Win w) := hT
  have hN := fun W hW => Number11_any (n : Int) W (by omega) (by omega) hW
  have hrt : Utf.right (Rf.numSign n) = true := by
    unfold Utf.right
    have := Rf.numSign_bd (n : Int) (by omega)
    exact decide_eq_true this
  have hA' : ¬ (160 : Int) ≤ (n : Int) := by omega
  have hR1 : ∀ W, Calls Tryd.prog 22 #[.int .i32 (Rf.numSign n)] W fun e w' => e = .returned (.bool true) ∧ w' = W := fun W => by
    have := Right_n (Rf.numSign n) W
    rw [hrt] at this
    exact this
  have hP := RPut_one (Rf.numSign n)
  have hel := Utf.enc_len (Rf.numSign n)
  have HD1 : ∀ T : List UInt8, T.all Rf.digB = true → T ≠ [] → Rf.foldCap 10 0 T = n → Rf.dec false (38 :: 35 :: (T ++ [59])) = Lib.encodeRune (Rf.numSign n) ∧ Rf.dec true (38 :: 35 :: (T ++ [59, 33])) = Lib.encodeRune (Rf.numSign n) ++ [33] ∧ Rf.dec false (38 :: 35 :: (T ++ [32])) = Lib.encodeRune (Rf.numSign n) ++ [32] := fun T h1 h2 h3 => ⟨Rf.ten_end T n h1 h2 h3, Rf.ten_bang T n h1 h2 h3, Rf.ten_blank T n h1 h2 h3⟩
  have HD2 : ∀ (x : UInt8) (T : List UInt8), x = 120 ∨ x = 88 → T.all Rf.hexB = true → T ≠ [] → Rf.foldCap 16 0 T = n → Rf.dec false (38 :: 35 :: x :: (T ++ [59])) = Lib.encodeRune (Rf.numSign n) ∧ Rf.dec true (38 :: 35 :: x :: (T ++ [59, 33])) = Lib.encodeRune (Rf.numSign n) ++ [33] := fun x T h0 h1 h2 h3 => ⟨Rf.hex_end x h0 T n h1 h2 h3, Rf.hex_bang x h0 T n h1 h2 h3⟩
  have HD1' : Hid (∀ T : List UInt8, T.all Rf.digB = true → T ≠ [] → Rf.foldCap 10 0 T = n → Rf.dec false (38 :: 35 :: (T ++ [59])) = Lib.encodeRune (Rf.numSign n) ∧ Rf.dec true (38 :: 35 :: (T ++ [59, 33])) = Lib.encodeRune (Rf.numSign n) ++ [33] ∧ Rf.dec false (38 :: 35 :: (T ++ [32])) = Lib.encodeRune (Rf.numSign n) ++ [32]) := HD1
  have HD2' : Hid (∀ (x : UInt8) (T : List UInt8), x = 120 ∨ x = 88 → T.all Rf.hexB = true → T ≠ [] → Rf.foldCap 16 0 T = n → Rf.dec false (38 :: 35 :: x :: (T ++ [59])) = Lib.encodeRune (Rf.numSign n) ∧ Rf.dec true (38 :: 35 :: x :: (T ++ [59, 33])) = Lib.encodeRune (Rf.numSign n) ++ [33]) := HD2
  clear HD1 HD2 hT
  generalize Rf.numSign n = c at *
  generalize Lib.encodeRune _ = E at *
  clear hrt
  go_enter Tryd.func8, Tryd.ntmps8
  go_wp2_with (first
    | (go_at_call 11; refine (hN _ HT.out).mono ?_; rintro e w1 ⟨rfl, hw⟩; rw [hw]; clear hw)
    | (go_at_call 22; refine (hR1 _).mono ?_; rintro e w1 ⟨rfl, hw⟩; rw [hw]; clear hw hR1))
  clear hN hA hA'
  go_loopw [6, 8, 9] (fun t m f wr => ∃ (T : List UInt8) (x : Nat) (b : Bool), t = .string (str T) ∧ m = .int .u32 x ∧ f = .bool b ∧ Hid (Rf.Dg 10 10 Rf.digB n x b T) ∧ x ≤ 4294967295 ∧ Below w.heap.size w wr) (fun _ m f _ => (intOf m).toNat + bitOf f)
  case atStart => exact ⟨[], n, true, rfl, rfl, rfl, Rf.Dg.start 10 10 _ n (by omega) hn, hn, Below.refl _ _⟩
  case round =>
    obtain ⟨T, x, b, rfl, rfl, rfl, HG, hx, hB⟩ := hrel
    by_cases hgo : b = true ∨ 0 < x
    · have hlt : x % 10 < 10 := Nat.mod_lt _ (by omega)
      have hf := Rf.tnD_fine (x % 10) hlt
      have HS : Hid (Rf.Dg 10 10 Rf.digB n (x / 10) false (Rf.tnD (x % 10) :: T)) := HG.out.step (by omega) (by omega) _ hf.1 hf.2.1 hgo
      have hcv := one_byte wr (Rf.tnD (x % 10)) (48 + (x : Int) % 10) (by rw [hf.2.2]; omega)
      have hct : str [Rf.tnD (x % 10)] ++ str T = str (Rf.tnD (x % 10) :: T) := str_cat _ _
      have hs1 : (str [Rf.tnD (x % 10)]).size = 1 := str_size _
      have hs2 := str_size T
      have hTl := HG.out.len
      have hsz := hB.size
      have hB2 : Below w.heap.size w (wr.alloc (.cells #[.int .u8 (48 + (x : Int) % 10)] 5)) := hB.alloc hsz _
      rcases hgo with rfl | h0
      · go_wp2
        go_roundw
        case rel => exact ⟨_, x / 10, false, rfl, by go_num, rfl, HS, by omega, hB2⟩
        case measure => simp [intOf, bitOf]; omega
      · have h0' : (0 : Int) < (x : Int) := by omega
        cases b
        · go_wp2
          go_roundw
          case rel => exact ⟨_, x / 10, false, rfl, by go_num, rfl, HS, by omega, hB2⟩
          case measure => simp [intOf, bitOf]; omega
        · go_wp2
          go_roundw
          case rel => exact ⟨_, x / 10, false, rfl, by go_num, rfl, HS, by omega, hB2⟩
          case measure => simp [intOf, bitOf]; omega
    · have hb : b = false := by
        cases b
        · rfl
        · exact absurd (.inl rfl) hgo
      have hx0 : x = 0 := by omega
      subst hb hx0
      have HG' : Hid (Rf.foldCap 10 0 T = n ∧ T.all Rf.digB = true ∧ T ≠ [] ∧ T.length ≤ 10) := HG.out.zero
      clear HG hgo hx
      go_wp2
      go_loop [7, 10, 11] (fun t m f => ∃ (H : List UInt8) (x : Nat) (b : Bool), t = .string (str H) ∧ m = .int .u32 x ∧ f = .bool b ∧ Hid (Rf.Dg 16 8 Rf.hexB n x b H) ∧ x ≤ 4294967295) (fun _ m f => (intOf m).toNat + bitOf f)
      case atStart => exact ⟨[], n, true, rfl, rfl, rfl, Rf.Dg.start 16 8 _ n (by omega) hn, hn⟩
      case round =>
        obtain ⟨H, x, b, rfl, rfl, rfl, HG, hx⟩ := hrel
        by_cases hgo : b = true ∨ 0 < x
        · have hlt : x % 16 < 16 := Nat.mod_lt _ (by omega)
          have hf := Rf.hxD_fine (x % 16) hlt
          have HS : Hid (Rf.Dg 16 8 Rf.hexB n (x / 16) false (Rf.hxD (x % 16) :: H)) := HG.out.step (by omega) (by omega) _ hf.1 hf.2 hgo
          have hlc : (⟨#[48, 49, 50, 51, 52, 53, 54, 55, 56, 57, 97, 98, 99, 100, 101, 102]⟩ : ByteArray).extract (x % 16) (x % 16 + 1) = str [Rf.hxD (x % 16)] := lit_cut _ hlt
          have hct : str [Rf.hxD (x % 16)] ++ str H = str (Rf.hxD (x % 16) :: H) := str_cat _ _
          have hs1 : (str [Rf.hxD (x % 16)]).size = 1 := str_size _
          have hs2 := str_size H
          have hHl := HG.out.len
          have hltI : (x : Int) % 16 < 16 := by omega
          have h0I : (0 : Int) ≤ (x : Int) % 16 := by omega
          clear hf
          rcases hgo with rfl | h0
          · go_wp2
            go_round
            case rel => exact ⟨_, x / 16, false, rfl, by go_num, rfl, HS, by omega⟩
            case measure => simp [intOf, bitOf]; omega
          · have h0' : (0 : Int) < (x : Int) := by omega
            cases b
            · go_wp2
              go_round
              case rel => exact ⟨_, x / 16, false, rfl, by go_num, rfl, HS, by omega⟩
              case measure => simp [intOf, bitOf]; omega
            · go_wp2
              go_round
              case rel => exact ⟨_, x / 16, false, rfl, by go_num, rfl, HS, by omega⟩
              case measure => simp [intOf, bitOf]; omega
        · have hb : b = false := by
            cases b
            · rfl
            · exact absurd (.inl rfl) hgo
          have hx0 : x = 0 := by omega
          subst hb hx0
          have HH' : Hid (Rf.foldCap 16 0 H = n ∧ H.all Rf.hexB = true ∧ H ≠ [] ∧ H.length ≤ 8) := HG.out.zero
          clear HG hgo hx
          go_wp2
          go_loop [6, 7, 73] (fun t h i => ∃ (k : Nat) (T H : List UInt8), k ≤ z % 20 ∧ i = .int .u8 k ∧ t = .string (str T) ∧ h = .string (str H) ∧ T.length ≤ 10 + k ∧ H.length ≤ 8 + k ∧ Hid ((Rf.foldCap 10 0 T = n ∧ T.all Rf.digB = true ∧ T ≠ []) ∧ (Rf.foldCap 16 0 H = n ∧ H.all Rf.hexB = true ∧ H ≠ []))) (fun _ _ i => 20 - (intOf i).toNat)
          case atStart => exact ⟨0, T, H, Nat.zero_le _, rfl, rfl, rfl, HG'.out.2.2.2, HH'.out.2.2.2, ⟨HG'.out.1, HG'.out.2.1, HG'.out.2.2.1⟩, HH'.out.1, HH'.out.2.1, HH'.out.2.2.1⟩
          case round =>
            clear HG' HH'
            obtain ⟨k, T, H, hk, rfl, rfl, rfl, hTl, hHl, HF⟩ := hrel
            have hz20 : z % 20 < 20 := Nat.mod_lt _ (by omega)
            have hs1 := str_size T
            have hs2 := str_size H
            by_cases hlt : k < z % 20
            · have hltI : (k : Int) < (z : Int) % 20 := by omega
              have hc1 : (⟨#[48]⟩ : ByteArray) ++ str T = str (48 :: T) := str_cat [48] T
              have hc2 : (⟨#[48]⟩ : ByteArray) ++ str H = str (48 :: H) := str_cat [48] H
              have HN : Hid ((Rf.foldCap 10 0 (48 :: T) = n ∧ (48 :: T).all Rf.digB = true ∧ 48 :: T ≠ []) ∧ (Rf.foldCap 16 0 (48 :: H) = n ∧ (48 :: H).all Rf.hexB = true ∧ 48 :: H ≠ [])) := by
                obtain ⟨⟨f1, f2, f3⟩, g1, g2, g3⟩ := HF.out
                refine ⟨⟨by rw [Rf.fold_zero]; exact f1, by rw [List.all_cons, f2]; rfl, by simp⟩, by rw [Rf.fold_zero]; exact g1, by rw [List.all_cons, g2]; rfl, by simp⟩
              go_wp2
              go_round
              case rel => exact ⟨k + 1, 48 :: T, 48 :: H, by omega, by go_num, rfl, rfl, by simp; omega, by simp; omega, HN⟩
              case measure => simp [intOf]; omega
            · have hltI : ¬ (k : Int) < (z : Int) % 20 := by omega
              obtain ⟨⟨f1, f2, f3⟩, g1, g2, g3⟩ := HF.out
              have e1 := HD1'.out T f2 f3 f1
              have e2 := HD2'.out 120 H (.inl rfl) g2 g3 g1
              have e3 := HD2'.out 88 H (.inr rfl) g2 g3 g1
              clear HF f1 f2 f3 g1 g2 g3 HD1' HD2'
              have ca1 : (⟨#[38, 35]⟩ : ByteArray) ++ str T = str (38 :: 35 :: T) := str_cat [38, 35] T
              have ca2 : str (38 :: 35 :: T) ++ (⟨#[59]⟩ : ByteArray) = str (38 :: 35 :: (T ++ [59])) := str_cat (38 :: 35 :: T) [59]
              have cx1 : (⟨#[38, 35, 120]⟩ : ByteArray) ++ str H = str (38 :: 35 :: 120 :: H) := str_cat [38, 35, 120] H
              have cx2 : str (38 :: 35 :: 120 :: H) ++ (⟨#[59]⟩ : ByteArray) = str (38 :: 35 :: 120 :: (H ++ [59])) := str_cat (38 :: 35 :: 120 :: H) [59]
              have cy1 : (⟨#[38, 35, 88]⟩ : ByteArray) ++ str H = str (38 :: 35 :: 88 :: H) := str_cat [38, 35, 88] H
              have cy2 : str (38 :: 35 :: 88 :: H) ++ (⟨#[59]⟩ : ByteArray) = str (38 :: 35 :: 88 :: (H ++ [59])) := str_cat (38 :: 35 :: 88 :: H) [59]
              have ca3 : str (38 :: 35 :: (T ++ [59])) ++ (⟨#[33]⟩ : ByteArray) = str (38 :: 35 :: (T ++ [59, 33])) := by
                have := str_cat (38 :: 35 :: (T ++ [59])) [33]
                simp only [List.cons_append, List.append_assoc, List.nil_append] at this
                exact this
              have cx3 : str (38 :: 35 :: 120 :: (H ++ [59])) ++ (⟨#[33]⟩ : ByteArray) = str (38 :: 35 :: 120 :: (H ++ [59, 33])) := by
                have := str_cat (38 :: 35 :: 120 :: (H ++ [59])) [33]
                simp only [List.cons_append, List.append_assoc, List.nil_append] at this
                exact this
              have cy3 : str (38 :: 35 :: 88 :: (H ++ [59])) ++ (⟨#[33]⟩ : ByteArray) = str (38 :: 35 :: 88 :: (H ++ [59, 33])) := by
                have := str_cat (38 :: 35 :: 88 :: (H ++ [59])) [33]
                simp only [List.cons_append, List.append_assoc, List.nil_append] at this
                exact this
              have cb : str (38 :: 35 :: T) ++ (⟨#[32]⟩ : ByteArray) = str (38 :: 35 :: (T ++ [32])) := str_cat (38 :: 35 :: T) [32]
              have ce1 : str E ++ (⟨#[33]⟩ : ByteArray) = str (E ++ [33]) := str_cat E [33]
              have ce2 : str E ++ (⟨#[32]⟩ : ByteArray) = str (E ++ [32]) := str_cat E [32]
              have D0 := fun W hW => Decode_any (38 :: 35 :: (T ++ [59])) false W (by simp; omega) hW
              have D0' := fun W hW => Decode_any (38 :: 35 :: (T ++ [59, 33])) true W (by simp; omega) hW
              have D1 := fun W hW => Decode_any (38 :: 35 :: 120 :: (H ++ [59])) false W (by simp; omega) hW
              have D1' := fun W hW => Decode_any (38 :: 35 :: 120 :: (H ++ [59, 33])) true W (by simp; omega) hW
              have D2 := fun W hW => Decode_any (38 :: 35 :: 88 :: (H ++ [59])) false W (by simp; omega) hW
              have D2' := fun W hW => Decode_any (38 :: 35 :: 88 :: (H ++ [59, 33])) true W (by simp; omega) hW
              have D3 := fun W hW => Decode_any (38 :: 35 :: (T ++ [32])) false W (by simp; omega) hW
              rw [e1.1] at D0
              rw [e1.2.1] at D0'
              rw [e1.2.2] at D3
              rw [e2.1] at D1
              rw [e2.2] at D1'
              rw [e3.1] at D2
              rw [e3.2] at D2'
              clear e1 e2 e3
              have hz0 : (str (38 :: 35 :: T)).size ≤ 100 := by rw [str_size]; simp; omega
              have hz1 : (str (38 :: 35 :: 120 :: H)).size ≤ 100 := by rw [str_size]; simp; omega
              have hz2 : (str (38 :: 35 :: 88 :: H)).size ≤ 100 := by rw [str_size]; simp; omega
              have hz3 : (str (38 :: 35 :: (T ++ [59]))).size ≤ 100 := by rw [str_size]; simp; omega
              have hz4 : (str (38 :: 35 :: 120 :: (H ++ [59]))).size ≤ 100 := by rw [str_size]; simp; omega
              have hz5 : (str (38 :: 35 :: 88 :: (H ++ [59]))).size ≤ 100 := by rw [str_size]; simp; omega
              have hz6 : (str (38 :: 35 :: (T ++ [59, 33]))).size ≤ 100 := by rw [str_size]; simp; omega
              have hz7 : (str (38 :: 35 :: 120 :: (H ++ [59, 33]))).size ≤ 100 := by rw [str_size]; simp; omega
              have hz8 : (str (38 :: 35 :: 88 :: (H ++ [59, 33]))).size ≤ 100 := by rw [str_size]; simp; omega
              have hz9 : (str (38 :: 35 :: (T ++ [32]))).size ≤ 100 := by rw [str_size]; simp; omega
              have hzE : (str E).size ≤ 4 := by rw [str_size]; exact hel.1
              generalize 38 :: 35 :: T = T0 at *
              generalize 38 :: 35 :: 120 :: H = H0 at *
              generalize 38 :: 35 :: 88 :: H = H1 at *
              generalize 38 :: 35 :: (T ++ [59]) = S0 at *
              generalize 38 :: 35 :: 120 :: (H ++ [59]) = S1 at *
              generalize 38 :: 35 :: 88 :: (H ++ [59]) = S2 at *
              generalize 38 :: 35 :: (T ++ [59, 33]) = S0' at *
              generalize 38 :: 35 :: 120 :: (H ++ [59, 33]) = S1' at *
              generalize 38 :: 35 :: 88 :: (H ++ [59, 33]) = S2' at *
              generalize 38 :: 35 :: (T ++ [32]) = S3 at *
              have hsz := hB.size
              go_wp2_with (go_at_call 23; refine (hP _).mono ?_; rintro e w5 ⟨v5, rfl, ho5, hb5⟩; replace hB := bel hB hb5; clear hb5; have hcv := conv_owned ho5; obtain ⟨g5, cap5, rfl, _⟩ := owns_src ho5 hel.2)
              have hc3 := three_cells w5 (str S0) (str S1) (str S2) 9
              have hsz5 := hB.size
              have hB5 : Below w.heap.size w (w5.alloc (.cells #[.string (str S0), .string (str S1), .string (str S2)] 9)) := hB.alloc hsz5 _
              have hq1 := beq_self_eq_true (str E).toList
              have hq2 := beq_self_eq_true (str (E ++ [33])).toList
              have hq3 := beq_self_eq_true (str (E ++ [32])).toList
              go_loopw [95] (fun i wr' => ∃ k : Nat, k ≤ 3 ∧ i = .int .i64 k ∧ Below (w5.heap.size + 1) (w5.alloc (.cells #[.string (str S0), .string (str S1), .string (str S2)] 9)) wr') (fun i _ => 3 - (intOf i).toNat)
              case atStart => exact ⟨0, by omega, rfl, Below.refl _ _⟩
              case round =>
                obtain ⟨k, hk3, rfl, hB6⟩ := hrel
                have hB7 := hB5.trans (hB6.mono (by omega))
                have hc0 := (hB6.cell (p := ⟨w5.heap.size, 0, none⟩) (by simp)).trans hc3.1
                have hc1 := (hB6.cell (p := ⟨w5.heap.size, 1, none⟩) (by simp)).trans hc3.2.1
                have hc2 := (hB6.cell (p := ⟨w5.heap.size, 2, none⟩) (by simp)).trans hc3.2.2
                have hs6 := hB6.size
                simp at hs6
                rcases (show k = 0 ∨ k = 1 ∨ k = 2 ∨ k = 3 from by omega) with rfl | rfl | rfl | rfl
                · go_wp2_with (first
                    | (go_at_call 17; refine (D0 _ (HT.out.below hB7)).mono ?_; rintro e w8 ⟨rfl, hb8⟩; replace hB7 := bel hB7 hb8; replace hB6 := hB6.trans (hb8.mono (by omega)); have hs8 := hb8.size; clear hb8 D0)
                    | (go_at_call 17; refine (D0' _ (HT.out.below hB7)).mono ?_; rintro e w9 ⟨rfl, hb9⟩; replace hB6 := hB6.trans (hb9.mono (by omega)); clear hb9 D0'))
                  go_roundw
                  case rel => exact ⟨1, by omega, by go_num, hB6⟩
                  case measure => simp [intOf]
                · go_wp2_with (first
                    | (go_at_call 17; refine (D1 _ (HT.out.below hB7)).mono ?_; rintro e w8 ⟨rfl, hb8⟩; replace hB7 := bel hB7 hb8; replace hB6 := hB6.trans (hb8.mono (by omega)); have hs8 := hb8.size; clear hb8 D1)
                    | (go_at_call 17; refine (D1' _ (HT.out.below hB7)).mono ?_; rintro e w9 ⟨rfl, hb9⟩; replace hB6 := hB6.trans (hb9.mono (by omega)); clear hb9 D1'))
                  go_roundw
                  case rel => exact ⟨2, by omega, by go_num, hB6⟩
                  case measure => simp [intOf]
                · go_wp2_with (first
                    | (go_at_call 17; refine (D2 _ (HT.out.below hB7)).mono ?_; rintro e w8 ⟨rfl, hb8⟩; replace hB7 := bel hB7 hb8; replace hB6 := hB6.trans (hb8.mono (by omega)); have hs8 := hb8.size; clear hb8 D2)
                    | (go_at_call 17; refine (D2' _ (HT.out.below hB7)).mono ?_; rintro e w9 ⟨rfl, hb9⟩; replace hB6 := hB6.trans (hb9.mono (by omega)); clear hb9 D2'))
                  go_roundw
                  case rel => exact ⟨3, by omega, by go_num, hB6⟩
                  case measure => simp [intOf]
                · go_wp2_with (first
                    | (go_at_call 17; refine (D3 _ (HT.out.below hB7)).mono ?_; rintro e w8 ⟨rfl, hb8⟩; replace hB7 := bel hB7 hb8; clear hb8)
                    | (go_at_call 13; refine (alive11_any _ (HT.out.below hB7)).mono ?_; rintro e w9 ⟨rfl, hb9⟩; replace hB7 := bel hB7 hb9; clear hb9))
                  go_ret
                  exact ⟨rfl, hB7⟩
set_option maxHeartbeats 4000000 in
set_option maxRecDepth 100000 in
theorem walkB (n : Nat) (z : Nat) (w : World) (hn : n ≤ 4294967295) (hz : z ≤ 255) (hT : Win w) (hA1 : 160 ≤ n) (hA2 : n < 2147483648) (hA3 : Utf.right (n : Int) = false) :
    Calls Tryd.prog 8 #[.int .u32 n, .int .u8 z] w fun e w' => e = .returned (.bool true) ∧ Below w.heap.size w w' := by
  have HT : Hid (Win w) := hT
  have hN := fun W hW => Number11_any (n : Int) W (by omega) (by omega) hW
  have hrt : Utf.right (Rf.numSign n) = true := by
    unfold Utf.right
    have := Rf.numSign_bd (n : Int) (by omega)
    exact decide_eq_true this
  have hA' : (160 : Int) ≤ (n : Int) := by omega
  have hR2 : ∀ W, Calls Tryd.prog 22 #[.int .i32 ((n : Int))] W fun e w' => e = .returned (.bool false) ∧ w' = W := fun W => by
    have := Right_n ((n : Int)) W
    rw [hA3] at this
    exact this
  have hR1 : ∀ W, Calls Tryd.prog 22 #[.int .i32 (Rf.numSign n)] W fun e w' => e = .returned (.bool true) ∧ w' = W := fun W => by
    have := Right_n (Rf.numSign n) W
    rw [hrt] at this
    exact this
  have hP := RPut_one (Rf.numSign n)
  have hel := Utf.enc_len (Rf.numSign n)
  have HD1 : ∀ T : List UInt8, T.all Rf.digB = true → T ≠ [] → Rf.foldCap 10 0 T = n → Rf.dec false (38 :: 35 :: (T ++ [59])) = Lib.encodeRune (Rf.numSign n) ∧ Rf.dec true (38 :: 35 :: (T ++ [59, 33])) = Lib.encodeRune (Rf.numSign n) ++ [33] ∧ Rf.dec false (38 :: 35 :: (T ++ [32])) = Lib.encodeRune (Rf.numSign n) ++ [32] := fun T h1 h2 h3 => ⟨Rf.ten_end T n h1 h2 h3, Rf.ten_bang T n h1 h2 h3, Rf.ten_blank T n h1 h2 h3⟩
  have HD2 : ∀ (x : UInt8) (T : List UInt8), x = 120 ∨ x = 88 → T.all Rf.hexB = true → T ≠ [] → Rf.foldCap 16 0 T = n → Rf.dec false (38 :: 35 :: x :: (T ++ [59])) = Lib.encodeRune (Rf.numSign n) ∧ Rf.dec true (38 :: 35 :: x :: (T ++ [59, 33])) = Lib.encodeRune (Rf.numSign n) ++ [33] := fun x T h0 h1 h2 h3 => ⟨Rf.hex_end x h0 T n h1 h2 h3, Rf.hex_bang x h0 T n h1 h2 h3⟩
  have HD1' : Hid (∀ T : List UInt8, T.all Rf.digB = true → T ≠ [] → Rf.foldCap 10 0 T = n → Rf.dec false (38 :: 35 :: (T ++ [59])) = Lib.encodeRune (Rf.numSign n) ∧ Rf.dec true (38 :: 35 :: (T ++ [59, 33])) = Lib.encodeRune (Rf.numSign n) ++ [33] ∧ Rf.dec false (38 :: 35 :: (T ++ [32])) = Lib.encodeRune (Rf.numSign n) ++ [32]) := HD1
  have HD2' : Hid (∀ (x : UInt8) (T : List UInt8), x = 120 ∨ x = 88 → T.all Rf.hexB = true → T ≠ [] → Rf.foldCap 16 0 T = n → Rf.dec false (38 :: 35 :: x :: (T ++ [59])) = Lib.encodeRune (Rf.numSign n) ∧ Rf.dec true (38 :: 35 :: x :: (T ++ [59, 33])) = Lib.encodeRune (Rf.numSign n) ++ [33]) := HD2
  clear HD1 HD2 hT
  generalize Rf.numSign n = c at *
  generalize Lib.encodeRune _ = E at *
  clear hrt
  go_enter Tryd.func8, Tryd.ntmps8
  go_wp2_with (first
    | (go_at_call 11; refine (hN _ HT.out).mono ?_; rintro e w1 ⟨rfl, hw⟩; rw [hw]; clear hw)
    | (go_at_call 22; refine (hR1 _).mono ?_; rintro e w1 ⟨rfl, hw⟩; rw [hw]; clear hw hR1)
    | (go_at_call 22; refine (hR2 _).mono ?_; rintro e w1 ⟨rfl, hw⟩; rw [hw]; clear hw hR2))
  clear hN hA1 hA2 hA3 hA'
  go_loopw [6, 8, 9] (fun t m f wr => ∃ (T : List UInt8) (x : Nat) (b : Bool), t = .string (str T) ∧ m = .int .u32 x ∧ f = .bool b ∧ Hid (Rf.Dg 10 10 Rf.digB n x b T) ∧ x ≤ 4294967295 ∧ Below w.heap.size w wr) (fun _ m f _ => (intOf m).toNat + bitOf f)
  case atStart => exact ⟨[], n, true, rfl, rfl, rfl, Rf.Dg.start 10 10 _ n (by omega) hn, hn, Below.refl _ _⟩
  case round =>
    obtain ⟨T, x, b, rfl, rfl, rfl, HG, hx, hB⟩ := hrel
    by_cases hgo : b = true ∨ 0 < x
    · have hlt : x % 10 < 10 := Nat.mod_lt _ (by omega)
      have hf := Rf.tnD_fine (x % 10) hlt
      have HS : Hid (Rf.Dg 10 10 Rf.digB n (x / 10) false (Rf.tnD (x % 10) :: T)) := HG.out.step (by omega) (by omega) _ hf.1 hf.2.1 hgo
      have hcv := one_byte wr (Rf.tnD (x % 10)) (48 + (x : Int) % 10) (by rw [hf.2.2]; omega)
      have hct : str [Rf.tnD (x % 10)] ++ str T = str (Rf.tnD (x % 10) :: T) := str_cat _ _
      have hs1 : (str [Rf.tnD (x % 10)]).size = 1 := str_size _
      have hs2 := str_size T
      have hTl := HG.out.len
      have hsz := hB.size
      have hB2 : Below w.heap.size w (wr.alloc (.cells #[.int .u8 (48 + (x : Int) % 10)] 5)) := hB.alloc hsz _
      rcases hgo with rfl | h0
      · go_wp2
        go_roundw
        case rel => exact ⟨_, x / 10, false, rfl, by go_num, rfl, HS, by omega, hB2⟩
        case measure => simp [intOf, bitOf]; omega
      · have h0' : (0 : Int) < (x : Int) := by omega
        cases b
        · go_wp2
          go_roundw
          case rel => exact ⟨_, x / 10, false, rfl, by go_num, rfl, HS, by omega, hB2⟩
          case measure => simp [intOf, bitOf]; omega
        · go_wp2
          go_roundw
          case rel => exact ⟨_, x / 10, false, rfl, by go_num, rfl, HS, by omega, hB2⟩
          case measure => simp [intOf, bitOf]; omega
    · have hb : b = false := by
        cases b
        · rfl
        · exact absurd (.inl rfl) hgo
      have hx0 : x = 0 := by omega
      subst hb hx0
      have HG' : Hid (Rf.foldCap 10 0 T = n ∧ T.all Rf.digB = true ∧ T ≠ [] ∧ T.length ≤ 10) := HG.out.zero
      clear HG hgo hx
      go_wp2
      go_loop [7, 10, 11] (fun t m f => ∃ (H : List UInt8) (x : Nat) (b : Bool), t = .string (str H) ∧ m = .int .u32 x ∧ f = .bool b ∧ Hid (Rf.Dg 16 8 Rf.hexB n x b H) ∧ x ≤ 4294967295) (fun _ m f => (intOf m).toNat + bitOf f)
      case atStart => exact ⟨[], n, true, rfl, rfl, rfl, Rf.Dg.start 16 8 _ n (by omega) hn, hn⟩
      case round =>
        obtain ⟨H, x, b, rfl, rfl, rfl, HG, hx⟩ := hrel
        by_cases hgo : b = true ∨ 0 < x
        · have hlt : x % 16 < 16 := Nat.mod_lt _ (by omega)
          have hf := Rf.hxD_fine (x % 16) hlt
          have HS : Hid (Rf.Dg 16 8 Rf.hexB n (x / 16) false (Rf.hxD (x % 16) :: H)) := HG.out.step (by omega) (by omega) _ hf.1 hf.2 hgo
          have hlc : (⟨#[48, 49, 50, 51, 52, 53, 54, 55, 56, 57, 97, 98, 99, 100, 101, 102]⟩ : ByteArray).extract (x % 16) (x % 16 + 1) = str [Rf.hxD (x % 16)] := lit_cut _ hlt
          have hct : str [Rf.hxD (x % 16)] ++ str H = str (Rf.hxD (x % 16) :: H) := str_cat _ _
          have hs1 : (str [Rf.hxD (x % 16)]).size = 1 := str_size _
          have hs2 := str_size H
          have hHl := HG.out.len
          have hltI : (x : Int) % 16 < 16 := by omega
          have h0I : (0 : Int) ≤ (x : Int) % 16 := by omega
          clear hf
          rcases hgo with rfl | h0
          · go_wp2
            go_round
            case rel => exact ⟨_, x / 16, false, rfl, by go_num, rfl, HS, by omega⟩
            case measure => simp [intOf, bitOf]; omega
          · have h0' : (0 : Int) < (x : Int) := by omega
            cases b
            · go_wp2
              go_round
              case rel => exact ⟨_, x / 16, false, rfl, by go_num, rfl, HS, by omega⟩
              case measure => simp [intOf, bitOf]; omega
            · go_wp2
              go_round
              case rel => exact ⟨_, x / 16, false, rfl, by go_num, rfl, HS, by omega⟩
              case measure => simp [intOf, bitOf]; omega
        · have hb : b = false := by
            cases b
            · rfl
            · exact absurd (.inl rfl) hgo
          have hx0 : x = 0 := by omega
          subst hb hx0
          have HH' : Hid (Rf.foldCap 16 0 H = n ∧ H.all Rf.hexB = true ∧ H ≠ [] ∧ H.length ≤ 8) := HG.out.zero
          clear HG hgo hx
          go_wp2
          go_loop [6, 7, 73] (fun t h i => ∃ (k : Nat) (T H : List UInt8), k ≤ z % 20 ∧ i = .int .u8 k ∧ t = .string (str T) ∧ h = .string (str H) ∧ T.length ≤ 10 + k ∧ H.length ≤ 8 + k ∧ Hid ((Rf.foldCap 10 0 T = n ∧ T.all Rf.digB = true ∧ T ≠ []) ∧ (Rf.foldCap 16 0 H = n ∧ H.all Rf.hexB = true ∧ H ≠ []))) (fun _ _ i => 20 - (intOf i).toNat)
          case atStart => exact ⟨0, T, H, Nat.zero_le _, rfl, rfl, rfl, HG'.out.2.2.2, HH'.out.2.2.2, ⟨HG'.out.1, HG'.out.2.1, HG'.out.2.2.1⟩, HH'.out.1, HH'.out.2.1, HH'.out.2.2.1⟩
          case round =>
            clear HG' HH'
            obtain ⟨k, T, H, hk, rfl, rfl, rfl, hTl, hHl, HF⟩ := hrel
            have hz20 : z % 20 < 20 := Nat.mod_lt _ (by omega)
            have hs1 := str_size T
            have hs2 := str_size H
            by_cases hlt : k < z % 20
            · have hltI : (k : Int) < (z : Int) % 20 := by omega
              have hc1 : (⟨#[48]⟩ : ByteArray) ++ str T = str (48 :: T) := str_cat [48] T
              have hc2 : (⟨#[48]⟩ : ByteArray) ++ str H = str (48 :: H) := str_cat [48] H
              have HN : Hid ((Rf.foldCap 10 0 (48 :: T) = n ∧ (48 :: T).all Rf.digB = true ∧ 48 :: T ≠ []) ∧ (Rf.foldCap 16 0 (48 :: H) = n ∧ (48 :: H).all Rf.hexB = true ∧ 48 :: H ≠ [])) := by
                obtain ⟨⟨f1, f2, f3⟩, g1, g2, g3⟩ := HF.out
                refine ⟨⟨by rw [Rf.fold_zero]; exact f1, by rw [List.all_cons, f2]; rfl, by simp⟩, by rw [Rf.fold_zero]; exact g1, by rw [List.all_cons, g2]; rfl, by simp⟩
              go_wp2
              go_round
              case rel => exact ⟨k + 1, 48 :: T, 48 :: H, by omega, by go_num, rfl, rfl, by simp; omega, by simp; omega, HN⟩
              case measure => simp [intOf]; omega
            · have hltI : ¬ (k : Int) < (z : Int) % 20 := by omega
              obtain ⟨⟨f1, f2, f3⟩, g1, g2, g3⟩ := HF.out
              have e1 := HD1'.out T f2 f3 f1
              have e2 := HD2'.out 120 H (.inl rfl) g2 g3 g1
              have e3 := HD2'.out 88 H (.inr rfl) g2 g3 g1
              clear HF f1 f2 f3 g1 g2 g3 HD1' HD2'
              have ca1 : (⟨#[38, 35]⟩ : ByteArray) ++ str T = str (38 :: 35 :: T) := str_cat [38, 35] T
              have ca2 : str (38 :: 35 :: T) ++ (⟨#[59]⟩ : ByteArray) = str (38 :: 35 :: (T ++ [59])) := str_cat (38 :: 35 :: T) [59]
              have cx1 : (⟨#[38, 35, 120]⟩ : ByteArray) ++ str H = str (38 :: 35 :: 120 :: H) := str_cat [38, 35, 120] H
              have cx2 : str (38 :: 35 :: 120 :: H) ++ (⟨#[59]⟩ : ByteArray) = str (38 :: 35 :: 120 :: (H ++ [59])) := str_cat (38 :: 35 :: 120 :: H) [59]
              have cy1 : (⟨#[38, 35, 88]⟩ : ByteArray) ++ str H = str (38 :: 35 :: 88 :: H) := str_cat [38, 35, 88] H
              have cy2 : str (38 :: 35 :: 88 :: H) ++ (⟨#[59]⟩ : ByteArray) = str (38 :: 35 :: 88 :: (H ++ [59])) := str_cat (38 :: 35 :: 88 :: H) [59]
              have ca3 : str (38 :: 35 :: (T ++ [59])) ++ (⟨#[33]⟩ : ByteArray) = str (38 :: 35 :: (T ++ [59, 33])) := by
                have := str_cat (38 :: 35 :: (T ++ [59])) [33]
                simp only [List.cons_append, List.append_assoc, List.nil_append] at this
                exact this
              have cx3 : str (38 :: 35 :: 120 :: (H ++ [59])) ++ (⟨#[33]⟩ : ByteArray) = str (38 :: 35 :: 120 :: (H ++ [59, 33])) := by
                have := str_cat (38 :: 35 :: 120 :: (H ++ [59])) [33]
                simp only [List.cons_append, List.append_assoc, List.nil_append] at this
                exact this
              have cy3 : str (38 :: 35 :: 88 :: (H ++ [59])) ++ (⟨#[33]⟩ : ByteArray) = str (38 :: 35 :: 88 :: (H ++ [59, 33])) := by
                have := str_cat (38 :: 35 :: 88 :: (H ++ [59])) [33]
                simp only [List.cons_append, List.append_assoc, List.nil_append] at this
                exact this
              have cb : str (38 :: 35 :: T) ++ (⟨#[32]⟩ : ByteArray) = str (38 :: 35 :: (T ++ [32])) := str_cat (38 :: 35 :: T) [32]
              have ce1 : str E ++ (⟨#[33]⟩ : ByteArray) = str (E ++ [33]) := str_cat E [33]
              have ce2 : str E ++ (⟨#[32]⟩ : ByteArray) = str (E ++ [32]) := str_cat E [32]
              have D0 := fun W hW => Decode_any (38 :: 35 :: (T ++ [59])) false W (by simp; omega) hW
              have D0' := fun W hW => Decode_any (38 :: 35 :: (T ++ [59, 33])) true W (by simp; omega) hW
              have D1 := fun W hW => Decode_any (38 :: 35 :: 120 :: (H ++ [59])) false W (by simp; omega) hW
              have D1' := fun W hW => Decode_any (38 :: 35 :: 120 :: (H ++ [59, 33])) true W (by simp; omega) hW
              have D2 := fun W hW => Decode_any (38 :: 35 :: 88 :: (H ++ [59])) false W (by simp; omega) hW
              have D2' := fun W hW => Decode_any (38 :: 35 :: 88 :: (H ++ [59, 33])) true W (by simp; omega) hW
              have D3 := fun W hW => Decode_any (38 :: 35 :: (T ++ [32])) false W (by simp; omega) hW
              rw [e1.1] at D0
              rw [e1.2.1] at D0'
              rw [e1.2.2] at D3
              rw [e2.1] at D1
              rw [e2.2] at D1'
              rw [e3.1] at D2
              rw [e3.2] at D2'
              clear e1 e2 e3
              have hz0 : (str (38 :: 35 :: T)).size ≤ 100 := by rw [str_size]; simp; omega
              have hz1 : (str (38 :: 35 :: 120 :: H)).size ≤ 100 := by rw [str_size]; simp; omega
              have hz2 : (str (38 :: 35 :: 88 :: H)).size ≤ 100 := by rw [str_size]; simp; omega
              have hz3 : (str (38 :: 35 :: (T ++ [59]))).size ≤ 100 := by rw [str_size]; simp; omega
              have hz4 : (str (38 :: 35 :: 120 :: (H ++ [59]))).size ≤ 100 := by rw [str_size]; simp; omega
              have hz5 : (str (38 :: 35 :: 88 :: (H ++ [59]))).size ≤ 100 := by rw [str_size]; simp; omega
              have hz6 : (str (38 :: 35 :: (T ++ [59, 33]))).size ≤ 100 := by rw [str_size]; simp; omega
              have hz7 : (str (38 :: 35 :: 120 :: (H ++ [59, 33]))).size ≤ 100 := by rw [str_size]; simp; omega
              have hz8 : (str (38 :: 35 :: 88 :: (H ++ [59, 33]))).size ≤ 100 := by rw [str_size]; simp; omega
              have hz9 : (str (38 :: 35 :: (T ++ [32]))).size ≤ 100 := by rw [str_size]; simp; omega
              have hzE : (str E).size ≤ 4 := by rw [str_size]; exact hel.1
              generalize 38 :: 35 :: T = T0 at *
              generalize 38 :: 35 :: 120 :: H = H0 at *
              generalize 38 :: 35 :: 88 :: H = H1 at *
              generalize 38 :: 35 :: (T ++ [59]) = S0 at *
              generalize 38 :: 35 :: 120 :: (H ++ [59]) = S1 at *
              generalize 38 :: 35 :: 88 :: (H ++ [59]) = S2 at *
              generalize 38 :: 35 :: (T ++ [59, 33]) = S0' at *
              generalize 38 :: 35 :: 120 :: (H ++ [59, 33]) = S1' at *
              generalize 38 :: 35 :: 88 :: (H ++ [59, 33]) = S2' at *
              generalize 38 :: 35 :: (T ++ [32]) = S3 at *
              have hsz := hB.size
              go_wp2_with (go_at_call 23; refine (hP _).mono ?_; rintro e w5 ⟨v5, rfl, ho5, hb5⟩; replace hB := bel hB hb5; clear hb5; have hcv := conv_owned ho5; obtain ⟨g5, cap5, rfl, _⟩ := owns_src ho5 hel.2)
              have hc3 := three_cells w5 (str S0) (str S1) (str S2) 9
              have hsz5 := hB.size
              have hB5 : Below w.heap.size w (w5.alloc (.cells #[.string (str S0), .string (str S1), .string (str S2)] 9)) := hB.alloc hsz5 _
              have hq1 := beq_self_eq_true (str E).toList
              have hq2 := beq_self_eq_true (str (E ++ [33])).toList
              have hq3 := beq_self_eq_true (str (E ++ [32])).toList
              go_loopw [95] (fun i wr' => ∃ k : Nat, k ≤ 3 ∧ i = .int .i64 k ∧ Below (w5.heap.size + 1) (w5.alloc (.cells #[.string (str S0), .string (str S1), .string (str S2)] 9)) wr') (fun i _ => 3 - (intOf i).toNat)
              case atStart => exact ⟨0, by omega, rfl, Below.refl _ _⟩
              case round =>
                obtain ⟨k, hk3, rfl, hB6⟩ := hrel
                have hB7 := hB5.trans (hB6.mono (by omega))
                have hc0 := (hB6.cell (p := ⟨w5.heap.size, 0, none⟩) (by simp)).trans hc3.1
                have hc1 := (hB6.cell (p := ⟨w5.heap.size, 1, none⟩) (by simp)).trans hc3.2.1
                have hc2 := (hB6.cell (p := ⟨w5.heap.size, 2, none⟩) (by simp)).trans hc3.2.2
                have hs6 := hB6.size
                simp at hs6
                rcases (show k = 0 ∨ k = 1 ∨ k = 2 ∨ k = 3 from by omega) with rfl | rfl | rfl | rfl
                · go_wp2_with (first
                    | (go_at_call 17; refine (D0 _ (HT.out.below hB7)).mono ?_; rintro e w8 ⟨rfl, hb8⟩; replace hB7 := bel hB7 hb8; replace hB6 := hB6.trans (hb8.mono (by omega)); have hs8 := hb8.size; clear hb8 D0)
                    | (go_at_call 17; refine (D0' _ (HT.out.below hB7)).mono ?_; rintro e w9 ⟨rfl, hb9⟩; replace hB6 := hB6.trans (hb9.mono (by omega)); clear hb9 D0'))
                  go_roundw
                  case rel => exact ⟨1, by omega, by go_num, hB6⟩
                  case measure => simp [intOf]
                · go_wp2_with (first
                    | (go_at_call 17; refine (D1 _ (HT.out.below hB7)).mono ?_; rintro e w8 ⟨rfl, hb8⟩; replace hB7 := bel hB7 hb8; replace hB6 := hB6.trans (hb8.mono (by omega)); have hs8 := hb8.size; clear hb8 D1)
                    | (go_at_call 17; refine (D1' _ (HT.out.below hB7)).mono ?_; rintro e w9 ⟨rfl, hb9⟩; replace hB6 := hB6.trans (hb9.mono (by omega)); clear hb9 D1'))
                  go_roundw
                  case rel => exact ⟨2, by omega, by go_num, hB6⟩
                  case measure => simp [intOf]
                · go_wp2_with (first
                    | (go_at_call 17; refine (D2 _ (HT.out.below hB7)).mono ?_; rintro e w8 ⟨rfl, hb8⟩; replace hB7 := bel hB7 hb8; replace hB6 := hB6.trans (hb8.mono (by omega)); have hs8 := hb8.size; clear hb8 D2)
                    | (go_at_call 17; refine (D2' _ (HT.out.below hB7)).mono ?_; rintro e w9 ⟨rfl, hb9⟩; replace hB6 := hB6.trans (hb9.mono (by omega)); clear hb9 D2'))
                  go_roundw
                  case rel => exact ⟨3, by omega, by go_num, hB6⟩
                  case measure => simp [intOf]
                · go_wp2_with (first
                    | (go_at_call 17; refine (D3 _ (HT.out.below hB7)).mono ?_; rintro e w8 ⟨rfl, hb8⟩; replace hB7 := bel hB7 hb8; clear hb8)
                    | (go_at_call 13; refine (alive11_any _ (HT.out.below hB7)).mono ?_; rintro e w9 ⟨rfl, hb9⟩; replace hB7 := bel hB7 hb9; clear hb9))
                  go_ret
                  exact ⟨rfl, hB7⟩
set_option maxHeartbeats 4000000 in
set_option maxRecDepth 100000 in
theorem walkC (n : Nat) (z : Nat) (w : World) (hn : n ≤ 4294967295) (hz : z ≤ 255) (hT : Win w) (hA1 : 160 ≤ n) (hA2 : n ≤ 1114111) (hA3 : Rf.numSign n = n) :
    Calls Tryd.prog 8 #[.int .u32 n, .int .u8 z] w fun e w' => e = .returned (.bool true) ∧ Below w.heap.size w w' := by
  have HT : Hid (Win w) := hT
  have hN := fun W hW => Number11_any (n : Int) W (by omega) (by omega) hW
  have hrt : Utf.right (Rf.numSign n) = true := by
    unfold Utf.right
    have := Rf.numSign_bd (n : Int) (by omega)
    exact decide_eq_true this
  have hA' : (160 : Int) ≤ (n : Int) := by omega
  have hA'' : (n : Int) ≤ 1114111 := by omega
  have hR1 : ∀ W, Calls Tryd.prog 22 #[.int .i32 (Rf.numSign n)] W fun e w' => e = .returned (.bool true) ∧ w' = W := fun W => by
    have := Right_n (Rf.numSign n) W
    rw [hrt] at this
    exact this
  have hP := RPut_one (Rf.numSign n)
  have hel := Utf.enc_len (Rf.numSign n)
  have HD1 : ∀ T : List UInt8, T.all Rf.digB = true → T ≠ [] → Rf.foldCap 10 0 T = n → Rf.dec false (38 :: 35 :: (T ++ [59])) = Lib.encodeRune (Rf.numSign n) ∧ Rf.dec true (38 :: 35 :: (T ++ [59, 33])) = Lib.encodeRune (Rf.numSign n) ++ [33] ∧ Rf.dec false (38 :: 35 :: (T ++ [32])) = Lib.encodeRune (Rf.numSign n) ++ [32] := fun T h1 h2 h3 => ⟨Rf.ten_end T n h1 h2 h3, Rf.ten_bang T n h1 h2 h3, Rf.ten_blank T n h1 h2 h3⟩
  have HD2 : ∀ (x : UInt8) (T : List UInt8), x = 120 ∨ x = 88 → T.all Rf.hexB = true → T ≠ [] → Rf.foldCap 16 0 T = n → Rf.dec false (38 :: 35 :: x :: (T ++ [59])) = Lib.encodeRune (Rf.numSign n) ∧ Rf.dec true (38 :: 35 :: x :: (T ++ [59, 33])) = Lib.encodeRune (Rf.numSign n) ++ [33] := fun x T h0 h1 h2 h3 => ⟨Rf.hex_end x h0 T n h1 h2 h3, Rf.hex_bang x h0 T n h1 h2 h3⟩
  have HD1' : Hid (∀ T : List UInt8, T.all Rf.digB = true → T ≠ [] → Rf.foldCap 10 0 T = n → Rf.dec false (38 :: 35 :: (T ++ [59])) = Lib.encodeRune (Rf.numSign n) ∧ Rf.dec true (38 :: 35 :: (T ++ [59, 33])) = Lib.encodeRune (Rf.numSign n) ++ [33] ∧ Rf.dec false (38 :: 35 :: (T ++ [32])) = Lib.encodeRune (Rf.numSign n) ++ [32]) := HD1
  have HD2' : Hid (∀ (x : UInt8) (T : List UInt8), x = 120 ∨ x = 88 → T.all Rf.hexB = true → T ≠ [] → Rf.foldCap 16 0 T = n → Rf.dec false (38 :: 35 :: x :: (T ++ [59])) = Lib.encodeRune (Rf.numSign n) ∧ Rf.dec true (38 :: 35 :: x :: (T ++ [59, 33])) = Lib.encodeRune (Rf.numSign n) ++ [33]) := HD2
  clear HD1 HD2 hT
  generalize Rf.numSign n = c at *
  subst hA3
  generalize Lib.encodeRune _ = E at *
  clear hrt
  go_enter Tryd.func8, Tryd.ntmps8
  go_wp2_with (first
    | (go_at_call 11; refine (hN _ HT.out).mono ?_; rintro e w1 ⟨rfl, hw⟩; rw [hw]; clear hw)
    | (go_at_call 22; refine (hR1 _).mono ?_; rintro e w1 ⟨rfl, hw⟩; rw [hw]; clear hw))
  clear hN hA1 hA2 hA' hA''
  go_loopw [6, 8, 9] (fun t m f wr => ∃ (T : List UInt8) (x : Nat) (b : Bool), t = .string (str T) ∧ m = .int .u32 x ∧ f = .bool b ∧ Hid (Rf.Dg 10 10 Rf.digB n x b T) ∧ x ≤ 4294967295 ∧ Below w.heap.size w wr) (fun _ m f _ => (intOf m).toNat + bitOf f)
  case atStart => exact ⟨[], n, true, rfl, rfl, rfl, Rf.Dg.start 10 10 _ n (by omega) hn, hn, Below.refl _ _⟩
  case round =>
    obtain ⟨T, x, b, rfl, rfl, rfl, HG, hx, hB⟩ := hrel
    by_cases hgo : b = true ∨ 0 < x
    · have hlt : x % 10 < 10 := Nat.mod_lt _ (by omega)
      have hf := Rf.tnD_fine (x % 10) hlt
      have HS : Hid (Rf.Dg 10 10 Rf.digB n (x / 10) false (Rf.tnD (x % 10) :: T)) := HG.out.step (by omega) (by omega) _ hf.1 hf.2.1 hgo
      have hcv := one_byte wr (Rf.tnD (x % 10)) (48 + (x : Int) % 10) (by rw [hf.2.2]; omega)
      have hct : str [Rf.tnD (x % 10)] ++ str T = str (Rf.tnD (x % 10) :: T) := str_cat _ _
      have hs1 : (str [Rf.tnD (x % 10)]).size = 1 := str_size _
      have hs2 := str_size T
      have hTl := HG.out.len
      have hsz := hB.size
      have hB2 : Below w.heap.size w (wr.alloc (.cells #[.int .u8 (48 + (x : Int) % 10)] 5)) := hB.alloc hsz _
      rcases hgo with rfl | h0
      · go_wp2
        go_roundw
        case rel => exact ⟨_, x / 10, false, rfl, by go_num, rfl, HS, by omega, hB2⟩
        case measure => simp [intOf, bitOf]; omega
      · have h0' : (0 : Int) < (x : Int) := by omega
        cases b
        · go_wp2
          go_roundw
          case rel => exact ⟨_, x / 10, false, rfl, by go_num, rfl, HS, by omega, hB2⟩
          case measure => simp [intOf, bitOf]; omega
        · go_wp2
          go_roundw
          case rel => exact ⟨_, x / 10, false, rfl, by go_num, rfl, HS, by omega, hB2⟩
          case measure => simp [intOf, bitOf]; omega
    · have hb : b = false := by
        cases b
        · rfl
        · exact absurd (.inl rfl) hgo
      have hx0 : x = 0 := by omega
      subst hb hx0
      have HG' : Hid (Rf.foldCap 10 0 T = n ∧ T.all Rf.digB = true ∧ T ≠ [] ∧ T.length ≤ 10) := HG.out.zero
      clear HG hgo hx
      go_wp2
      go_loop [7, 10, 11] (fun t m f => ∃ (H : List UInt8) (x : Nat) (b : Bool), t = .string (str H) ∧ m = .int .u32 x ∧ f = .bool b ∧ Hid (Rf.Dg 16 8 Rf.hexB n x b H) ∧ x ≤ 4294967295) (fun _ m f => (intOf m).toNat + bitOf f)
      case atStart => exact ⟨[], n, true, rfl, rfl, rfl, Rf.Dg.start 16 8 _ n (by omega) hn, hn⟩
      case round =>
        obtain ⟨H, x, b, rfl, rfl, rfl, HG, hx⟩ := hrel
        by_cases hgo : b = true ∨ 0 < x
        · have hlt : x % 16 < 16 := Nat.mod_lt _ (by omega)
          have hf := Rf.hxD_fine (x % 16) hlt
          have HS : Hid (Rf.Dg 16 8 Rf.hexB n (x / 16) false (Rf.hxD (x % 16) :: H)) := HG.out.step (by omega) (by omega) _ hf.1 hf.2 hgo
          have hlc : (⟨#[48, 49, 50, 51, 52, 53, 54, 55, 56, 57, 97, 98, 99, 100, 101, 102]⟩ : ByteArray).extract (x % 16) (x % 16 + 1) = str [Rf.hxD (x % 16)] := lit_cut _ hlt
          have hct : str [Rf.hxD (x % 16)] ++ str H = str (Rf.hxD (x % 16) :: H) := str_cat _ _
          have hs1 : (str [Rf.hxD (x % 16)]).size = 1 := str_size _
          have hs2 := str_size H
          have hHl := HG.out.len
          have hltI : (x : Int) % 16 < 16 := by omega
          have h0I : (0 : Int) ≤ (x : Int) % 16 := by omega
          clear hf
          rcases hgo with rfl | h0
          · go_wp2
            go_round
            case rel => exact ⟨_, x / 16, false, rfl, by go_num, rfl, HS, by omega⟩
            case measure => simp [intOf, bitOf]; omega
          · have h0' : (0 : Int) < (x : Int) := by omega
            cases b
            · go_wp2
              go_round
              case rel => exact ⟨_, x / 16, false, rfl, by go_num, rfl, HS, by omega⟩
              case measure => simp [intOf, bitOf]; omega
            · go_wp2
              go_round
              case rel => exact ⟨_, x / 16, false, rfl, by go_num, rfl, HS, by omega⟩
              case measure => simp [intOf, bitOf]; omega
        · have hb : b = false := by
            cases b
            · rfl
            · exact absurd (.inl rfl) hgo
          have hx0 : x = 0 := by omega
          subst hb hx0
          have HH' : Hid (Rf.foldCap 16 0 H = n ∧ H.all Rf.hexB = true ∧ H ≠ [] ∧ H.length ≤ 8) := HG.out.zero
          clear HG hgo hx
          go_wp2
          go_loop [6, 7, 73] (fun t h i => ∃ (k : Nat) (T H : List UInt8), k ≤ z % 20 ∧ i = .int .u8 k ∧ t = .string (str T) ∧ h = .string (str H) ∧ T.length ≤ 10 + k ∧ H.length ≤ 8 + k ∧ Hid ((Rf.foldCap 10 0 T = n ∧ T.all Rf.digB = true ∧ T ≠ []) ∧ (Rf.foldCap 16 0 H = n ∧ H.all Rf.hexB = true ∧ H ≠ []))) (fun _ _ i => 20 - (intOf i).toNat)
          case atStart => exact ⟨0, T, H, Nat.zero_le _, rfl, rfl, rfl, HG'.out.2.2.2, HH'.out.2.2.2, ⟨HG'.out.1, HG'.out.2.1, HG'.out.2.2.1⟩, HH'.out.1, HH'.out.2.1, HH'.out.2.2.1⟩
          case round =>
            clear HG' HH'
            obtain ⟨k, T, H, hk, rfl, rfl, rfl, hTl, hHl, HF⟩ := hrel
            have hz20 : z % 20 < 20 := Nat.mod_lt _ (by omega)
            have hs1 := str_size T
            have hs2 := str_size H
            by_cases hlt : k < z % 20
            · have hltI : (k : Int) < (z : Int) % 20 := by omega
              have hc1 : (⟨#[48]⟩ : ByteArray) ++ str T = str (48 :: T) := str_cat [48] T
              have hc2 : (⟨#[48]⟩ : ByteArray) ++ str H = str (48 :: H) := str_cat [48] H
              have HN : Hid ((Rf.foldCap 10 0 (48 :: T) = n ∧ (48 :: T).all Rf.digB = true ∧ 48 :: T ≠ []) ∧ (Rf.foldCap 16 0 (48 :: H) = n ∧ (48 :: H).all Rf.hexB = true ∧ 48 :: H ≠ [])) := by
                obtain ⟨⟨f1, f2, f3⟩, g1, g2, g3⟩ := HF.out
                refine ⟨⟨by rw [Rf.fold_zero]; exact f1, by rw [List.all_cons, f2]; rfl, by simp⟩, by rw [Rf.fold_zero]; exact g1, by rw [List.all_cons, g2]; rfl, by simp⟩
              go_wp2
              go_round
              case rel => exact ⟨k + 1, 48 :: T, 48 :: H, by omega, by go_num, rfl, rfl, by simp; omega, by simp; omega, HN⟩
              case measure => simp [intOf]; omega
            · have hltI : ¬ (k : Int) < (z : Int) % 20 := by omega
              obtain ⟨⟨f1, f2, f3⟩, g1, g2, g3⟩ := HF.out
              have e1 := HD1'.out T f2 f3 f1
              have e2 := HD2'.out 120 H (.inl rfl) g2 g3 g1
              have e3 := HD2'.out 88 H (.inr rfl) g2 g3 g1
              clear HF f1 f2 f3 g1 g2 g3 HD1' HD2'
              have ca1 : (⟨#[38, 35]⟩ : ByteArray) ++ str T = str (38 :: 35 :: T) := str_cat [38, 35] T
              have ca2 : str (38 :: 35 :: T) ++ (⟨#[59]⟩ : ByteArray) = str (38 :: 35 :: (T ++ [59])) := str_cat (38 :: 35 :: T) [59]
              have cx1 : (⟨#[38, 35, 120]⟩ : ByteArray) ++ str H = str (38 :: 35 :: 120 :: H) := str_cat [38, 35, 120] H
              have cx2 : str (38 :: 35 :: 120 :: H) ++ (⟨#[59]⟩ : ByteArray) = str (38 :: 35 :: 120 :: (H ++ [59])) := str_cat (38 :: 35 :: 120 :: H) [59]
              have cy1 : (⟨#[38, 35, 88]⟩ : ByteArray) ++ str H = str (38 :: 35 :: 88 :: H) := str_cat [38, 35, 88] H
              have cy2 : str (38 :: 35 :: 88 :: H) ++ (⟨#[59]⟩ : ByteArray) = str (38 :: 35 :: 88 :: (H ++ [59])) := str_cat (38 :: 35 :: 88 :: H) [59]
              have ca3 : str (38 :: 35 :: (T ++ [59])) ++ (⟨#[33]⟩ : ByteArray) = str (38 :: 35 :: (T ++ [59, 33])) := by
                have := str_cat (38 :: 35 :: (T ++ [59])) [33]
                simp only [List.cons_append, List.append_assoc, List.nil_append] at this
                exact this
              have cx3 : str (38 :: 35 :: 120 :: (H ++ [59])) ++ (⟨#[33]⟩ : ByteArray) = str (38 :: 35 :: 120 :: (H ++ [59, 33])) := by
                have := str_cat (38 :: 35 :: 120 :: (H ++ [59])) [33]
                simp only [List.cons_append, List.append_assoc, List.nil_append] at this
                exact this
              have cy3 : str (38 :: 35 :: 88 :: (H ++ [59])) ++ (⟨#[33]⟩ : ByteArray) = str (38 :: 35 :: 88 :: (H ++ [59, 33])) := by
                have := str_cat (38 :: 35 :: 88 :: (H ++ [59])) [33]
                simp only [List.cons_append, List.append_assoc, List.nil_append] at this
                exact this
              have cb : str (38 :: 35 :: T) ++ (⟨#[32]⟩ : ByteArray) = str (38 :: 35 :: (T ++ [32])) := str_cat (38 :: 35 :: T) [32]
              have ce1 : str E ++ (⟨#[33]⟩ : ByteArray) = str (E ++ [33]) := str_cat E [33]
              have ce2 : str E ++ (⟨#[32]⟩ : ByteArray) = str (E ++ [32]) := str_cat E [32]
              have D0 := fun W hW => Decode_any (38 :: 35 :: (T ++ [59])) false W (by simp; omega) hW
              have D0' := fun W hW => Decode_any (38 :: 35 :: (T ++ [59, 33])) true W (by simp; omega) hW
              have D1 := fun W hW => Decode_any (38 :: 35 :: 120 :: (H ++ [59])) false W (by simp; omega) hW
              have D1' := fun W hW => Decode_any (38 :: 35 :: 120 :: (H ++ [59, 33])) true W (by simp; omega) hW
              have D2 := fun W hW => Decode_any (38 :: 35 :: 88 :: (H ++ [59])) false W (by simp; omega) hW
              have D2' := fun W hW => Decode_any (38 :: 35 :: 88 :: (H ++ [59, 33])) true W (by simp; omega) hW
              have D3 := fun W hW => Decode_any (38 :: 35 :: (T ++ [32])) false W (by simp; omega) hW
              rw [e1.1] at D0
              rw [e1.2.1] at D0'
              rw [e1.2.2] at D3
              rw [e2.1] at D1
              rw [e2.2] at D1'
              rw [e3.1] at D2
              rw [e3.2] at D2'
              clear e1 e2 e3
              have hz0 : (str (38 :: 35 :: T)).size ≤ 100 := by rw [str_size]; simp; omega
              have hz1 : (str (38 :: 35 :: 120 :: H)).size ≤ 100 := by rw [str_size]; simp; omega
              have hz2 : (str (38 :: 35 :: 88 :: H)).size ≤ 100 := by rw [str_size]; simp; omega
              have hz3 : (str (38 :: 35 :: (T ++ [59]))).size ≤ 100 := by rw [str_size]; simp; omega
              have hz4 : (str (38 :: 35 :: 120 :: (H ++ [59]))).size ≤ 100 := by rw [str_size]; simp; omega
              have hz5 : (str (38 :: 35 :: 88 :: (H ++ [59]))).size ≤ 100 := by rw [str_size]; simp; omega
              have hz6 : (str (38 :: 35 :: (T ++ [59, 33]))).size ≤ 100 := by rw [str_size]; simp; omega
              have hz7 : (str (38 :: 35 :: 120 :: (H ++ [59, 33]))).size ≤ 100 := by rw [str_size]; simp; omega
              have hz8 : (str (38 :: 35 :: 88 :: (H ++ [59, 33]))).size ≤ 100 := by rw [str_size]; simp; omega
              have hz9 : (str (38 :: 35 :: (T ++ [32]))).size ≤ 100 := by rw [str_size]; simp; omega
              have hzE : (str E).size ≤ 4 := by rw [str_size]; exact hel.1
              generalize 38 :: 35 :: T = T0 at *
              generalize 38 :: 35 :: 120 :: H = H0 at *
              generalize 38 :: 35 :: 88 :: H = H1 at *
              generalize 38 :: 35 :: (T ++ [59]) = S0 at *
              generalize 38 :: 35 :: 120 :: (H ++ [59]) = S1 at *
              generalize 38 :: 35 :: 88 :: (H ++ [59]) = S2 at *
              generalize 38 :: 35 :: (T ++ [59, 33]) = S0' at *
              generalize 38 :: 35 :: 120 :: (H ++ [59, 33]) = S1' at *
              generalize 38 :: 35 :: 88 :: (H ++ [59, 33]) = S2' at *
              generalize 38 :: 35 :: (T ++ [32]) = S3 at *
              have hsz := hB.size
              go_wp2_with (go_at_call 23; refine (hP _).mono ?_; rintro e w5 ⟨v5, rfl, ho5, hb5⟩; replace hB := bel hB hb5; clear hb5; have hcv := conv_owned ho5; obtain ⟨g5, cap5, rfl, _⟩ := owns_src ho5 hel.2)
              have hc3 := three_cells w5 (str S0) (str S1) (str S2) 9
              have hsz5 := hB.size
              have hB5 : Below w.heap.size w (w5.alloc (.cells #[.string (str S0), .string (str S1), .string (str S2)] 9)) := hB.alloc hsz5 _
              have hq1 := beq_self_eq_true (str E).toList
              have hq2 := beq_self_eq_true (str (E ++ [33])).toList
              have hq3 := beq_self_eq_true (str (E ++ [32])).toList
              go_loopw [95] (fun i wr' => ∃ k : Nat, k ≤ 3 ∧ i = .int .i64 k ∧ Below (w5.heap.size + 1) (w5.alloc (.cells #[.string (str S0), .string (str S1), .string (str S2)] 9)) wr') (fun i _ => 3 - (intOf i).toNat)
              case atStart => exact ⟨0, by omega, rfl, Below.refl _ _⟩
              case round =>
                obtain ⟨k, hk3, rfl, hB6⟩ := hrel
                have hB7 := hB5.trans (hB6.mono (by omega))
                have hc0 := (hB6.cell (p := ⟨w5.heap.size, 0, none⟩) (by simp)).trans hc3.1
                have hc1 := (hB6.cell (p := ⟨w5.heap.size, 1, none⟩) (by simp)).trans hc3.2.1
                have hc2 := (hB6.cell (p := ⟨w5.heap.size, 2, none⟩) (by simp)).trans hc3.2.2
                have hs6 := hB6.size
                simp at hs6
                rcases (show k = 0 ∨ k = 1 ∨ k = 2 ∨ k = 3 from by omega) with rfl | rfl | rfl | rfl
                · go_wp2_with (first
                    | (go_at_call 17; refine (D0 _ (HT.out.below hB7)).mono ?_; rintro e w8 ⟨rfl, hb8⟩; replace hB7 := bel hB7 hb8; replace hB6 := hB6.trans (hb8.mono (by omega)); have hs8 := hb8.size; clear hb8 D0)
                    | (go_at_call 17; refine (D0' _ (HT.out.below hB7)).mono ?_; rintro e w9 ⟨rfl, hb9⟩; replace hB6 := hB6.trans (hb9.mono (by omega)); clear hb9 D0'))
                  go_roundw
                  case rel => exact ⟨1, by omega, by go_num, hB6⟩
                  case measure => simp [intOf]
                · go_wp2_with (first
                    | (go_at_call 17; refine (D1 _ (HT.out.below hB7)).mono ?_; rintro e w8 ⟨rfl, hb8⟩; replace hB7 := bel hB7 hb8; replace hB6 := hB6.trans (hb8.mono (by omega)); have hs8 := hb8.size; clear hb8 D1)
                    | (go_at_call 17; refine (D1' _ (HT.out.below hB7)).mono ?_; rintro e w9 ⟨rfl, hb9⟩; replace hB6 := hB6.trans (hb9.mono (by omega)); clear hb9 D1'))
                  go_roundw
                  case rel => exact ⟨2, by omega, by go_num, hB6⟩
                  case measure => simp [intOf]
                · go_wp2_with (first
                    | (go_at_call 17; refine (D2 _ (HT.out.below hB7)).mono ?_; rintro e w8 ⟨rfl, hb8⟩; replace hB7 := bel hB7 hb8; replace hB6 := hB6.trans (hb8.mono (by omega)); have hs8 := hb8.size; clear hb8 D2)
                    | (go_at_call 17; refine (D2' _ (HT.out.below hB7)).mono ?_; rintro e w9 ⟨rfl, hb9⟩; replace hB6 := hB6.trans (hb9.mono (by omega)); clear hb9 D2'))
                  go_roundw
                  case rel => exact ⟨3, by omega, by go_num, hB6⟩
                  case measure => simp [intOf]
                · go_wp2_with (first
                    | (go_at_call 17; refine (D3 _ (HT.out.below hB7)).mono ?_; rintro e w8 ⟨rfl, hb8⟩; replace hB7 := bel hB7 hb8; clear hb8)
                    | (go_at_call 13; refine (alive11_any _ (HT.out.below hB7)).mono ?_; rintro e w9 ⟨rfl, hb9⟩; replace hB7 := bel hB7 hb9; clear hb9))
                  go_ret
                  exact ⟨rfl, hB7⟩
set_option maxHeartbeats 4000000 in
set_option maxRecDepth 100000 in
theorem walkD (n : Nat) (z : Nat) (w : World) (hn : n ≤ 4294967295) (hz : z ≤ 255) (hT : Win w) (hA1 : 2147483648 ≤ n) (hA3 : Utf.right (wrap32 (n : Int)) = false) :
    Calls Tryd.prog 8 #[.int .u32 n, .int .u8 z] w fun e w' => e = .returned (.bool true) ∧ Below w.heap.size w w' := by
  have HT : Hid (Win w) := hT
  have hN := fun W hW => Number11_any (n : Int) W (by omega) (by omega) hW
  have hrt : Utf.right (Rf.numSign n) = true := by
    unfold Utf.right
    have := Rf.numSign_bd (n : Int) (by omega)
    exact decide_eq_true this
  have hA' : (160 : Int) ≤ (n : Int) := by omega
  have hR2 : ∀ W, Calls Tryd.prog 22 #[.int .i32 (wrap32 (n : Int))] W fun e w' => e = .returned (.bool false) ∧ w' = W := fun W => by
    have := Right_n (wrap32 (n : Int)) W
    rw [hA3] at this
    exact this
  have hR1 : ∀ W, Calls Tryd.prog 22 #[.int .i32 (Rf.numSign n)] W fun e w' => e = .returned (.bool true) ∧ w' = W := fun W => by
    have := Right_n (Rf.numSign n) W
    rw [hrt] at this
    exact this
  have hP := RPut_one (Rf.numSign n)
  have hel := Utf.enc_len (Rf.numSign n)
  have HD1 : ∀ T : List UInt8, T.all Rf.digB = true → T ≠ [] → Rf.foldCap 10 0 T = n → Rf.dec false (38 :: 35 :: (T ++ [59])) = Lib.encodeRune (Rf.numSign n) ∧ Rf.dec true (38 :: 35 :: (T ++ [59, 33])) = Lib.encodeRune (Rf.numSign n) ++ [33] ∧ Rf.dec false (38 :: 35 :: (T ++ [32])) = Lib.encodeRune (Rf.numSign n) ++ [32] := fun T h1 h2 h3 => ⟨Rf.ten_end T n h1 h2 h3, Rf.ten_bang T n h1 h2 h3, Rf.ten_blank T n h1 h2 h3⟩
  have HD2 : ∀ (x : UInt8) (T : List UInt8), x = 120 ∨ x = 88 → T.all Rf.hexB = true → T ≠ [] → Rf.foldCap 16 0 T = n → Rf.dec false (38 :: 35 :: x :: (T ++ [59])) = Lib.encodeRune (Rf.numSign n) ∧ Rf.dec true (38 :: 35 :: x :: (T ++ [59, 33])) = Lib.encodeRune (Rf.numSign n) ++ [33] := fun x T h0 h1 h2 h3 => ⟨Rf.hex_end x h0 T n h1 h2 h3, Rf.hex_bang x h0 T n h1 h2 h3⟩
  have HD1' : Hid (∀ T : List UInt8, T.all Rf.digB = true → T ≠ [] → Rf.foldCap 10 0 T = n → Rf.dec false (38 :: 35 :: (T ++ [59])) = Lib.encodeRune (Rf.numSign n) ∧ Rf.dec true (38 :: 35 :: (T ++ [59, 33])) = Lib.encodeRune (Rf.numSign n) ++ [33] ∧ Rf.dec false (38 :: 35 :: (T ++ [32])) = Lib.encodeRune (Rf.numSign n) ++ [32]) := HD1
  have HD2' : Hid (∀ (x : UInt8) (T : List UInt8), x = 120 ∨ x = 88 → T.all Rf.hexB = true → T ≠ [] → Rf.foldCap 16 0 T = n → Rf.dec false (38 :: 35 :: x :: (T ++ [59])) = Lib.encodeRune (Rf.numSign n) ∧ Rf.dec true (38 :: 35 :: x :: (T ++ [59, 33])) = Lib.encodeRune (Rf.numSign n) ++ [33]) := HD2
  clear HD1 HD2 hT
  generalize Rf.numSign n = c at *
  generalize Lib.encodeRune _ = E at *
  clear hrt
  go_enter Tryd.func8, Tryd.ntmps8
  go_wp2_with (first
    | (go_at_call 11; refine (hN _ HT.out).mono ?_; rintro e w1 ⟨rfl, hw⟩; rw [hw]; clear hw)
    | (go_at_call 22; refine (hR1 _).mono ?_; rintro e w1 ⟨rfl, hw⟩; rw [hw]; clear hw hR1)
    | (go_at_call 22; refine (hR2 _).mono ?_; rintro e w1 ⟨rfl, hw⟩; rw [hw]; clear hw hR2))
  clear hN hA1 hA3 hA'
  go_loopw [6, 8, 9] (fun t m f wr => ∃ (T : List UInt8) (x : Nat) (b : Bool), t = .string (str T) ∧ m = .int .u32 x ∧ f = .bool b ∧ Hid (Rf.Dg 10 10 Rf.digB n x b T) ∧ x ≤ 4294967295 ∧ Below w.heap.size w wr) (fun _ m f _ => (intOf m).toNat + bitOf f)
  case atStart => exact ⟨[], n, true, rfl, rfl, rfl, Rf.Dg.start 10 10 _ n (by omega) hn, hn, Below.refl _ _⟩
  case round =>
    obtain ⟨T, x, b, rfl, rfl, rfl, HG, hx, hB⟩ := hrel
    by_cases hgo : b = true ∨ 0 < x
    · have hlt : x % 10 < 10 := Nat.mod_lt _ (by omega)
      have hf := Rf.tnD_fine (x % 10) hlt
      have HS : Hid (Rf.Dg 10 10 Rf.digB n (x / 10) false (Rf.tnD (x % 10) :: T)) := HG.out.step (by omega) (by omega) _ hf.1 hf.2.1 hgo
      have hcv := one_byte wr (Rf.tnD (x % 10)) (48 + (x : Int) % 10) (by rw [hf.2.2]; omega)
      have hct : str [Rf.tnD (x % 10)] ++ str T = str (Rf.tnD (x % 10) :: T) := str_cat _ _
      have hs1 : (str [Rf.tnD (x % 10)]).size = 1 := str_size _
      have hs2 := str_size T
      have hTl := HG.out.len
      have hsz := hB.size
      have hB2 : Below w.heap.size w (wr.alloc (.cells #[.int .u8 (48 + (x : Int) % 10)] 5)) := hB.alloc hsz _
      rcases hgo with rfl | h0
      · go_wp2
        go_roundw
        case rel => exact ⟨_, x / 10, false, rfl, by go_num, rfl, HS, by omega, hB2⟩
        case measure => simp [intOf, bitOf]; omega
      · have h0' : (0 : Int) < (x : Int) := by omega
        cases b
        · go_wp2
          go_roundw
          case rel => exact ⟨_, x / 10, false, rfl, by go_num, rfl, HS, by omega, hB2⟩
          case measure => simp [intOf, bitOf]; omega
        · go_wp2
          go_roundw
          case rel => exact ⟨_, x / 10, false, rfl, by go_num, rfl, HS, by omega, hB2⟩
          case measure => simp [intOf, bitOf]; omega
    · have hb : b = false := by
        cases b
        · rfl
        · exact absurd (.inl rfl) hgo
      have hx0 : x = 0 := by omega
      subst hb hx0
      have HG' : Hid (Rf.foldCap 10 0 T = n ∧ T.all Rf.digB = true ∧ T ≠ [] ∧ T.length ≤ 10) := HG.out.zero
      clear HG hgo hx
      go_wp2
      go_loop [7, 10, 11] (fun t m f => ∃ (H : List UInt8) (x : Nat) (b : Bool), t = .string (str H) ∧ m = .int .u32 x ∧ f = .bool b ∧ Hid (Rf.Dg 16 8 Rf.hexB n x b H) ∧ x ≤ 4294967295) (fun _ m f => (intOf m).toNat + bitOf f)
      case atStart => exact ⟨[], n, true, rfl, rfl, rfl, Rf.Dg.start 16 8 _ n (by omega) hn, hn⟩
      case round =>
        obtain ⟨H, x, b, rfl, rfl, rfl, HG, hx⟩ := hrel
        by_cases hgo : b = true ∨ 0 < x
        · have hlt : x % 16 < 16 := Nat.mod_lt _ (by omega)
          have hf := Rf.hxD_fine (x % 16) hlt
          have HS : Hid (Rf.Dg 16 8 Rf.hexB n (x / 16) false (Rf.hxD (x % 16) :: H)) := HG.out.step (by omega) (by omega) _ hf.1 hf.2 hgo
          have hlc : (⟨#[48, 49, 50, 51, 52, 53, 54, 55, 56, 57, 97, 98, 99, 100, 101, 102]⟩ : ByteArray).extract (x % 16) (x % 16 + 1) = str [Rf.hxD (x % 16)] := lit_cut _ hlt
          have hct : str [Rf.hxD (x % 16)] ++ str H = str (Rf.hxD (x % 16) :: H) := str_cat _ _
          have hs1 : (str [Rf.hxD (x % 16)]).size = 1 := str_size _
          have hs2 := str_size H
          have hHl := HG.out.len
          have hltI : (x : Int) % 16 < 16 := by omega
          have h0I : (0 : Int) ≤ (x : Int) % 16 := by omega
          clear hf
          rcases hgo with rfl | h0
          · go_wp2
            go_round
            case rel => exact ⟨_, x / 16, false, rfl, by go_num, rfl, HS, by omega⟩
            case measure => simp [intOf, bitOf]; omega
          · have h0' : (0 : Int) < (x : Int) := by omega
            cases b
            · go_wp2
              go_round
              case rel => exact ⟨_, x / 16, false, rfl, by go_num, rfl, HS, by omega⟩
              case measure => simp [intOf, bitOf]; omega
            · go_wp2
              go_round
              case rel => exact ⟨_, x / 16, false, rfl, by go_num, rfl, HS, by omega⟩
              case measure => simp [intOf, bitOf]; omega
        · have hb : b = false := by
            cases b
            · rfl
            · exact absurd (.inl rfl) hgo
          have hx0 : x = 0 := by omega
          subst hb hx0
          have HH' : Hid (Rf.foldCap 16 0 H = n ∧ H.all Rf.hexB = true ∧ H ≠ [] ∧ H.length ≤ 8) := HG.out.zero
          clear HG hgo hx
          go_wp2
          go_loop [6, 7, 73] (fun t h i => ∃ (k : Nat) (T H : List UInt8), k ≤ z % 20 ∧ i = .int .u8 k ∧ t = .string (str T) ∧ h = .string (str H) ∧ T.length ≤ 10 + k ∧ H.length ≤ 8 + k ∧ Hid ((Rf.foldCap 10 0 T = n ∧ T.all Rf.digB = true ∧ T ≠ []) ∧ (Rf.foldCap 16 0 H = n ∧ H.all Rf.hexB = true ∧ H ≠ []))) (fun _ _ i => 20 - (intOf i).toNat)
          case atStart => exact ⟨0, T, H, Nat.zero_le _, rfl, rfl, rfl, HG'.out.2.2.2, HH'.out.2.2.2, ⟨HG'.out.1, HG'.out.2.1, HG'.out.2.2.1⟩, HH'.out.1, HH'.out.2.1, HH'.out.2.2.1⟩
          case round =>
            clear HG' HH'
            obtain ⟨k, T, H, hk, rfl, rfl, rfl, hTl, hHl, HF⟩ := hrel
            have hz20 : z % 20 < 20 := Nat.mod_lt _ (by omega)
            have hs1 := str_size T
            have hs2 := str_size H
            by_cases hlt : k < z % 20
            · have hltI : (k : Int) < (z : Int) % 20 := by omega
              have hc1 : (⟨#[48]⟩ : ByteArray) ++ str T = str (48 :: T) := str_cat [48] T
              have hc2 : (⟨#[48]⟩ : ByteArray) ++ str H = str (48 :: H) := str_cat [48] H
              have HN : Hid ((Rf.foldCap 10 0 (48 :: T) = n ∧ (48 :: T).all Rf.digB = true ∧ 48 :: T ≠ []) ∧ (Rf.foldCap 16 0 (48 :: H) = n ∧ (48 :: H).all Rf.hexB = true ∧ 48 :: H ≠ [])) := by
                obtain ⟨⟨f1, f2, f3⟩, g1, g2, g3⟩ := HF.out
                refine ⟨⟨by rw [Rf.fold_zero]; exact f1, by rw [List.all_cons, f2]; rfl, by simp⟩, by rw [Rf.fold_zero]; exact g1, by rw [List.all_cons, g2]; rfl, by simp⟩
              go_wp2
              go_round
              case rel => exact ⟨k + 1, 48 :: T, 48 :: H, by omega, by go_num, rfl, rfl, by simp; omega, by simp; omega, HN⟩
              case measure => simp [intOf]; omega
            · have hltI : ¬ (k : Int) < (z : Int) % 20 := by omega
              obtain ⟨⟨f1, f2, f3⟩, g1, g2, g3⟩ := HF.out
              have e1 := HD1'.out T f2 f3 f1
              have e2 := HD2'.out 120 H (.inl rfl) g2 g3 g1
              have e3 := HD2'.out 88 H (.inr rfl) g2 g3 g1
              clear HF f1 f2 f3 g1 g2 g3 HD1' HD2'
              have ca1 : (⟨#[38, 35]⟩ : ByteArray) ++ str T = str (38 :: 35 :: T) := str_cat [38, 35] T
              have ca2 : str (38 :: 35 :: T) ++ (⟨#[59]⟩ : ByteArray) = str (38 :: 35 :: (T ++ [59])) := str_cat (38 :: 35 :: T) [59]
              have cx1 : (⟨#[38, 35, 120]⟩ : ByteArray) ++ str H = str (38 :: 35 :: 120 :: H) := str_cat [38, 35, 120] H
              have cx2 : str (38 :: 35 :: 120 :: H) ++ (⟨#[59]⟩ : ByteArray) = str (38 :: 35 :: 120 :: (H ++ [59])) := str_cat (38 :: 35 :: 120 :: H) [59]
              have cy1 : (⟨#[38, 35, 88]⟩ : ByteArray) ++ str H = str (38 :: 35 :: 88 :: H) := str_cat [38, 35, 88] H
              have cy2 : str (38 :: 35 :: 88 :: H) ++ (⟨#[59]⟩ : ByteArray) = str (38 :: 35 :: 88 :: (H ++ [59])) := str_cat (38 :: 35 :: 88 :: H) [59]
              have ca3 : str (38 :: 35 :: (T ++ [59])) ++ (⟨#[33]⟩ : ByteArray) = str (38 :: 35 :: (T ++ [59, 33])) := by
                have := str_cat (38 :: 35 :: (T ++ [59])) [33]
                simp only [List.cons_append, List.append_assoc, List.nil_append] at this
                exact this
              have cx3 : str (38 :: 35 :: 120 :: (H ++ [59])) ++ (⟨#[33]⟩ : ByteArray) = str (38 :: 35 :: 120 :: (H ++ [59, 33])) := by
                have := str_cat (38 :: 35 :: 120 :: (H ++ [59])) [33]
                simp only [List.cons_append, List.append_assoc, List.nil_append] at this
                exact this
              have cy3 : str (38 :: 35 :: 88 :: (H ++ [59])) ++ (⟨#[33]⟩ : ByteArray) = str (38 :: 35 :: 88 :: (H ++ [59, 33])) := by
                have := str_cat (38 :: 35 :: 88 :: (H ++ [59])) [33]
                simp only [List.cons_append, List.append_assoc, List.nil_append] at this
                exact this
              have cb : str (38 :: 35 :: T) ++ (⟨#[32]⟩ : ByteArray) = str (38 :: 35 :: (T ++ [32])) := str_cat (38 :: 35 :: T) [32]
              have ce1 : str E ++ (⟨#[33]⟩ : ByteArray) = str (E ++ [33]) := str_cat E [33]
              have ce2 : str E ++ (⟨#[32]⟩ : ByteArray) = str (E ++ [32]) := str_cat E [32]
              have D0 := fun W hW => Decode_any (38 :: 35 :: (T ++ [59])) false W (by simp; omega) hW
              have D0' := fun W hW => Decode_any (38 :: 35 :: (T ++ [59, 33])) true W (by simp; omega) hW
              have D1 := fun W hW => Decode_any (38 :: 35 :: 120 :: (H ++ [59])) false W (by simp; omega) hW
              have D1' := fun W hW => Decode_any (38 :: 35 :: 120 :: (H ++ [59, 33])) true W (by simp; omega) hW
              have D2 := fun W hW => Decode_any (38 :: 35 :: 88 :: (H ++ [59])) false W (by simp; omega) hW
              have D2' := fun W hW => Decode_any (38 :: 35 :: 88 :: (H ++ [59, 33])) true W (by simp; omega) hW
              have D3 := fun W hW => Decode_any (38 :: 35 :: (T ++ [32])) false W (by simp; omega) hW
              rw [e1.1] at D0
              rw [e1.2.1] at D0'
              rw [e1.2.2] at D3
              rw [e2.1] at D1
              rw [e2.2] at D1'
              rw [e3.1] at D2
              rw [e3.2] at D2'
              clear e1 e2 e3
              have hz0 : (str (38 :: 35 :: T)).size ≤ 100 := by rw [str_size]; simp; omega
              have hz1 : (str (38 :: 35 :: 120 :: H)).size ≤ 100 := by rw [str_size]; simp; omega
              have hz2 : (str (38 :: 35 :: 88 :: H)).size ≤ 100 := by rw [str_size]; simp; omega
              have hz3 : (str (38 :: 35 :: (T ++ [59]))).size ≤ 100 := by rw [str_size]; simp; omega
              have hz4 : (str (38 :: 35 :: 120 :: (H ++ [59]))).size ≤ 100 := by rw [str_size]; simp; omega
              have hz5 : (str (38 :: 35 :: 88 :: (H ++ [59]))).size ≤ 100 := by rw [str_size]; simp; omega
              have hz6 : (str (38 :: 35 :: (T ++ [59, 33]))).size ≤ 100 := by rw [str_size]; simp; omega
              have hz7 : (str (38 :: 35 :: 120 :: (H ++ [59, 33]))).size ≤ 100 := by rw [str_size]; simp; omega
              have hz8 : (str (38 :: 35 :: 88 :: (H ++ [59, 33]))).size ≤ 100 := by rw [str_size]; simp; omega
              have hz9 : (str (38 :: 35 :: (T ++ [32]))).size ≤ 100 := by rw [str_size]; simp; omega
              have hzE : (str E).size ≤ 4 := by rw [str_size]; exact hel.1
              generalize 38 :: 35 :: T = T0 at *
              generalize 38 :: 35 :: 120 :: H = H0 at *
              generalize 38 :: 35 :: 88 :: H = H1 at *
              generalize 38 :: 35 :: (T ++ [59]) = S0 at *
              generalize 38 :: 35 :: 120 :: (H ++ [59]) = S1 at *
              generalize 38 :: 35 :: 88 :: (H ++ [59]) = S2 at *
              generalize 38 :: 35 :: (T ++ [59, 33]) = S0' at *
              generalize 38 :: 35 :: 120 :: (H ++ [59, 33]) = S1' at *
              generalize 38 :: 35 :: 88 :: (H ++ [59, 33]) = S2' at *
              generalize 38 :: 35 :: (T ++ [32]) = S3 at *
              have hsz := hB.size
              go_wp2_with (go_at_call 23; refine (hP _).mono ?_; rintro e w5 ⟨v5, rfl, ho5, hb5⟩; replace hB := bel hB hb5; clear hb5; have hcv := conv_owned ho5; obtain ⟨g5, cap5, rfl, _⟩ := owns_src ho5 hel.2)
              have hc3 := three_cells w5 (str S0) (str S1) (str S2) 9
              have hsz5 := hB.size
              have hB5 : Below w.heap.size w (w5.alloc (.cells #[.string (str S0), .string (str S1), .string (str S2)] 9)) := hB.alloc hsz5 _
              have hq1 := beq_self_eq_true (str E).toList
              have hq2 := beq_self_eq_true (str (E ++ [33])).toList
              have hq3 := beq_self_eq_true (str (E ++ [32])).toList
              go_loopw [95] (fun i wr' => ∃ k : Nat, k ≤ 3 ∧ i = .int .i64 k ∧ Below (w5.heap.size + 1) (w5.alloc (.cells #[.string (str S0), .string (str S1), .string (str S2)] 9)) wr') (fun i _ => 3 - (intOf i).toNat)
              case atStart => exact ⟨0, by omega, rfl, Below.refl _ _⟩
              case round =>
                obtain ⟨k, hk3, rfl, hB6⟩ := hrel
                have hB7 := hB5.trans (hB6.mono (by omega))
                have hc0 := (hB6.cell (p := ⟨w5.heap.size, 0, none⟩) (by simp)).trans hc3.1
                have hc1 := (hB6.cell (p := ⟨w5.heap.size, 1, none⟩) (by simp)).trans hc3.2.1
                have hc2 := (hB6.cell (p := ⟨w5.heap.size, 2, none⟩) (by simp)).trans hc3.2.2
                have hs6 := hB6.size
                simp at hs6
                rcases (show k = 0 ∨ k = 1 ∨ k = 2 ∨ k = 3 from by omega) with rfl | rfl | rfl | rfl
                · go_wp2_with (first
                    | (go_at_call 17; refine (D0 _ (HT.out.below hB7)).mono ?_; rintro e w8 ⟨rfl, hb8⟩; replace hB7 := bel hB7 hb8; replace hB6 := hB6.trans (hb8.mono (by omega)); have hs8 := hb8.size; clear hb8 D0)
                    | (go_at_call 17; refine (D0' _ (HT.out.below hB7)).mono ?_; rintro e w9 ⟨rfl, hb9⟩; replace hB6 := hB6.trans (hb9.mono (by omega)); clear hb9 D0'))
                  go_roundw
                  case rel => exact ⟨1, by omega, by go_num, hB6⟩
                  case measure => simp [intOf]
                · go_wp2_with (first
                    | (go_at_call 17; refine (D1 _ (HT.out.below hB7)).mono ?_; rintro e w8 ⟨rfl, hb8⟩; replace hB7 := bel hB7 hb8; replace hB6 := hB6.trans (hb8.mono (by omega)); have hs8 := hb8.size; clear hb8 D1)
                    | (go_at_call 17; refine (D1' _ (HT.out.below hB7)).mono ?_; rintro e w9 ⟨rfl, hb9⟩; replace hB6 := hB6.trans (hb9.mono (by omega)); clear hb9 D1'))
                  go_roundw
                  case rel => exact ⟨2, by omega, by go_num, hB6⟩
                  case measure => simp [intOf]
                · go_wp2_with (first
                    | (go_at_call 17; refine (D2 _ (HT.out.below hB7)).mono ?_; rintro e w8 ⟨rfl, hb8⟩; replace hB7 := bel hB7 hb8; replace hB6 := hB6.trans (hb8.mono (by omega)); have hs8 := hb8.size; clear hb8 D2)
                    | (go_at_call 17; refine (D2' _ (HT.out.below hB7)).mono ?_; rintro e w9 ⟨rfl, hb9⟩; replace hB6 := hB6.trans (hb9.mono (by omega)); clear hb9 D2'))
                  go_roundw
                  case rel => exact ⟨3, by omega, by go_num, hB6⟩
                  case measure => simp [intOf]
                · go_wp2_with (first
                    | (go_at_call 17; refine (D3 _ (HT.out.below hB7)).mono ?_; rintro e w8 ⟨rfl, hb8⟩; replace hB7 := bel hB7 hb8; clear hb8)
                    | (go_at_call 13; refine (alive11_any _ (HT.out.below hB7)).mono ?_; rintro e w9 ⟨rfl, hb9⟩; replace hB7 := bel hB7 hb9; clear hb9))
                  go_ret
                  exact ⟨rfl, hB7⟩
theorem walk (a0 a1 : Int) (w : World) (h0 : (Lit.int .u32 a0).wf = true) (h1 : (Lit.int .u8 a1).wf = true) (hT : Win w) :
    Calls Tryd.prog 8 #[.int .u32 a0, .int .u8 a1] w fun e w' => e = .returned (.bool true) ∧ Below w.heap.size w w' := by
  simp only [Lit.wf, Bool.and_eq_true, decide_eq_true_eq] at h0 h1
  have h0' : 0 ≤ a0 ∧ a0 ≤ 4294967295 := h0
  have h1' : 0 ≤ a1 ∧ a1 ≤ 255 := h1
  clear h0 h1
  obtain ⟨n, rfl⟩ := Int.eq_ofNat_of_zero_le h0'.1
  obtain ⟨z, rfl⟩ := Int.eq_ofNat_of_zero_le h1'.1
  have hn : n ≤ 4294967295 := by omega
  have hz : z ≤ 255 := by omega
  by_cases hA : n < 160
  · exact walkA n z w hn hz hT hA
  by_cases hB : n < 2147483648
  · cases hr : Utf.right (n : Int)
    · exact walkB n z w hn hz hT (by omega) hB hr
    · have hr' : 0 ≤ (n : Int) ∧ (n : Int) ≤ 1114111 ∧ ((n : Int) < 55296 ∨ 57343 < (n : Int)) := by simpa [Utf.right] using hr
      exact walkC n z w hn hz hT (by omega) (by omega) (sign_self (by omega) (by omega))
  · exact walkD n z w hn hz hT (by omega) (decide_eq_false (by unfold wrap32; omega))
end Go.Proofs.YtdllcnifkiebjaaDoor.refsNumbers
