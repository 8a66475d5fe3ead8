/- Texts laid as one. -/
import Derived.Test.YtiodaahncadodaaGreatDoorKRfR
import Derived.Deep.RegionWith
import Derived.Test.YtiodaahncadodaaGreatDoorKRfL
import Derived.Test.YtiodaahncadodaaGreatDoorKRefA
/- The contract of the reference's Next: at a text that begins with &, at any text. -/
set_option linter.unusedVariables false
set_option linter.unusedSimpArgs false
namespace Rf
theorem lookP_next (t : List UInt8) (T : Tab) (k : Nat) (p : List UInt8 × Int) (h : T[k]? = some p) (hn : (p.1 ++ [59]).isPrefixOf t = false) : lookP t (T.drop (k + 1)) = lookP t (T.drop k) := by
  obtain ⟨hlt, rfl⟩ := List.getElem?_eq_some_iff.1 h
  rw [List.drop_eq_getElem_cons hlt, lookP, hn]
  rfl
theorem lookP_here (t : List UInt8) (T : Tab) (k : Nat) (p : List UInt8 × Int) (h : T[k]? = some p) (hn : (p.1 ++ [59]).isPrefixOf t = true) : lookP t (T.drop k) = (p.2, p.1.length + 1) := by
  obtain ⟨hlt, rfl⟩ := List.getElem?_eq_some_iff.1 h
  rw [List.drop_eq_getElem_cons hlt, lookP, hn]
  rfl
theorem lookS_next (a : Bool) (t : List UInt8) (T : Tab) (k : Nat) (p : List UInt8 × Int) (h : T[k]? = some p) (hn : (p.1.isPrefixOf t && !(a && goesOn (t.drop p.1.length))) = false) : lookS a t (T.drop (k + 1)) = lookS a t (T.drop k) := by
  obtain ⟨hlt, rfl⟩ := List.getElem?_eq_some_iff.1 h
  rw [List.drop_eq_getElem_cons hlt, lookS, hn]
  rfl
theorem lookS_here (a : Bool) (t : List UInt8) (T : Tab) (k : Nat) (p : List UInt8 × Int) (h : T[k]? = some p) (hn : (p.1.isPrefixOf t && !(a && goesOn (t.drop p.1.length))) = true) : lookS a t (T.drop k) = (p.2, p.1.length) := by
  obtain ⟨hlt, rfl⟩ := List.getElem?_eq_some_iff.1 h
  rw [List.drop_eq_getElem_cons hlt, lookS, hn]
  rfl
/-- Next by the reference's tables. -/
theorem nx_tables (a : Bool) (t : List UInt8) (h : [35].isPrefixOf t = false) : nx a (38 :: t) = if (lookP t names).2 ≠ 0 then ((lookP t names).1, (lookP t names).2 + 1, true) else if (lookS a t shortT).2 ≠ 0 then ((lookS a t shortT).1, (lookS a t shortT).2 + 1, true) else (0, 0, false) := by
  rw [nx_amp, lookP_names, lookS_sh]
  unfold next
  rw [(not_hash t h).1]
  by_cases h1 : whSz t = 0
  · simp only [h1]
    by_cases h2 : (sh a t).2 = 0
    · simp [h2]
    · simp [h2]
  · simp [h1]
end Rf
namespace Go.Proofs.YtiodaahncadodaaGreatDoor
open Go.RowKit
def shortCells : Array Value := #[.string ⟨#[97, 109, 112]⟩, .string ⟨#[108, 116]⟩, .string ⟨#[103, 116]⟩, .string ⟨#[113, 117, 111, 116]⟩, .string ⟨#[110, 98, 115, 112]⟩, .string ⟨#[99, 111, 112, 121]⟩, .string ⟨#[114, 101, 103]⟩]
theorem short_at (k : Nat) (h : k < 7) (w : World) (T : Nat) : ∃ p, Rf.shortT[k]? = some p ∧ p.2 ≠ 0 ∧ p.1.length ≤ 4 ∧ 1 ≤ p.1.length ∧ Rf.sgn p.1 = p.2 ∧ (w.alloc (.cells shortCells T)).cell? ⟨w.heap.size, k, none⟩ = some (.string (str p.1)) := by
  have hl : Rf.shortT.length = 7 := by decide +kernel
  have hk : k < Rf.shortT.length := by omega
  have hb : ∀ p ∈ Rf.shortT, p.2 ≠ 0 ∧ p.1.length ≤ 4 ∧ 1 ≤ p.1.length ∧ Rf.sgn p.1 = p.2 := by decide +kernel
  have hb' := hb _ (List.getElem_mem hk)
  refine ⟨Rf.shortT[k], List.getElem?_eq_getElem hk, hb'.1, hb'.2.1, hb'.2.2.1, hb'.2.2.2, ?_⟩
  rw [Lib.cell_of_heap (heap_new w _)]
  match k, h with
  | 0, _ | 1, _ | 2, _ | 3, _ | 4, _ | 5, _ | 6, _ => rfl
theorem short_end (k : Nat) (h : 7 ≤ k) : Rf.shortT.drop k = [] := by
  have hl : Rf.shortT.length = 7 := by decide +kernel
  exact List.drop_eq_nil_of_le (by omega)
theorem RIsLetter_z (c : UInt8) (w : World) :
    Calls Tryz.prog 74 #[.int .u8 c.toNat] w fun e w' => e = .returned (.bool (Rf.letZ (Asc.bt c))) ∧ w' = w := RIsLetter_n _ _
theorem RIsDigit_z (c : UInt8) (w : World) :
    Calls Tryz.prog 113 #[.int .u8 c.toNat] w fun e w' => e = .returned (.bool (Rf.digB c)) ∧ w' = w := RIsDigit_n _ _
theorem bel_drewn {B : Nat} {w w' : World} (n : Nat) (h : Below B w w') : Below B w (w'.drewN n) :=
  ⟨h.1, h.2, h.3, h.4, h.5⟩
set_option maxHeartbeats 2000000 in
set_option maxRecDepth 100000 in
theorem RNext_amp (t : List UInt8) (a : Bool) (w : World) (hz : t.length ≤ 100000000) (hh : [35].isPrefixOf t = false) :
    Calls Tryz.prog 79 #[.string (str (38 :: t)), .bool a] w fun e w' => e = .returned (nxV (Rf.nx a (38 :: t))) ∧ Below w.heap.size w w' := by
  have hsz : (str (38 :: t)).size = t.length + 1 := str_size (38 :: t)
  have HX : Hid (Rf.nx a (38 :: t) = _) := Rf.nx_tables a t hh
  have hS1 : ∀ W, Calls Tryz.prog 110 #[.string (str (38 :: t)), .string (str [38, 35])] W fun e w' => e = .returned (.bool false) ∧ w' = W := fun W => by
    have := starts_any (38 :: t) [38, 35] W
    rw [show [38, 35].isPrefixOf (38 :: t) = [35].isPrefixOf t from rfl, hh] at this
    exact this
  have hS2 : ∀ W, Calls Tryz.prog 110 #[.string (str (38 :: t)), .string (str [38])] W fun e w' => e = .returned (.bool true) ∧ w' = W := fun W => starts_any (38 :: t) [38] W
  have he1 : (str (38 :: t)).extract 1 (t.length + 1) = str t := str_from (38 :: t) 1
  clear hh
  go_enter Tryz.func79, Tryz.ntmps79
  go_wp2_with (first
    | (go_at_call 110; refine (hS1 _).mono ?_; rintro e w1 ⟨rfl, hw⟩; rw [hw]; clear hw hS1)
    | (go_at_call 110; refine (hS2 _).mono ?_; rintro e w1 ⟨rfl, hw⟩; rw [hw]; clear hw hS2)
    | (go_at_call 112; refine (names_any _).mono ?_; rintro e w1 ⟨b, rfl, ht, hb1⟩))
  have HT : Hid (ReadsTab w1 b Rf.names) := ht
  clear ht
  go_loopw [8] (fun i wr => ∃ k : Nat, k ≤ 56 ∧ i = .int .i64 k ∧ Hid (Rf.lookP t (Rf.names.drop k) = Rf.lookP t Rf.names) ∧ Below w1.heap.size w1 wr) (fun i _ => 56 - (intOf i).toNat)
  case atStart => exact ⟨0, by omega, rfl, rfl, Below.refl _ _⟩
  case round =>
    obtain ⟨k, hk, rfl, HE, hB⟩ := hrel
    by_cases hlt : k < 56
    · obtain ⟨p, hp, hnz, hpl⟩ := names_at k hlt
      obtain ⟨hc0, hc1⟩ := (HT.out.below hB) k p hp
      rw [Nat.mul_comm 2 k] at hc0 hc1
      have hsp := str_size p.1
      have hsl : ∀ (W : World), (Instr.slice 9 (.string (str (38 :: t))) (some (.int .i64 1)) none none).run Tryz.prog W = .ok (.string (str t)) W := fun W => by
        rw [run_slice_string_from_if (P := Tryz.prog) W 9 (str (38 :: t)) .i64 1 Tryz.underlying9, if_pos ⟨by omega, by rw [hsz]; omega⟩]
        rw [hsz, show (1 : Int).toNat = 1 from rfl, he1]
      cases hq : (p.1 ++ [59]).isPrefixOf t
      · have HN : Hid (Rf.lookP t (Rf.names.drop (k + 1)) = Rf.lookP t Rf.names) := (Rf.lookP_next t _ k p hp hq).trans HE.out
        have hqq : (str p.1 ++ (⟨#[59]⟩ : ByteArray)).data.toList.isPrefixOf (str t).data.toList = false := by
          rw [ByteArray.data_append, Array.toList_append, str_data, str_data]
          exact hq
        clear hq hp HE
        go_wp2_with fail
        go_quiet ((go_at_call 110; exact Calls.quiet_of_same (starts_b _ _ _)))
        rw [hqq]
        go_wp2
        go_roundw
        case rel => exact ⟨k + 1, by omega, by go_num, HN, bel_drewn nq hB⟩
        case measure => simp [intOf]; omega
      · have HN : Hid (Rf.nx a (38 :: t) = (p.2, p.1.length + 2, true)) := by
          show _ = _
          rw [HX.out, ← HE.out, Rf.lookP_here t _ k p hp hq]
          rfl
        have hqq : (str p.1 ++ (⟨#[59]⟩ : ByteArray)).data.toList.isPrefixOf (str t).data.toList = true := by
          rw [ByteArray.data_append, Array.toList_append, str_data, str_data]
          exact hq
        clear hq hp HE
        have hB2 : ∀ n, Below w.heap.size w (wr.drewN n) := fun n => bel_drewn n (bel hb1 hB)
        go_wp2_with fail
        go_quiet ((go_at_call 110; exact Calls.quiet_of_same (starts_b _ _ _)))
        rw [hqq]
        go_wp2_with fail
        go_quiet (fail)
        go_wp2
        go_ret3
        exact ⟨by rw [HN.out]; simp [nxV], bel_drewn _ (bel_drewn _ (bel hb1 hB))⟩
    · have HP : Hid (Rf.lookP t Rf.names = (0, 0)) := by
        show _ = _
        rw [← HE.out, names_end k (by omega)]
        rfl
      have HX' : Hid (Rf.nx a (38 :: t) = if (Rf.lookS a t Rf.shortT).2 ≠ 0 then ((Rf.lookS a t Rf.shortT).1, (Rf.lookS a t Rf.shortT).2 + 1, true) else (0, 0, false)) := by
        show _ = _
        rw [HX.out, HP.out]
        rfl
      clear HX HP HE HT
      have hB2 := bel hb1 hB
      have hsl : ∀ (W : World), (Instr.slice 9 (.string (str (38 :: t))) (some (.int .i64 1)) none none).run Tryz.prog W = .ok (.string (str t)) W := fun W => by
        rw [run_slice_string_from_if (P := Tryz.prog) W 9 (str (38 :: t)) .i64 1 Tryz.underlying9, if_pos ⟨by omega, by rw [hsz]; omega⟩]
        rw [hsz, show (1 : Int).toNat = 1 from rfl, he1]
      rename World => V
      go_wp2
      have hszB := hB2.size
      have hB5 : Below w.heap.size w (V.alloc (.cells shortCells 9)) := hB2.alloc hszB _
      clear hb1 hB
      go_loopw [10] (fun i wr' => ∃ k : Nat, k ≤ 7 ∧ i = .int .i64 k ∧ Hid (Rf.lookS a t (Rf.shortT.drop k) = Rf.lookS a t Rf.shortT) ∧ Below (V.heap.size + 1) (V.alloc (.cells shortCells 9)) wr') (fun i _ => 7 - (intOf i).toNat)
      case atStart => exact ⟨0, by omega, rfl, rfl, Below.refl _ _⟩
      case round =>
        clear hk
        obtain ⟨k, hk, rfl, HE, hB6⟩ := hrel
        have hB7 := hB5.trans (hB6.mono (by omega))
        by_cases hlt : k < 7
        · obtain ⟨p, hp, hnz, hpl, hpl1, hsg, hc⟩ := short_at k hlt V 9
          have hc0 := (hB6.cell (p := ⟨V.heap.size, k, none⟩) (by simp)).trans hc
          clear hc
          have hsp := str_size p.1
          have hN := RName_any p.1
          rw [hsg] at hN
          clear hsg
          cases hq : p.1.isPrefixOf t
          · have hqq : (str p.1).data.toList.isPrefixOf (str t).data.toList = false := by rw [str_data, str_data]; exact hq
            have HR : Hid (Rf.lookS a t (Rf.shortT.drop (k + 1)) = Rf.lookS a t Rf.shortT) := (Rf.lookS_next a t _ k p hp (by rw [hq]; rfl)).trans HE.out
            clear hq hp HE hN
            go_wp2_with fail
            go_quiet ((go_at_call 110; exact Calls.quiet_of_same (starts_b _ _ _)))
            rw [hqq]
            go_wp2
            go_roundw
            case rel => exact ⟨k + 1, by omega, by go_num, HR.out, bel_drewn _ hB6⟩
            case measure => simp [intOf]; omega
          · have hqq : (str p.1).data.toList.isPrefixOf (str t).data.toList = true := by rw [str_data, str_data]; exact hq
            obtain ⟨r, hr⟩ := List.isPrefixOf_iff_prefix.1 hq
            have hdr : t.drop p.1.length = r := by rw [← hr, List.drop_left]
            have hlr : p.1.length + r.length = t.length := by rw [← hr, List.length_append]
            have HYES : Hid ((a && Rf.goesOn r) = false → Rf.nx a (38 :: t) = (p.2, p.1.length + 1, true)) := by
              intro hg
              rw [HX'.out, ← HE.out, Rf.lookS_here a t _ k p hp (by rw [hq, hdr, hg]; rfl)]
              show (if p.1.length ≠ 0 then _ else _) = _
              rw [if_pos (by omega)]
            have HNO : Hid ((a && Rf.goesOn r) = true → Rf.lookS a t (Rf.shortT.drop (k + 1)) = Rf.lookS a t Rf.shortT) := by
              intro hg
              exact (Rf.lookS_next a t _ k p hp (by rw [hq, hdr, hg]; rfl)).trans HE.out
            clear hq hp HE hdr
            cases a
            · have HR : Hid (Rf.nx false (38 :: t) = (p.2, p.1.length + 1, true)) := HYES.out rfl
              have hL := RIsLetter_z 0
              have hG := RIsDigit_z 0
              clear hr
              go_wp2_with fail
              go_quiet ((go_at_call 110; exact Calls.quiet_of_same (starts_b _ _ _)))
              rw [hqq]
              go_wp2_with (first
                  | (go_at_call 74; refine (hL _).mono ?_; rintro e w5 ⟨rfl, hw⟩; rw [hw]; clear hw)
                  | (go_at_call 113; refine (hG _).mono ?_; rintro e w5 ⟨rfl, hw⟩; rw [hw]; clear hw)
                  | (go_at_call 114; refine (hN _).mono ?_; rintro e w6 ⟨rfl, hb6⟩))
              go_ret3
              exact ⟨by rw [HR.out]; simp [nxV], bel (bel_drewn _ hB7) hb6⟩
            · cases r with
              | nil =>
                have HR : Hid (Rf.nx true (38 :: t) = (p.2, p.1.length + 1, true)) := HYES.out rfl
                have hni : ¬ ((p.1.length : Int) + 1 < (t.length : Int) + 1) := by simp at hlr; omega
                have hL := RIsLetter_z 0
                have hG := RIsDigit_z 0
                clear hr
                go_wp2_with fail
                go_quiet ((go_at_call 110; exact Calls.quiet_of_same (starts_b _ _ _)))
                rw [hqq]
                go_wp2_with (first
                  | (go_at_call 74; refine (hL _).mono ?_; rintro e w5 ⟨rfl, hw⟩; rw [hw]; clear hw)
                  | (go_at_call 113; refine (hG _).mono ?_; rintro e w5 ⟨rfl, hw⟩; rw [hw]; clear hw)
                  | (go_at_call 114; refine (hN _).mono ?_; rintro e w6 ⟨rfl, hb6⟩))
                go_ret3
                exact ⟨by rw [HR.out]; simp [nxV], bel (bel_drewn _ hB7) hb6⟩
              | cons c r =>
                have hni : (p.1.length : Int) + 1 < (t.length : Int) + 1 := by simp at hlr; omega
                have hks : p.1.length + 1 < (str (38 :: t)).size := by rw [hsz]; simp at hlr; omega
                have he : (str (38 :: t))[p.1.length + 1] = c := by
                  show (38 :: t)[p.1.length + 1]'(by simp; simp at hlr; omega) = c
                  rw [List.getElem_cons_succ]
                  have := end_at [] p.1 c r (by simp)
                  simp only [List.nil_append, List.length_nil, Nat.zero_add] at this
                  simp only [← hr]
                  exact this
                have hL := RIsLetter_z c
                have hG := RIsDigit_z c
                have HG : Hid (Rf.goesOn (c :: r) = (c == 61 || (Rf.letZ (Asc.bt c) || Rf.digB c))) := rfl
                clear hr
                by_cases h61 : c = 61
                · have HR : Hid (Rf.lookS true t (Rf.shortT.drop (k + 1)) = Rf.lookS true t Rf.shortT) := HNO.out (by rw [HG.out, h61]; rfl)
                  have q61 : ((c.toNat : Int) == 61) = true := by rw [h61]; rfl
                  clear h61
                  go_wp2_with fail
                  go_quiet ((go_at_call 110; exact Calls.quiet_of_same (starts_b _ _ _)))
                  rw [hqq]
                  go_wp2_with (first
                  | (go_at_call 74; refine (hL _).mono ?_; rintro e w5 ⟨rfl, hw⟩; rw [hw]; clear hw)
                  | (go_at_call 113; refine (hG _).mono ?_; rintro e w5 ⟨rfl, hw⟩; rw [hw]; clear hw)
                  | (go_at_call 114; refine (hN _).mono ?_; rintro e w6 ⟨rfl, hb6⟩))
                  go_roundw
                  case rel => exact ⟨k + 1, by omega, by go_num, HR.out, bel_drewn _ hB6⟩
                  case measure => simp [intOf]; omega
                · have q61 : ((c.toNat : Int) == 61) = false := beq_eq_false_iff_ne.2 (byte_ne' (k := 61) (by omega) h61)
                  have n61 : (c == 61) = false := beq_eq_false_iff_ne.2 h61
                  clear h61
                  rw [n61] at HG
                  cases hx : Rf.letZ (Asc.bt c)
                  · cases hy : Rf.digB c
                    · have HR : Hid (Rf.nx true (38 :: t) = (p.2, p.1.length + 1, true)) := HYES.out (by rw [HG.out, hx, hy]; rfl)
                      go_wp2_with fail
                      go_quiet ((go_at_call 110; exact Calls.quiet_of_same (starts_b _ _ _)))
                      rw [hqq]
                      go_wp2_with (first
                  | (go_at_call 74; refine (hL _).mono ?_; rintro e w5 ⟨rfl, hw⟩; rw [hw]; clear hw)
                  | (go_at_call 113; refine (hG _).mono ?_; rintro e w5 ⟨rfl, hw⟩; rw [hw]; clear hw)
                  | (go_at_call 114; refine (hN _).mono ?_; rintro e w6 ⟨rfl, hb6⟩))
                      go_ret3
                      exact ⟨by rw [HR.out]; simp [nxV], bel (bel_drewn _ hB7) hb6⟩
                    · have HR : Hid (Rf.lookS true t (Rf.shortT.drop (k + 1)) = Rf.lookS true t Rf.shortT) := HNO.out (by rw [HG.out, hx, hy]; rfl)
                      go_wp2_with fail
                      go_quiet ((go_at_call 110; exact Calls.quiet_of_same (starts_b _ _ _)))
                      rw [hqq]
                      go_wp2_with (first
                  | (go_at_call 74; refine (hL _).mono ?_; rintro e w5 ⟨rfl, hw⟩; rw [hw]; clear hw)
                  | (go_at_call 113; refine (hG _).mono ?_; rintro e w5 ⟨rfl, hw⟩; rw [hw]; clear hw)
                  | (go_at_call 114; refine (hN _).mono ?_; rintro e w6 ⟨rfl, hb6⟩))
                      go_roundw
                      case rel => exact ⟨k + 1, by omega, by go_num, HR.out, bel_drewn _ hB6⟩
                      case measure => simp [intOf]; omega
                  · have HR : Hid (Rf.lookS true t (Rf.shortT.drop (k + 1)) = Rf.lookS true t Rf.shortT) := HNO.out (by rw [HG.out, hx]; rfl)
                    go_wp2_with fail
                    go_quiet ((go_at_call 110; exact Calls.quiet_of_same (starts_b _ _ _)))
                    rw [hqq]
                    go_wp2_with (first
                  | (go_at_call 74; refine (hL _).mono ?_; rintro e w5 ⟨rfl, hw⟩; rw [hw]; clear hw)
                  | (go_at_call 113; refine (hG _).mono ?_; rintro e w5 ⟨rfl, hw⟩; rw [hw]; clear hw)
                  | (go_at_call 114; refine (hN _).mono ?_; rintro e w6 ⟨rfl, hb6⟩))
                    go_roundw
                    case rel => exact ⟨k + 1, by omega, by go_num, HR.out, bel_drewn _ hB6⟩
                    case measure => simp [intOf]; omega
        · have HR : Hid (Rf.nx a (38 :: t) = (0, 0, false)) := by
            show _ = _
            rw [HX'.out, ← HE.out, short_end k (by omega)]
            rfl
          go_wp2
          go_ret3
          rw [HR.out]
          exact ⟨rfl, hB7⟩
set_option maxHeartbeats 1000000 in
set_option maxRecDepth 100000 in
theorem RNx_not (l : List UInt8) (a : Bool) (w : World) (h : [38].isPrefixOf l = false) :
    Calls Tryz.prog 79 #[.string (str l), .bool a] w fun e w' => e = .returned (nxV (Rf.nx a l)) ∧ Below w.heap.size w w' := by
  have h2 : [38, 35].isPrefixOf l = false := by
    rw [Bool.eq_false_iff]
    intro e
    obtain ⟨r, rfl⟩ := List.isPrefixOf_iff_prefix.1 e
    simp [List.isPrefixOf] at h
  have hS1 : ∀ W, Calls Tryz.prog 110 #[.string (str l), .string (str [38, 35])] W fun e w' => e = .returned (.bool false) ∧ w' = W := fun W => by
    have := starts_any l [38, 35] W
    rw [h2] at this
    exact this
  have hS2 : ∀ W, Calls Tryz.prog 110 #[.string (str l), .string (str [38])] W fun e w' => e = .returned (.bool false) ∧ w' = W := fun W => by
    have := starts_any l [38] W
    rw [h] at this
    exact this
  rw [Rf.nx_none a l h]
  clear h h2
  go_enter Tryz.func79, Tryz.ntmps79
  go_wp2_with (first
    | (go_at_call 110; refine (hS1 _).mono ?_; rintro e w1 ⟨rfl, hw⟩; rw [hw]; clear hw hS1)
    | (go_at_call 110; refine (hS2 _).mono ?_; rintro e w1 ⟨rfl, hw⟩; rw [hw]; clear hw hS2))
  go_ret3
  exact ⟨rfl, Below.refl _ _⟩
set_option maxHeartbeats 1000000 in
set_option maxRecDepth 100000 in
theorem RNx_hash (r : List UInt8) (a : Bool) (w : World) (hz : r.length ≤ 100000000) :
    Calls Tryz.prog 79 #[.string (str (38 :: 35 :: r)), .bool a] w fun e w' => e = .returned (nxV (Rf.nx a (38 :: 35 :: r))) ∧ Below w.heap.size w w' := by
  have hS1 : ∀ W, Calls Tryz.prog 110 #[.string (str (38 :: 35 :: r)), .string (str [38, 35])] W fun e w' => e = .returned (.bool true) ∧ w' = W := fun W => starts_any (38 :: 35 :: r) [38, 35] W
  have hN := fun W => Rnumber_any a r W hz
  generalize Rf.nx a (38 :: 35 :: r) = q at *
  obtain ⟨x, n, b⟩ := q
  unfold nxV at *
  simp only at hN ⊢
  go_enter Tryz.func79, Tryz.ntmps79
  go_wp2_with (first
    | (go_at_call 110; refine (hS1 _).mono ?_; rintro e w1 ⟨rfl, hw⟩; rw [hw]; clear hw hS1)
    | (go_at_call 111; refine (hN _).mono ?_; rintro e w1 ⟨rfl, hb1⟩))
  go_ret3
  exact ⟨rfl, hb1⟩
theorem RNx_any (l : List UInt8) (a : Bool) (w : World) (hz : l.length ≤ 100000000) :
    Calls Tryz.prog 79 #[.string (str l), .bool a] w fun e w' => e = .returned (nxV (Rf.nx a l)) ∧ Below w.heap.size w w' := by
  cases h : [38].isPrefixOf l
  · exact RNx_not l a w h
  · obtain ⟨t, rfl⟩ := Rf.amp_form l h
    simp at hz
    cases h2 : [35].isPrefixOf t
    · exact RNext_amp t a w (by omega) h2
    · obtain ⟨r, rfl⟩ := List.isPrefixOf_iff_prefix.1 h2
      simp at hz
      exact RNx_hash r a w (by omega)
end Go.Proofs.YtiodaahncadodaaGreatDoor
/- Contracts of the reference's Decode and Encode. -/
namespace Go.Proofs.YtiodaahncadodaaGreatDoor
open Go.RowKit
/-- One sign put by the reference behind what is there. -/
theorem RPut_behind (c : Int) (v : Value) (l : List UInt8) (B : Nat) (w : World) (hz : l.length ≤ 1000000000) (hv : OwnsBytes w B v l) :
    Calls Tryz.prog 80 #[v, .slice (some ⟨w.heap.size, 0, none⟩) 1 1] (w.alloc (.cells #[.int .i32 c] 21)) fun e w' => ∃ v', e = .returned v' ∧ OwnsBytes w' w.heap.size v' (l ++ Lib.encodeRune c) ∧ Below w.heap.size w w' := by
  have hv2 : ReadsCells (w.alloc (.cells #[.int .i32 c] 21)) v (cellsB l) := hv.reads.below ((Below.refl _ w).alloc (Nat.le_refl _) _)
  refine (RPut_any v _ l [c] _ hz (by simp) hv2 (.inr ⟨w.heap.size, 0, 1, rfl, Nat.le_refl _, ?_⟩)).mono ?_
  · intro j x hj
    match j, hj with
    | 0, hj =>
      cases hj
      rw [Nat.zero_add, Lib.cell_of_heap (heap_new w _)]
      rfl
    | (j + 1), hj => simp [cellsR] at hj
  · rintro e w' ⟨v', rfl, ho, hb⟩
    have e1 : l ++ puts [c] = l ++ Lib.encodeRune c := by simp [puts]
    rw [e1] at ho
    refine ⟨v', rfl, ⟨ho.1, ?_⟩, ((Below.refl _ w).alloc (Nat.le_refl _) _).trans (hb.mono (by simp))⟩
    rcases ho.2 with h | ⟨g, cap, cur, h1, h2, h3⟩
    · exact .inl h
    · refine .inr ⟨g, cap, cur, h1, Nat.le_trans ?_ h2, h3⟩
      simp
theorem owns_form {w : World} {B : Nat} {v : Value} {l : List UInt8} (h : OwnsBytes w B v l) : ∃ ad cp, v = .slice ad l.length cp := by
  rcases h.reads with ⟨a, c, rfl, h0⟩ | ⟨b, o, c, rfl, _, _⟩
  · exact ⟨a, c, by rw [← cellsB_length, h0]; rfl⟩
  · exact ⟨_, c, by rw [cellsB_length]⟩
def RDecAt (a : Bool) (l : List UInt8) (w : World) (x v : Value) (wr : World) : Prop :=
  ∃ r acc : List UInt8, x = .string (str r) ∧ acc.length + 4 * r.length ≤ 4 * l.length ∧ OwnsBytes wr w.heap.size v acc ∧ Below w.heap.size w wr ∧ Hid (acc ++ Rf.dec a r = Rf.dec a l)
theorem OwnsBytes.mono {w : World} {B B' : Nat} {v : Value} {l : List UInt8} (h : OwnsBytes w B v l) (hb : B' ≤ B) : OwnsBytes w B' v l := by
  refine ⟨h.1, ?_⟩
  rcases h.2 with h | ⟨g, cap, cur, h1, h2, h3⟩
  · exact .inl h
  · exact .inr ⟨g, cap, cur, h1, Nat.le_trans hb h2, h3⟩
set_option maxHeartbeats 2000000 in
set_option maxRecDepth 100000 in
theorem RDecode_any (l : List UInt8) (a : Bool) (w : World) (hz : l.length ≤ 100000000) :
    Calls Tryz.prog 50 #[.string (str l), .bool a] w fun e w' => e = .returned (.string (str (Rf.dec a l))) ∧ Below w.heap.size w w' := by
  obtain ⟨i0, hi, hz0, hz1, hz2⟩ := info_parts infoByte
  go_enter Tryz.func50, Tryz.ntmps50
  go_wp2
  go_loopw [0, 5] (fun x v wr => RDecAt a l w x v wr) (fun x _ _ => textLen x)
  case atStart => exact ⟨l, [], rfl, by simp, OwnsBytes.nil _ _, Below.refl _ _, rfl⟩
  case round =>
    obtain ⟨r, acc, rfl, hacc, hO, hbw, HE⟩ := hrel
    have hwz := hbw.size
    have hsr := str_size r
    cases r with
    | nil =>
      have HF : Hid (acc = Rf.dec a l) := by
        show _ = _
        rw [← HE.out, Rf.dec_nil, List.append_nil]
      have hcv := conv_owned hO
      obtain ⟨ad, cp, rfl⟩ := owns_form hO
      have h0 : ¬ (0 : Int) < 0 := by omega
      go_wp2
      go_ret
      exact ⟨by rw [← HF.out]; rfl, hbw⟩
    | cons c t =>
      have hlc : (c :: t).length = t.length + 1 := List.length_cons
      rw [hlc] at hsr hacc
      have hlI : (0 : Int) < (t.length : Int) + 1 := by omega
      have hhd : ∀ h, (str (c :: t))[0]'h = c := fun _ => rfl
      have hR := fun W => RNx_any (c :: t) a W (by rw [hlc]; omega)
      have hnl := Rf.nx_len a (c :: t)
      have HY : Hid ((Rf.nx a (c :: t)).2.2 = true → Rf.dec a (c :: t) = Go.Lib.encodeRune (Rf.nx a (c :: t)).1 ++ Rf.dec a ((c :: t).drop (Rf.nx a (c :: t)).2.1)) := Rf.dec_nx a (c :: t)
      have HN : Hid ((Rf.nx a (c :: t)).2.2 = false → Rf.dec a (c :: t) = c :: Rf.dec a t) := Rf.dec_nx_no a c t
      generalize Rf.nx a (c :: t) = q at *
      obtain ⟨x, n, b⟩ := q
      simp only at hnl HY HN
      rw [hlc] at hnl
      obtain ⟨hnl1, hnl2⟩ := hnl
      have hst1 : (str (c :: t)).extract 1 (t.length + 1) = str t := str_from (c :: t) 1
      have hstn : (str (c :: t)).extract n (t.length + 1) = str ((c :: t).drop n) := str_from (c :: t) n
      unfold nxV at hR
      simp only at hR
      go_wp2_with fail
      go_at_call 79
      refine (hR _).mono ?_
      rintro e W2 ⟨rfl, b2⟩
      have hs2 := b2.size
      have hB2 := hbw.trans (b2.mono hwz)
      have hO2 := hO.below b2
      cases b
      · have HF : Hid (acc ++ [c] ++ Rf.dec a t = Rf.dec a l) := by
          show _ = _
          rw [← HE.out, HN.out rfl]
          simp
        clear HY HN HE hR
        obtain ⟨ad, cp, rfl⟩ := owns_form hO2
        go_wp2_with (at_builtin; refine wpList_append_own _ rfl _ _ 78 rfl w.heap.size 5 i0 (.int .u8 0) 1 1 Tryz.underlying78 hi hz0 hz1 hz2 rfl (by decide) _ _ _ rfl (World.ownsRow.alloc hO2 _) ⟨W2.heap.size, 0, none⟩ 1 1 [.int .u8 c.toNat] rfl rfl (cell_one_new _ _ _) (fun x hx => by simp at hx; subst hx; rfl) (by unfold maxLen; omega) (by omega) (by simp; omega) ?_)
        intro v3 W3 ho3 hg3 _
        have hB3 : Below w.heap.size w W3 := (hB2.alloc (by omega) _).grown hg3 (by simp; omega) (fun k hk => (World.ownsRow.lt hO2 k hk).1)
        have ho3' : OwnsBytes W3 w.heap.size v3 (acc ++ [c]) := by
          unfold OwnsBytes
          have e1 : cellsB (acc ++ [c]) = cellsB acc ++ [.int .u8 c.toNat] := by simp [cellsB]
          rw [e1, List.length_append]
          exact ho3
        go_wp2
        go_roundw
        case rel => exact ⟨t, acc ++ [c], by first | rfl | (rw [hst1]), by simp only [List.length_append, List.length_singleton]; omega, ho3', hB3, HF⟩
        case measure => simp only [textLen, str_size]; omega
      · have HF : Hid (acc ++ Lib.encodeRune x ++ Rf.dec a ((c :: t).drop n) = Rf.dec a l) := by
          show _ = _
          rw [← HE.out, HY.out rfl]
          simp only [List.append_assoc]
        have hn1 := hnl2 rfl
        have hen := Utf.enc_len x
        clear HY HN HE hR
        go_wp2_with fail
        go_at_call 80
        refine (RPut_behind x _ acc w.heap.size W2 (by omega) hO2).mono ?_
        rintro e W3 ⟨v3, rfl, ho3, b3⟩
        have hB3 := hB2.trans (b3.mono (by omega))
        have ho3' := ho3.mono (show w.heap.size ≤ W2.heap.size from by omega)
        go_wp2
        go_roundw
        case rel => exact ⟨(c :: t).drop n, acc ++ Lib.encodeRune x, by first | rfl | (rw [hstn]), by simp only [List.length_append, List.length_drop, List.length_cons]; omega, ho3', hB3, HF⟩
        case measure => simp only [textLen, str_size, List.length_drop, List.length_cons]; omega
end Go.Proofs.YtiodaahncadodaaGreatDoor
/- The contract of the reference's Encode. -/
namespace Go.Proofs.YtiodaahncadodaaGreatDoor
open Go.RowKit
theorem str_cat11 (a b : List UInt8) : str a ++ str b = str (a ++ b) := by
  apply str_eq
  rw [ByteArray.data_append]
  simp [str]
theorem str_one (l : List UInt8) (k : Nat) (h : k < l.length) : (str l).extract k (k + 1) = str [l[k]] := by
  rw [str_mid, List.drop_eq_getElem_cons h]
  rfl
set_option maxHeartbeats 4000000 in
set_option maxRecDepth 100000 in
theorem REncode_any (l : List UInt8) (a : Bool) (w : World) (hz : l.length ≤ 100000000) :
    Calls Tryz.prog 104 #[.string (str l), .bool a] w fun e w' => e = .returned (.string (str (Rf.enc a l))) ∧ w' = w := by
  have hsz := str_size l
  go_enter Tryz.func104, Tryz.ntmps104
  go_wp2
  go_loop [5, 6] (fun s i => ∃ (k : Nat) (acc : List UInt8), k ≤ l.length ∧ i = .int .i64 k ∧ s = .string (str acc) ∧ acc.length ≤ 6 * k ∧ Hid (acc ++ Rf.enc a (l.drop k) = Rf.enc a l)) (fun _ i => l.length - (intOf i).toNat)
  case atStart => exact ⟨0, [], Nat.zero_le _, rfl, rfl, by simp, rfl⟩
  case round =>
    obtain ⟨k, acc, hk, rfl, rfl, hacc, HE⟩ := hrel
    have hsa := str_size acc
    by_cases hlt : k < l.length
    · have hks : k < (str l).size := by omega
      have hki : (k : Int) < (l.length : Int) := by omega
      have hdr := List.drop_eq_getElem_cons hlt
      have he : (str l)[k] = l[k] := rfl
      have hx1 := str_one l k hlt
      have hx2 : (str l).extract k l.length = str (l.drop k) := str_from l k
      have HF : Hid (acc ++ (Rf.one a (l.drop k)).1 ++ Rf.enc a (l.drop (k + (Rf.one a (l.drop k)).2)) = Rf.enc a l) := by
        show _ = _
        rw [← HE.out, Rf.enc_go a (l.drop k) (by rw [hdr]; exact List.cons_ne_nil _ _), List.append_assoc, List.drop_drop]
      have hol := Rf.one_len a (l.drop k) (by rw [hdr]; exact List.cons_ne_nil _ _)
      rw [List.length_drop] at hol
      rw [hdr] at hx2 HF hol
      have hst := starts_any (l[k] :: l.drop (k + 1)) [194, 160]
      clear HE hdr
      generalize l.drop (k + 1) = t at *
      generalize l[k] = c at *
      by_cases hc : c = 38
      · subst hc
        have hst2 : ([194, 160].isPrefixOf (38 :: t)) = false := rfl
        rw [hst2] at hst
        clear hol hst2
        have hcat : str acc ++ (⟨#[38, 97, 109, 112, 59]⟩ : ByteArray) = str (acc ++ [38, 97, 109, 112, 59]) := str_cat11 acc [38, 97, 109, 112, 59]
        go_wp2_with (go_at_call 110; refine (hst _).mono ?_; rintro e w1 ⟨rfl, hw⟩; rw [hw]; clear hw)
        go_round
        case rel => exact ⟨k + 1, acc ++ [38, 97, 109, 112, 59], by omega, by go_num, by first | rfl | (rw [← hcat]; rfl), by simp; omega, HF.out⟩
        case measure => simp [intOf]; omega
      have H38 : Hid (¬ (c = 38)) := hc
      clear hc
      by_cases hc : c = 60 ∧ a = false
      · obtain ⟨rfl, rfl⟩ := hc
        have hst2 : ([194, 160].isPrefixOf (60 :: t)) = false := rfl
        rw [hst2] at hst
        clear hol hst2
        have hcat : str acc ++ (⟨#[38, 108, 116, 59]⟩ : ByteArray) = str (acc ++ [38, 108, 116, 59]) := str_cat11 acc [38, 108, 116, 59]
        go_wp2_with (go_at_call 110; refine (hst _).mono ?_; rintro e w1 ⟨rfl, hw⟩; rw [hw]; clear hw)
        go_round
        case rel => exact ⟨k + 1, acc ++ [38, 108, 116, 59], by omega, by go_num, by first | rfl | (rw [← hcat]; rfl), by simp; omega, HF.out⟩
        case measure => simp [intOf]; omega
      have H60f : Hid (¬ (c = 60 ∧ a = false)) := hc
      clear hc
      by_cases hc : c = 60 ∧ a = true
      · obtain ⟨rfl, rfl⟩ := hc
        have hst2 : ([194, 160].isPrefixOf (60 :: t)) = false := rfl
        rw [hst2] at hst
        clear hol hst2
        have hcat : str acc ++ str [60] = str (acc ++ [60]) := str_cat11 acc [60]
        have hs1 : (str [60]).size = 1 := str_size [60]
        go_wp2_with (go_at_call 110; refine (hst _).mono ?_; rintro e w1 ⟨rfl, hw⟩; rw [hw]; clear hw)
        go_round
        case rel => exact ⟨k + 1, acc ++ [60], by omega, by go_num, by first | rfl | (rw [← hcat]; rfl), by simp; omega, HF.out⟩
        case measure => simp [intOf]; omega
      have H60t : Hid (¬ (c = 60 ∧ a = true)) := hc
      clear hc
      by_cases hc : c = 62 ∧ a = false
      · obtain ⟨rfl, rfl⟩ := hc
        have hst2 : ([194, 160].isPrefixOf (62 :: t)) = false := rfl
        rw [hst2] at hst
        clear hol hst2
        have hcat : str acc ++ (⟨#[38, 103, 116, 59]⟩ : ByteArray) = str (acc ++ [38, 103, 116, 59]) := str_cat11 acc [38, 103, 116, 59]
        go_wp2_with (go_at_call 110; refine (hst _).mono ?_; rintro e w1 ⟨rfl, hw⟩; rw [hw]; clear hw)
        go_round
        case rel => exact ⟨k + 1, acc ++ [38, 103, 116, 59], by omega, by go_num, by first | rfl | (rw [← hcat]; rfl), by simp; omega, HF.out⟩
        case measure => simp [intOf]; omega
      have H62f : Hid (¬ (c = 62 ∧ a = false)) := hc
      clear hc
      by_cases hc : c = 62 ∧ a = true
      · obtain ⟨rfl, rfl⟩ := hc
        have hst2 : ([194, 160].isPrefixOf (62 :: t)) = false := rfl
        rw [hst2] at hst
        clear hol hst2
        have hcat : str acc ++ str [62] = str (acc ++ [62]) := str_cat11 acc [62]
        have hs1 : (str [62]).size = 1 := str_size [62]
        go_wp2_with (go_at_call 110; refine (hst _).mono ?_; rintro e w1 ⟨rfl, hw⟩; rw [hw]; clear hw)
        go_round
        case rel => exact ⟨k + 1, acc ++ [62], by omega, by go_num, by first | rfl | (rw [← hcat]; rfl), by simp; omega, HF.out⟩
        case measure => simp [intOf]; omega
      have H62t : Hid (¬ (c = 62 ∧ a = true)) := hc
      clear hc
      by_cases hc : c = 34 ∧ a = true
      · obtain ⟨rfl, rfl⟩ := hc
        have hst2 : ([194, 160].isPrefixOf (34 :: t)) = false := rfl
        rw [hst2] at hst
        clear hol hst2
        have hcat : str acc ++ (⟨#[38, 113, 117, 111, 116, 59]⟩ : ByteArray) = str (acc ++ [38, 113, 117, 111, 116, 59]) := str_cat11 acc [38, 113, 117, 111, 116, 59]
        go_wp2_with (go_at_call 110; refine (hst _).mono ?_; rintro e w1 ⟨rfl, hw⟩; rw [hw]; clear hw)
        go_round
        case rel => exact ⟨k + 1, acc ++ [38, 113, 117, 111, 116, 59], by omega, by go_num, by first | rfl | (rw [← hcat]; rfl), by simp; omega, HF.out⟩
        case measure => simp [intOf]; omega
      have H34t : Hid (¬ (c = 34 ∧ a = true)) := hc
      clear hc
      by_cases hc : c = 34 ∧ a = false
      · obtain ⟨rfl, rfl⟩ := hc
        have hst2 : ([194, 160].isPrefixOf (34 :: t)) = false := rfl
        rw [hst2] at hst
        clear hol hst2
        have hcat : str acc ++ str [34] = str (acc ++ [34]) := str_cat11 acc [34]
        have hs1 : (str [34]).size = 1 := str_size [34]
        go_wp2_with (go_at_call 110; refine (hst _).mono ?_; rintro e w1 ⟨rfl, hw⟩; rw [hw]; clear hw)
        go_round
        case rel => exact ⟨k + 1, acc ++ [34], by omega, by go_num, by first | rfl | (rw [← hcat]; rfl), by simp; omega, HF.out⟩
        case measure => simp [intOf]; omega
      have H34f : Hid (¬ (c = 34 ∧ a = false)) := hc
      clear hc
      by_cases hc : c = 13
      · subst hc
        have hst2 : ([194, 160].isPrefixOf (13 :: t)) = false := rfl
        rw [hst2] at hst
        clear hol hst2
        have hcat : str acc ++ (⟨#[38, 35, 49, 51, 59]⟩ : ByteArray) = str (acc ++ [38, 35, 49, 51, 59]) := str_cat11 acc [38, 35, 49, 51, 59]
        go_wp2_with (go_at_call 110; refine (hst _).mono ?_; rintro e w1 ⟨rfl, hw⟩; rw [hw]; clear hw)
        go_round
        case rel => exact ⟨k + 1, acc ++ [38, 35, 49, 51, 59], by omega, by go_num, by first | rfl | (rw [← hcat]; rfl), by simp; omega, HF.out⟩
        case measure => simp [intOf]; omega
      have H13 : Hid (¬ (c = 13)) := hc
      clear hc
      have n38 : c ≠ 38 := H38.out
      have n13 : c ≠ 13 := H13.out
      have n60 : c ≠ 60 := by intro e; cases a; exact H60f.out ⟨e, rfl⟩; exact H60t.out ⟨e, rfl⟩
      have n62 : c ≠ 62 := by intro e; cases a; exact H62f.out ⟨e, rfl⟩; exact H62t.out ⟨e, rfl⟩
      have n34 : c ≠ 34 := by intro e; cases a; exact H34f.out ⟨e, rfl⟩; exact H34t.out ⟨e, rfl⟩
      clear H38 H13 H60f H60t H62f H62t H34f H34t
      have HO : Hid (Rf.one a (c :: t) = if [194,160].isPrefixOf (c :: t) = true then ([38,110,98,115,112,59], 2) else ([c], 1)) := by
        show _ = _
        unfold Rf.one
        simp only [List.take_succ_cons, List.take_zero, List.cons.injEq, and_true, n38, n60, n62, n34, n13, false_and, if_false]
      have q38 : ¬ (c.toNat : Int) = 38 := byte_ne (k := 38) (by omega) n38
      have r38 : ((c.toNat : Int) == 38) = false := beq_eq_false_iff_ne.2 q38
      have q60 : ¬ (c.toNat : Int) = 60 := byte_ne (k := 60) (by omega) n60
      have r60 : ((c.toNat : Int) == 60) = false := beq_eq_false_iff_ne.2 q60
      have q62 : ¬ (c.toNat : Int) = 62 := byte_ne (k := 62) (by omega) n62
      have r62 : ((c.toNat : Int) == 62) = false := beq_eq_false_iff_ne.2 q62
      have q34 : ¬ (c.toNat : Int) = 34 := byte_ne (k := 34) (by omega) n34
      have r34 : ((c.toNat : Int) == 34) = false := beq_eq_false_iff_ne.2 q34
      have q13 : ¬ (c.toNat : Int) = 13 := byte_ne (k := 13) (by omega) n13
      have r13 : ((c.toNat : Int) == 13) = false := beq_eq_false_iff_ne.2 q13
      clear n38 n60 n62 n34 n13
      cases hp : [194,160].isPrefixOf (c :: t)
      · rw [hp] at hst
        have HO' : Hid (Rf.one a (c :: t) = ([c], 1)) := by show _ = _; rw [HO.out, hp]; rfl
        have HF' : Hid (acc ++ [c] ++ Rf.enc a (l.drop (k + 1)) = Rf.enc a l) := by
          have := HF.out
          rw [HO'.out] at this
          exact this
        clear hp HO HO' HF hol
        have hcat : str acc ++ str [c] = str (acc ++ [c]) := str_cat11 acc [c]
        have hs1 : (str [c]).size = 1 := str_size [c]
        go_wp2_with (go_at_call 110; refine (hst _).mono ?_; rintro e w1 ⟨rfl, hw⟩; rw [hw]; clear hw)
        go_round
        case rel => exact ⟨k + 1, acc ++ [c], by omega, by go_num, by first | rfl | (rw [← hcat]), by simp; omega, HF'.out⟩
        case measure => simp [intOf]; omega
      · rw [hp] at hst
        have HO' : Hid (Rf.one a (c :: t) = ([38,110,98,115,112,59], 2)) := by show _ = _; rw [HO.out, hp]; rfl
        have HF' : Hid (acc ++ [38,110,98,115,112,59] ++ Rf.enc a (l.drop (k + 2)) = Rf.enc a l) := by
          have := HF.out
          rw [HO'.out] at this
          exact this
        have hk2 : k + 2 ≤ l.length := by
          rw [HO'.out] at hol
          simp at hol
          omega
        clear hp HO HO' HF hol
        have hcat : str acc ++ (⟨#[38, 110, 98, 115, 112, 59]⟩ : ByteArray) = str (acc ++ [38, 110, 98, 115, 112, 59]) := str_cat11 acc [38, 110, 98, 115, 112, 59]
        go_wp2_with (go_at_call 110; refine (hst _).mono ?_; rintro e w1 ⟨rfl, hw⟩; rw [hw]; clear hw)
        go_round
        case rel => exact ⟨k + 2, acc ++ [38, 110, 98, 115, 112, 59], by omega, by go_num, by first | rfl | (rw [← hcat]; rfl), by simp; omega, HF'.out⟩
        case measure => simp [intOf]; omega
    · have hki : ¬ (k : Int) < (l.length : Int) := by omega
      have HN : Hid (acc = Rf.enc a l) := by
        show _ = _
        rw [← HE.out, List.drop_eq_nil_of_le (by omega), Rf.enc_nil, List.append_nil]
      go_wp2
      go_ret
      exact ⟨by rw [HN.out]; rfl, rfl⟩
end Go.Proofs.YtiodaahncadodaaGreatDoor
