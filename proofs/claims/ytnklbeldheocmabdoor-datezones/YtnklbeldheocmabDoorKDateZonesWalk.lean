/- The walk of DateZones. -/
import Derived.Test.YtnklbeldheocmabDoorKDW
import Derived.Test.YtnklbeldheocmabDoorKDateE
import Derived.Test.YtnklbeldheocmabDoorKDateA
namespace Go.Proofs.YtnklbeldheocmabDoor.dateZones
open Go.RowKit
theorem conv_two (W : World) (a b : Int) : (convert 27 9 (.slice (some ⟨W.heap.size, 0, none⟩) 2 2)).run Tryd.prog (W.alloc (.cells #[.int .u8 a, .int .u8 b] 5)) = .ok (.string (strOfNums [a, b])) (W.alloc (.cells #[.int .u8 a, .int .u8 b] 5)) :=
  run_convert_bytes_arg (P := Tryd.prog) (W.alloc (.cells #[.int .u8 a, .int .u8 b] 5)) 27 5 Tryd.underlying27 Tryd.underlying5 W.heap.size 0 2 2 [a, b] rfl (fun i hi => by
    match i, hi with
    | 0, _ => simp
    | 1, _ => simp) 9 Tryd.underlying9
theorem nums_p2 (k : Int) (h0 : 0 ≤ k) (h1 : k ≤ 99) : strOfNums [48 + k / 10, 48 + k % 10] = str (p2 k) := by
  apply str_eq
  show [UInt8.ofNat (48 + k / 10).toNat, UInt8.ofNat (48 + k % 10).toNat] = p2 k
  unfold p2 dgt
  have e1 : (48 + k / 10).toNat = 48 + (k / 10).toNat := by omega
  have e2 : (48 + k % 10).toNat = 48 + (k % 10).toNat := by omega
  rw [e1, e2]
set_option maxRecDepth 100000 in
theorem two_any (k : Int) (w : World) (h0 : 0 ≤ k) (h1 : k ≤ 99) :
    Calls Tryd.prog 6 #[.int .i64 k] w fun e w' => e = .returned (.string (str (p2 k))) ∧ Below w.heap.size w w' := by
  have hc := conv_two w (48 + k / 10) (48 + k % 10)
  rw [nums_p2 k h0 h1] at hc
  go_enter Tryd.func6, Tryd.ntmps6
  go_wp2
  go_ret
  exact ⟨rfl, (Below.refl _ w).alloc (Nat.le_refl _) _⟩
theorem zone_txt {sg : UInt8} {g h m : Int} {z : List UInt8} (hsg : (sg = 43 ∧ g = 1) ∨ (sg = 45 ∧ g = -1)) (h0 : 0 ≤ h) (h1 : h ≤ 14) (m0 : 0 ≤ m) (m1 : m ≤ 59) (hz : z = p2 h ++ p2 m ∨ z = p2 h ++ ([58] ++ p2 m)) :
    Dat.zoneR (sg :: z) = some (g * (h * 3600 + m * 60)) := by
  have hP : Dat.zoneP (sg :: z) = Dat.zoneS g z := by
    rcases hsg with ⟨rfl, rfl⟩ | ⟨rfl, rfl⟩ <;> rfl
  rw [← Dat.zone_eq, hP]
  apply Dat.whole_some.2
  have d1 := dg_dgt (h / 10) (by omega) (by omega)
  have d2 := dg_dgt (h % 10) (by omega) (by omega)
  have ev : Dat.v2 (dgt (h / 10)) (dgt (h % 10)) = h := by rw [v2_dgt _ _ (by omega) (by omega) (by omega) (by omega)]; omega
  have t2 := two_p2 m m0 (by omega)
  have hm : ∀ t, (t = p2 m ∨ t = [58] ++ p2 m) → Dat.zoneM t = some m := by
    rintro t (rfl | rfl)
    · have e : p2 m = dgt (m / 10) :: [dgt (m % 10)] := rfl
      rw [e, Dat.zoneM_cons, if_neg (Dat.dg58 (dg_dgt _ (by omega) (by omega))), ← e, t2]
    · show Dat.zoneM (58 :: p2 m) = some m
      rw [Dat.zoneM_cons, if_pos rfl, if_neg (by simp [p2]), t2]
  rcases hz with rfl | rfl
  · exact (Dat.zoneS_eq g _ _).2 ⟨_, _, p2 m, m, rfl, hm _ (.inl rfl), d1, d2, by omega, m0, m1, by rw [ev]⟩
  · exact (Dat.zoneS_eq g _ _).2 ⟨_, _, [58] ++ p2 m, m, rfl, hm _ (.inr rfl), d1, d2, by omega, m0, m1, by rw [ev]⟩
theorem parse_txt {sg : UInt8} {g h m y mo d L : Int} {z : List UInt8} (hv : Dat.Valid y mo d) (L0 : 0 ≤ L) (L1 : L < 86400) (hsg : (sg = 43 ∧ g = 1) ∨ (sg = 45 ∧ g = -1)) (h0 : 0 ≤ h) (h1 : h ≤ 14) (m0 : 0 ≤ m) (m1 : m ≤ 59) (hz : z = p2 h ++ p2 m ∨ z = p2 h ++ ([58] ++ p2 m)) :
    Dat.parseR (Asc.trim (dateL y mo d ++ ([84] ++ (timeL L ++ (sg :: z))))) = some (Dat.num y mo d * 86400 + L - g * (h * 3600 + m * 60), true, true) := by
  have hzr := zone_txt hsg h0 h1 m0 m1 hz
  have hs : Dat.clkC sg = false ∧ Dat.sp sg = false := by rcases hsg with ⟨rfl, _⟩ | ⟨rfl, _⟩ <;> decide
  have ht : ∃ a, dateL y mo d ++ ([84] ++ (timeL L ++ (sg :: z))) = (dateL y mo d ++ a) ++ [dgt (m % 10)] := by
    rcases hz with rfl | rfl
    · exact ⟨[84] ++ (timeL L ++ (sg :: (p2 h ++ [dgt (m / 10)]))), by simp [p2]⟩
    · exact ⟨[84] ++ (timeL L ++ (sg :: (p2 h ++ ([58] ++ [dgt (m / 10)])))), by simp [p2]⟩
  have htr : Asc.trim (dateL y mo d ++ ([84] ++ (timeL L ++ (sg :: z)))) = dateL y mo d ++ ([84] ++ (timeL L ++ (sg :: z))) := by
    obtain ⟨a, ha⟩ := ht
    rw [ha]
    refine trim_same _ _ ?_ (blank_dgt _ (by omega) (by omega)) (by simp [dateL, p4])
    intro x hx
    have : dgt (y / 1000) = x := by simpa [dateL, p4] using hx
    subst this
    exact blank_dgt _ (by have := hv.1; omega) (by have := hv.2.1; omega)
  rw [htr]
  exact parse_zone hv L0 L1 hzr hs.1 hs.2
theorem cat_txt (y mo d L : Int) (sg : UInt8) (z : List UInt8) : ((str (fmtL y mo d L)).extract 0 19 ++ ⟨#[sg]⟩ ++ str z : ByteArray) = str (dateL y mo d ++ ([84] ++ (timeL L ++ (sg :: z)))) := by
  apply str_eq
  rw [ByteArray.data_append, ByteArray.data_append, Array.toList_append, Array.toList_append, data_cut, str_data, str_data, fmtL_parts]
  simp [dateL, timeL, p4, p2]
theorem cat_z1 (h m : Int) : (str (p2 h) ++ str (p2 m) : ByteArray) = str (p2 h ++ p2 m) := by
  apply str_eq
  rfl
theorem cat_z2 (h m : Int) : (str (p2 h) ++ ⟨#[58]⟩ ++ str (p2 m) : ByteArray) = str (p2 h ++ ([58] ++ p2 m)) := by
  apply str_eq
  rfl
theorem cat_s (sg : UInt8) (z : List UInt8) : (⟨#[sg]⟩ ++ str z : ByteArray) = str (sg :: z) := by
  apply str_eq
  rw [ByteArray.data_append, Array.toList_append, str_data]
  rfl
theorem p2_size (k : Int) : (str (p2 k)).size = 2 := rfl
set_option maxRecDepth 100000 in
set_option maxHeartbeats 2000000 in
theorem east (n y mo d a b : Int) (w : World) (hv : Dat.Valid y mo d) (hn : n / 86400 = Dat.num y mo d) (n0 : -9223372036854775808 ≤ n) (n1 : n ≤ 9223372036854775807) (a0 : 0 ≤ a) (a1 : a ≤ 255) (b0 : 0 ≤ b) (b1 : b ≤ 255) (hE : Env6 w) :
    Calls Tryd.prog 3 #[.int .i64 n, .agg #[.int .u8 a, .int .u8 b], .bool false] w fun e w' => e = .returned (.bool true) ∧ Below w.heap.size w w' := by
  have hz := (zero_of_info zeroM).1
  unfold mVal mCells mZero at hz
  have hbd := Dat.num_bd hv
  have hsg : ((43 : UInt8) = 43 ∧ (1 : Int) = 1) ∨ ((43 : UInt8) = 45 ∧ (1 : Int) = -1) := by decide
  have eL : Dat.num y mo d * 86400 + n % 86400 = n := by rw [← hn]; omega
  have P1 := parse_txt (z := p2 (a % 15) ++ p2 (b % 60)) hv (L := n % 86400) (by omega) (by omega) hsg (h := a % 15) (m := b % 60) (by omega) (by omega) (by omega) (by omega) (.inl rfl)
  have P2 := parse_txt (z := p2 (a % 15) ++ ([58] ++ p2 (b % 60))) hv (L := n % 86400) (by omega) (by omega) hsg (h := a % 15) (m := b % 60) (by omega) (by omega) (by omega) (by omega) (.inr rfl)
  have Z1 := zone_txt (z := p2 (a % 15) ++ p2 (b % 60)) hsg (h := a % 15) (m := b % 60) (by omega) (by omega) (by omega) (by omega) (.inl rfl)
  have Z2 := zone_txt (z := p2 (a % 15) ++ ([58] ++ p2 (b % 60))) hsg (h := a % 15) (m := b % 60) (by omega) (by omega) (by omega) (by omega) (.inr rfl)
  obtain ⟨V, hV⟩ : ∃ V : Int, a % 15 * 3600 + b % 60 * 60 = V := ⟨_, rfl⟩
  have V1 : -60000 ≤ V := by omega
  have V2 : V ≤ 60000 := by omega
  have eV : (1 : Int) * (a % 15 * 3600 + b % 60 * 60) = V := by omega
  rw [eL, eV] at P1 P2
  rw [eV] at Z1 Z2
  have C1 := cat_txt y mo d (n % 86400) 43 (p2 (a % 15) ++ p2 (b % 60))
  have C2 := cat_txt y mo d (n % 86400) 43 (p2 (a % 15) ++ ([58] ++ p2 (b % 60)))
  have S1 := cat_s 43 (p2 (a % 15) ++ p2 (b % 60))
  have S2 := cat_s 43 (p2 (a % 15) ++ ([58] ++ p2 (b % 60)))
  have D1 := cat_z1 (a % 15) (b % 60)
  have D2 := cat_z2 (a % 15) (b % 60)
  have s1 : (str (p2 (a % 15) ++ p2 (b % 60))).size = 4 := by rw [str_size]; rfl
  have s2 : (str (p2 (a % 15) ++ ([58] ++ p2 (b % 60)))).size = 5 := by rw [str_size]; rfl
  have s3 := p2_size (a % 15)
  have s4 := p2_size (b % 60)
  have s5 : (str (fmtL y mo d (n % 86400))).size = 20 := by rw [str_size, fmtL_len]
  have s6 : ((str (fmtL y mo d (n % 86400))).extract 0 19).size = 19 := by rw [ByteArray.size_extract, s5]; rfl
  have hP1 := fun (w : World) (hA : Ahead w) => Parse_date (dateL y mo d ++ ([84] ++ (timeL (n % 86400) ++ (43 :: (p2 (a % 15) ++ p2 (b % 60)))))) w hA (by simp [dateL, timeL, p4, p2])
  have hP2 := fun (w : World) (hA : Ahead w) => Parse_date (dateL y mo d ++ ([84] ++ (timeL (n % 86400) ++ (43 :: (p2 (a % 15) ++ ([58] ++ p2 (b % 60))))))) w hA (by simp [dateL, timeL, p4, p2])
  have hZ1 := fun (w : World) (hA : Ahead w) => Zone_date (43 :: (p2 (a % 15) ++ p2 (b % 60))) w hA (by simp [p2])
  have hZ2 := fun (w : World) (hA : Ahead w) => Zone_date (43 :: (p2 (a % 15) ++ ([58] ++ p2 (b % 60)))) w hA (by simp [p2])
  rw [P1] at hP1
  rw [P2] at hP2
  rw [Z1] at hZ1
  rw [Z2] at hZ2
  clear P1 P2 Z1 Z2 eV hsg
  have hF := fun (w : World) (hE : Env6 w) => Format_yes n y mo d w hv hn n0 n1 hE
  have nb1 : -719162 * 86400 ≤ n := by omega
  have nb2 : n ≤ 2932897 * 86400 := by omega
  clear hv hn eL hbd
  generalize dateL y mo d ++ ([84] ++ (timeL (n % 86400) ++ (43 :: (p2 (a % 15) ++ p2 (b % 60))))) = T1 at *
  generalize dateL y mo d ++ ([84] ++ (timeL (n % 86400) ++ (43 :: (p2 (a % 15) ++ ([58] ++ p2 (b % 60)))))) = T2 at *
  generalize fmtL y mo d (n % 86400) = t at *
  generalize 43 :: (p2 (a % 15) ++ p2 (b % 60)) = U1 at *
  generalize 43 :: (p2 (a % 15) ++ ([58] ++ p2 (b % 60))) = U2 at *
  generalize p2 (a % 15) ++ p2 (b % 60) = q1 at *
  generalize p2 (a % 15) ++ ([58] ++ p2 (b % 60)) = q2 at *
  have hP1' : ∀ (w : World), Ahead w → Calls Tryd.prog 7 #[.string (str T1)] w fun e w' => e = .returned (.tuple #[.agg #[.int .i64 (n - (V)), .bool true, .bool true], .int .i64 0]) ∧ Below w.heap.size w w' := hP1
  have hP2' : ∀ (w : World), Ahead w → Calls Tryd.prog 7 #[.string (str T2)] w fun e w' => e = .returned (.tuple #[.agg #[.int .i64 (n - (V)), .bool true, .bool true], .int .i64 0]) ∧ Below w.heap.size w w' := hP2
  have hZ1' : ∀ (w : World), Ahead w → Calls Tryd.prog 8 #[.string (str U1)] w fun e w' => e = .returned (.tuple #[.int .i64 (V), .int .i64 0]) ∧ Below w.heap.size w w' := hZ1
  have hZ2' : ∀ (w : World), Ahead w → Calls Tryd.prog 8 #[.string (str U2)] w fun e w' => e = .returned (.tuple #[.int .i64 (V), .int .i64 0]) ∧ Below w.heap.size w w' := hZ2
  clear hP1 hP2 hZ1 hZ2
  go_enter Tryd.func3, Tryd.ntmps3
  go_wp2_with (fail)
  have hA0 := (Below.refl _ w).alloc (Nat.le_refl _) (.cells #[.int .u8 a, .int .u8 b] 22)
  have hS0 : (w.alloc (.cells #[.int .u8 a, .int .u8 b] 22)).heap[w.heap.size]? = some (.cells #[.int .u8 a, .int .u8 b] 22 (0, 0)) := heap_alloc_last w _
  have hB := hA0
  replace hE := hE.below hA0
  generalize w.alloc (.cells #[.int .u8 a, .int .u8 b] 22) = W at hE hB hS0
  have HB0 : Hid (∀ W', Below w.heap.size w W' → Below w.heap.size w W') := fun _ h => h
  have r0 : W.cell? ⟨w.heap.size, 0, none⟩ = some (.int .u8 a) := Lib.cell_of_heap hS0 0
  have r1 : W.cell? ⟨w.heap.size, 1, none⟩ = some (.int .u8 b) := Lib.cell_of_heap hS0 1
  clear hA0 hS0
  go_quiet (fail)
  replace hE := hE.below (below_drewN (Below.refl _ W) nq)
  replace hB := below_drewN hB nq
  generalize W.drewN nq = W1 at hE hB
  clear r0 r1
  go_wp2_with (first
    | (go_at_call 4; refine (hF _ hE).mono ?_; rintro e wn ⟨rfl, hn⟩; have hE2 := hE.below hn; replace hE := hE2; clear hE2; replace hB := hB.trans (hn.mono hB.size); clear hn)
    | (go_at_call 6; refine (two_any _ _ (by omega) (by omega)).mono ?_; rintro e wn ⟨rfl, hn⟩; have hE2 := hE.below hn; replace hE := hE2; clear hE2; replace hB := hB.trans (hn.mono hB.size); clear hn))
  have hA1 := (Below.refl _ wn).alloc (Nat.le_refl _) (.cells #[.string (str q1), .string (str q2)] 9)
  have hS1 : (wn.alloc (.cells #[.string (str q1), .string (str q2)] 9)).heap[wn.heap.size]? = some (.cells #[.string (str q1), .string (str q2)] 9 (0, 0)) := heap_alloc_last wn _
  replace hE := hE.below hA1
  replace hB := hB.trans (hA1.mono hB.size)
  generalize wn.alloc (.cells #[.string (str q1), .string (str q2)] 9) = W2 at hE hB hS1
  generalize wn.heap.size = B at hS1
  clear hA1
  go_loopw [71] (fun i wr => ∃ k : Nat, k ≤ 2 ∧ i = .int .i64 k ∧ wr.heap[B]? = some (.cells #[.string (str q1), .string (str q2)] 9 (0, 0)) ∧ Env6 wr ∧ Below w.heap.size w wr) (fun i _ => 2 - (intOf i).toNat)
  case atStart => exact ⟨0, by omega, rfl, hS1, hE, hB⟩
  case round =>
    obtain ⟨k, hk, rfl, hS, hEr, hBr⟩ := hrel
    clear hE hB hS1
    match k, hk with
    | 0, _ =>
      have hDk : (wr.cell? ⟨B, 0, none⟩ = some (.string (str q1))) := Lib.cell_of_heap hS 0
      go_wp2_with (first
        | (go_at_call 7; refine (hP1' _ hEr.ah).mono ?_; rintro e w2 ⟨rfl, hb2⟩; have hA2 := (Below.refl _ w2).alloc (Nat.le_refl _) (.cells #[.int .i64 (n - (V)), .bool true, .bool true] 31); have hM2 : MAt (w2.alloc (.cells #[.int .i64 (n - (V)), .bool true, .bool true] 31)) w2.heap.size (n - (V), true, true) := alloc_MAt3 w2 _ _ _; have hE3 := (hEr.below hb2).below hA2; have hB3 := (hBr.trans (hb2.mono hBr.size)).trans (hA2.mono (hBr.trans (hb2.mono hBr.size)).size); have hS3 := (hA2.block B (by have := hb2.size; have := (Array.getElem?_eq_some_iff.1 hS).1; omega)).trans ((hb2.block B (Array.getElem?_eq_some_iff.1 hS).1).trans hS))
        | (go_at_call 8; refine (hZ1' _ hE3.ah).mono ?_; rintro e w4 ⟨rfl, hb4⟩; have hM4 := hM2.below hb4; have g0 := hM4.c0; have hE5 := hE3.below hb4; have hB5 := hB3.trans (hb4.mono hB3.size); have hS5 := (hb4.block B (Array.getElem?_eq_some_iff.1 hS3).1).trans hS3))
      go_roundw
      case rel => exact ⟨1, by omega, rfl, hS5, hE5, hB5⟩
      case measure => simp [intOf]
    | 1, _ =>
      have hDk : (wr.cell? ⟨B, 1, none⟩ = some (.string (str q2))) := Lib.cell_of_heap hS 1
      go_wp2_with (first
        | (go_at_call 7; refine (hP2' _ hEr.ah).mono ?_; rintro e w2 ⟨rfl, hb2⟩; have hA2 := (Below.refl _ w2).alloc (Nat.le_refl _) (.cells #[.int .i64 (n - (V)), .bool true, .bool true] 31); have hM2 : MAt (w2.alloc (.cells #[.int .i64 (n - (V)), .bool true, .bool true] 31)) w2.heap.size (n - (V), true, true) := alloc_MAt3 w2 _ _ _; have hE3 := (hEr.below hb2).below hA2; have hB3 := (hBr.trans (hb2.mono hBr.size)).trans (hA2.mono (hBr.trans (hb2.mono hBr.size)).size); have hS3 := (hA2.block B (by have := hb2.size; have := (Array.getElem?_eq_some_iff.1 hS).1; omega)).trans ((hb2.block B (Array.getElem?_eq_some_iff.1 hS).1).trans hS))
        | (go_at_call 8; refine (hZ2' _ hE3.ah).mono ?_; rintro e w4 ⟨rfl, hb4⟩; have hM4 := hM2.below hb4; have g0 := hM4.c0; have hE5 := hE3.below hb4; have hB5 := hB3.trans (hb4.mono hB3.size); have hS5 := (hb4.block B (Array.getElem?_eq_some_iff.1 hS3).1).trans hS3))
      go_roundw
      case rel => exact ⟨2, by omega, rfl, hS5, hE5, hB5⟩
      case measure => simp [intOf]
    | 2, _ =>
      go_wp2_with (first
        | (go_at_call 5; refine (alive6_any _ hEr).mono ?_; rintro e w3 ⟨rfl, hb3⟩))
      go_ret
      exact ⟨rfl, hBr.trans (hb3.mono hBr.size)⟩
set_option maxRecDepth 100000 in
set_option maxHeartbeats 2000000 in
theorem west_ (n y mo d a b : Int) (w : World) (hv : Dat.Valid y mo d) (hn : n / 86400 = Dat.num y mo d) (n0 : -9223372036854775808 ≤ n) (n1 : n ≤ 9223372036854775807) (a0 : 0 ≤ a) (a1 : a ≤ 255) (b0 : 0 ≤ b) (b1 : b ≤ 255) (hE : Env6 w) :
    Calls Tryd.prog 3 #[.int .i64 n, .agg #[.int .u8 a, .int .u8 b], .bool true] w fun e w' => e = .returned (.bool true) ∧ Below w.heap.size w w' := by
  have hz := (zero_of_info zeroM).1
  unfold mVal mCells mZero at hz
  have hbd := Dat.num_bd hv
  have hsg : ((45 : UInt8) = 43 ∧ (-1 : Int) = 1) ∨ ((45 : UInt8) = 45 ∧ (-1 : Int) = -1) := by decide
  have eL : Dat.num y mo d * 86400 + n % 86400 = n := by rw [← hn]; omega
  have P1 := parse_txt (z := p2 (a % 15) ++ p2 (b % 60)) hv (L := n % 86400) (by omega) (by omega) hsg (h := a % 15) (m := b % 60) (by omega) (by omega) (by omega) (by omega) (.inl rfl)
  have P2 := parse_txt (z := p2 (a % 15) ++ ([58] ++ p2 (b % 60))) hv (L := n % 86400) (by omega) (by omega) hsg (h := a % 15) (m := b % 60) (by omega) (by omega) (by omega) (by omega) (.inr rfl)
  have Z1 := zone_txt (z := p2 (a % 15) ++ p2 (b % 60)) hsg (h := a % 15) (m := b % 60) (by omega) (by omega) (by omega) (by omega) (.inl rfl)
  have Z2 := zone_txt (z := p2 (a % 15) ++ ([58] ++ p2 (b % 60))) hsg (h := a % 15) (m := b % 60) (by omega) (by omega) (by omega) (by omega) (.inr rfl)
  obtain ⟨V, hV⟩ : ∃ V : Int, -(a % 15 * 3600 + b % 60 * 60) = V := ⟨_, rfl⟩
  have V1 : -60000 ≤ V := by omega
  have V2 : V ≤ 60000 := by omega
  have eV : (-1 : Int) * (a % 15 * 3600 + b % 60 * 60) = V := by omega
  rw [eL, eV] at P1 P2
  rw [eV] at Z1 Z2
  have C1 := cat_txt y mo d (n % 86400) 45 (p2 (a % 15) ++ p2 (b % 60))
  have C2 := cat_txt y mo d (n % 86400) 45 (p2 (a % 15) ++ ([58] ++ p2 (b % 60)))
  have S1 := cat_s 45 (p2 (a % 15) ++ p2 (b % 60))
  have S2 := cat_s 45 (p2 (a % 15) ++ ([58] ++ p2 (b % 60)))
  have D1 := cat_z1 (a % 15) (b % 60)
  have D2 := cat_z2 (a % 15) (b % 60)
  have s1 : (str (p2 (a % 15) ++ p2 (b % 60))).size = 4 := by rw [str_size]; rfl
  have s2 : (str (p2 (a % 15) ++ ([58] ++ p2 (b % 60)))).size = 5 := by rw [str_size]; rfl
  have s3 := p2_size (a % 15)
  have s4 := p2_size (b % 60)
  have s5 : (str (fmtL y mo d (n % 86400))).size = 20 := by rw [str_size, fmtL_len]
  have s6 : ((str (fmtL y mo d (n % 86400))).extract 0 19).size = 19 := by rw [ByteArray.size_extract, s5]; rfl
  have hP1 := fun (w : World) (hA : Ahead w) => Parse_date (dateL y mo d ++ ([84] ++ (timeL (n % 86400) ++ (45 :: (p2 (a % 15) ++ p2 (b % 60)))))) w hA (by simp [dateL, timeL, p4, p2])
  have hP2 := fun (w : World) (hA : Ahead w) => Parse_date (dateL y mo d ++ ([84] ++ (timeL (n % 86400) ++ (45 :: (p2 (a % 15) ++ ([58] ++ p2 (b % 60))))))) w hA (by simp [dateL, timeL, p4, p2])
  have hZ1 := fun (w : World) (hA : Ahead w) => Zone_date (45 :: (p2 (a % 15) ++ p2 (b % 60))) w hA (by simp [p2])
  have hZ2 := fun (w : World) (hA : Ahead w) => Zone_date (45 :: (p2 (a % 15) ++ ([58] ++ p2 (b % 60)))) w hA (by simp [p2])
  rw [P1] at hP1
  rw [P2] at hP2
  rw [Z1] at hZ1
  rw [Z2] at hZ2
  clear P1 P2 Z1 Z2 eV hsg
  have hF := fun (w : World) (hE : Env6 w) => Format_yes n y mo d w hv hn n0 n1 hE
  have nb1 : -719162 * 86400 ≤ n := by omega
  have nb2 : n ≤ 2932897 * 86400 := by omega
  clear hv hn eL hbd
  generalize dateL y mo d ++ ([84] ++ (timeL (n % 86400) ++ (45 :: (p2 (a % 15) ++ p2 (b % 60))))) = T1 at *
  generalize dateL y mo d ++ ([84] ++ (timeL (n % 86400) ++ (45 :: (p2 (a % 15) ++ ([58] ++ p2 (b % 60)))))) = T2 at *
  generalize fmtL y mo d (n % 86400) = t at *
  generalize 45 :: (p2 (a % 15) ++ p2 (b % 60)) = U1 at *
  generalize 45 :: (p2 (a % 15) ++ ([58] ++ p2 (b % 60))) = U2 at *
  generalize p2 (a % 15) ++ p2 (b % 60) = q1 at *
  generalize p2 (a % 15) ++ ([58] ++ p2 (b % 60)) = q2 at *
  have hP1' : ∀ (w : World), Ahead w → Calls Tryd.prog 7 #[.string (str T1)] w fun e w' => e = .returned (.tuple #[.agg #[.int .i64 (n - (V)), .bool true, .bool true], .int .i64 0]) ∧ Below w.heap.size w w' := hP1
  have hP2' : ∀ (w : World), Ahead w → Calls Tryd.prog 7 #[.string (str T2)] w fun e w' => e = .returned (.tuple #[.agg #[.int .i64 (n - (V)), .bool true, .bool true], .int .i64 0]) ∧ Below w.heap.size w w' := hP2
  have hZ1' : ∀ (w : World), Ahead w → Calls Tryd.prog 8 #[.string (str U1)] w fun e w' => e = .returned (.tuple #[.int .i64 (V), .int .i64 0]) ∧ Below w.heap.size w w' := hZ1
  have hZ2' : ∀ (w : World), Ahead w → Calls Tryd.prog 8 #[.string (str U2)] w fun e w' => e = .returned (.tuple #[.int .i64 (V), .int .i64 0]) ∧ Below w.heap.size w w' := hZ2
  clear hP1 hP2 hZ1 hZ2
  go_enter Tryd.func3, Tryd.ntmps3
  go_wp2_with (fail)
  have hA0 := (Below.refl _ w).alloc (Nat.le_refl _) (.cells #[.int .u8 a, .int .u8 b] 22)
  have hS0 : (w.alloc (.cells #[.int .u8 a, .int .u8 b] 22)).heap[w.heap.size]? = some (.cells #[.int .u8 a, .int .u8 b] 22 (0, 0)) := heap_alloc_last w _
  have hB := hA0
  replace hE := hE.below hA0
  generalize w.alloc (.cells #[.int .u8 a, .int .u8 b] 22) = W at hE hB hS0
  have HB0 : Hid (∀ W', Below w.heap.size w W' → Below w.heap.size w W') := fun _ h => h
  have r0 : W.cell? ⟨w.heap.size, 0, none⟩ = some (.int .u8 a) := Lib.cell_of_heap hS0 0
  have r1 : W.cell? ⟨w.heap.size, 1, none⟩ = some (.int .u8 b) := Lib.cell_of_heap hS0 1
  clear hA0 hS0
  go_quiet (fail)
  replace hE := hE.below (below_drewN (Below.refl _ W) nq)
  replace hB := below_drewN hB nq
  generalize W.drewN nq = W1 at hE hB
  clear r0 r1
  go_wp2_with (first
    | (go_at_call 4; refine (hF _ hE).mono ?_; rintro e wn ⟨rfl, hn⟩; have hE2 := hE.below hn; replace hE := hE2; clear hE2; replace hB := hB.trans (hn.mono hB.size); clear hn)
    | (go_at_call 6; refine (two_any _ _ (by omega) (by omega)).mono ?_; rintro e wn ⟨rfl, hn⟩; have hE2 := hE.below hn; replace hE := hE2; clear hE2; replace hB := hB.trans (hn.mono hB.size); clear hn))
  have hA1 := (Below.refl _ wn).alloc (Nat.le_refl _) (.cells #[.string (str q1), .string (str q2)] 9)
  have hS1 : (wn.alloc (.cells #[.string (str q1), .string (str q2)] 9)).heap[wn.heap.size]? = some (.cells #[.string (str q1), .string (str q2)] 9 (0, 0)) := heap_alloc_last wn _
  replace hE := hE.below hA1
  replace hB := hB.trans (hA1.mono hB.size)
  generalize wn.alloc (.cells #[.string (str q1), .string (str q2)] 9) = W2 at hE hB hS1
  generalize wn.heap.size = B at hS1
  clear hA1
  go_loopw [71] (fun i wr => ∃ k : Nat, k ≤ 2 ∧ i = .int .i64 k ∧ wr.heap[B]? = some (.cells #[.string (str q1), .string (str q2)] 9 (0, 0)) ∧ Env6 wr ∧ Below w.heap.size w wr) (fun i _ => 2 - (intOf i).toNat)
  case atStart => exact ⟨0, by omega, rfl, hS1, hE, hB⟩
  case round =>
    obtain ⟨k, hk, rfl, hS, hEr, hBr⟩ := hrel
    clear hE hB hS1
    match k, hk with
    | 0, _ =>
      have hDk : (wr.cell? ⟨B, 0, none⟩ = some (.string (str q1))) := Lib.cell_of_heap hS 0
      go_wp2_with (first
        | (go_at_call 7; refine (hP1' _ hEr.ah).mono ?_; rintro e w2 ⟨rfl, hb2⟩; have hA2 := (Below.refl _ w2).alloc (Nat.le_refl _) (.cells #[.int .i64 (n - (V)), .bool true, .bool true] 31); have hM2 : MAt (w2.alloc (.cells #[.int .i64 (n - (V)), .bool true, .bool true] 31)) w2.heap.size (n - (V), true, true) := alloc_MAt3 w2 _ _ _; have hE3 := (hEr.below hb2).below hA2; have hB3 := (hBr.trans (hb2.mono hBr.size)).trans (hA2.mono (hBr.trans (hb2.mono hBr.size)).size); have hS3 := (hA2.block B (by have := hb2.size; have := (Array.getElem?_eq_some_iff.1 hS).1; omega)).trans ((hb2.block B (Array.getElem?_eq_some_iff.1 hS).1).trans hS))
        | (go_at_call 8; refine (hZ1' _ hE3.ah).mono ?_; rintro e w4 ⟨rfl, hb4⟩; have hM4 := hM2.below hb4; have g0 := hM4.c0; have hE5 := hE3.below hb4; have hB5 := hB3.trans (hb4.mono hB3.size); have hS5 := (hb4.block B (Array.getElem?_eq_some_iff.1 hS3).1).trans hS3))
      go_roundw
      case rel => exact ⟨1, by omega, rfl, hS5, hE5, hB5⟩
      case measure => simp [intOf]
    | 1, _ =>
      have hDk : (wr.cell? ⟨B, 1, none⟩ = some (.string (str q2))) := Lib.cell_of_heap hS 1
      go_wp2_with (first
        | (go_at_call 7; refine (hP2' _ hEr.ah).mono ?_; rintro e w2 ⟨rfl, hb2⟩; have hA2 := (Below.refl _ w2).alloc (Nat.le_refl _) (.cells #[.int .i64 (n - (V)), .bool true, .bool true] 31); have hM2 : MAt (w2.alloc (.cells #[.int .i64 (n - (V)), .bool true, .bool true] 31)) w2.heap.size (n - (V), true, true) := alloc_MAt3 w2 _ _ _; have hE3 := (hEr.below hb2).below hA2; have hB3 := (hBr.trans (hb2.mono hBr.size)).trans (hA2.mono (hBr.trans (hb2.mono hBr.size)).size); have hS3 := (hA2.block B (by have := hb2.size; have := (Array.getElem?_eq_some_iff.1 hS).1; omega)).trans ((hb2.block B (Array.getElem?_eq_some_iff.1 hS).1).trans hS))
        | (go_at_call 8; refine (hZ2' _ hE3.ah).mono ?_; rintro e w4 ⟨rfl, hb4⟩; have hM4 := hM2.below hb4; have g0 := hM4.c0; have hE5 := hE3.below hb4; have hB5 := hB3.trans (hb4.mono hB3.size); have hS5 := (hb4.block B (Array.getElem?_eq_some_iff.1 hS3).1).trans hS3))
      go_roundw
      case rel => exact ⟨2, by omega, rfl, hS5, hE5, hB5⟩
      case measure => simp [intOf]
    | 2, _ =>
      go_wp2_with (first
        | (go_at_call 5; refine (alive6_any _ hEr).mono ?_; rintro e w3 ⟨rfl, hb3⟩))
      go_ret
      exact ⟨rfl, hBr.trans (hb3.mono hBr.size)⟩
set_option maxRecDepth 100000 in
set_option maxHeartbeats 2000000 in
theorem no (n a b : Int) (west : Bool) (w : World) (hn : n / 86400 < -719162 ∨ 2932896 < n / 86400) (n0 : -9223372036854775808 ≤ n) (n1 : n ≤ 9223372036854775807) (hE : Env6 w) :
    Calls Tryd.prog 3 #[.int .i64 n, .agg #[.int .u8 a, .int .u8 b], .bool west] w fun e w' => e = .returned (.bool true) ∧ Below w.heap.size w w' := by
  have hF := fun (w : World) => Format_no n w hn n0 n1
  clear hn
  go_enter Tryd.func3, Tryd.ntmps3
  go_wp2_with (fail)
  have hA0 := (Below.refl _ w).alloc (Nat.le_refl _) (.cells #[.int .u8 a, .int .u8 b] 22)
  have hS0 : (w.alloc (.cells #[.int .u8 a, .int .u8 b] 22)).heap[w.heap.size]? = some (.cells #[.int .u8 a, .int .u8 b] 22 (0, 0)) := heap_alloc_last w _
  have hB := hA0
  replace hE := hE.below hA0
  generalize w.alloc (.cells #[.int .u8 a, .int .u8 b] 22) = W at hE hB hS0
  have r0 : W.cell? ⟨w.heap.size, 0, none⟩ = some (.int .u8 a) := Lib.cell_of_heap hS0 0
  have r1 : W.cell? ⟨w.heap.size, 1, none⟩ = some (.int .u8 b) := Lib.cell_of_heap hS0 1
  clear hA0 hS0
  go_quiet (fail)
  replace hE := hE.below (below_drewN (Below.refl _ W) nq)
  replace hB := below_drewN hB nq
  generalize W.drewN nq = W1 at hE hB
  clear r0 r1
  go_wp2_with (first
    | (go_at_call 4; refine (hF _).mono ?_; rintro e wn ⟨rfl, hn⟩; have hE2 := hE.below hn; replace hE := hE2; clear hE2; replace hB := hB.trans (hn.mono hB.size); clear hn)
    | (go_at_call 5; refine (alive6_any _ hE).mono ?_; rintro e w3 ⟨rfl, hb3⟩))
  go_ret
  exact ⟨rfl, hB.trans (hb3.mono hB.size)⟩
theorem walk (n a b : Int) (west : Bool) (w : World) (hn : (Lit.int .i64 n).wf = true) (ha : (Lit.int .u8 a).wf = true) (hb : (Lit.int .u8 b).wf = true) (hE : Env6 w) :
    Calls Tryd.prog 3 #[.int .i64 n, .agg #[.int .u8 a, .int .u8 b], .bool west] w fun e w' => e = .returned (.bool true) ∧ Below w.heap.size w w' := by
  obtain ⟨n0, n1⟩ := i64_bd hn
  have ba := bounds_u8 ha
  have bb := bounds_u8 hb
  by_cases h : n / 86400 < -719162 ∨ 2932896 < n / 86400
  · exact no n a b west w h n0 n1 hE
  · obtain ⟨y, m, d, hv, hn⟩ := Dat.some_day (n / 86400) (by omega) (by omega)
    cases west
    · exact east n y m d a b w hv hn.symm n0 n1 (by omega) (by omega) (by omega) (by omega) hE
    · exact west_ n y m d a b w hv hn.symm n0 n1 (by omega) (by omega) (by omega) (by omega) hE
end Go.Proofs.YtnklbeldheocmabDoor.dateZones
