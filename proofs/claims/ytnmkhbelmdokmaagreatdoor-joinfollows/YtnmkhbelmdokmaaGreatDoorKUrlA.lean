/- Texts laid as one. -/
import Derived.Test.YtnmkhbelmdokmaaGreatDoorKGround
import Derived.Test.YtnmkhbelmdokmaaGreatDoorKShelf
import Derived.Test.YtnmkhbelmdokmaaGreatDoorKMath
import Derived.Laws.Runes
import Derived.Laws.RangeAny
import Derived.Lib.TrimUEq
import Derived.WalkMore
import Derived.Deep.RegionWith
import Derived.BigQuiet
import Derived.Test.YtnmkhbelmdokmaaGreatDoorKAscii
import Derived.Lib.SmallJoins
/- strings.IndexAny at any bytes, with bytes below 128 to look for; strings.TrimLeft at slashes. -/
namespace Go.Proofs.YtnmkhbelmdokmaaGreatDoor
open Go.RowKit
theorem dec_low (l : List UInt8) (k : Nat) (h : k < l.length) (ha : l[k].toNat < 128) : Utf.dec (l.drop k) = (l[k].toNat, 1) := by
  unfold Utf.dec
  rw [List.drop_eq_getElem_cons h]
  exact Lib.decodeN_ascii _ _ _ _ _ ha
theorem indexByte_no (l : List UInt8) (c : UInt8) (h : ∀ b ∈ l, b ≠ c) : Lib.indexByte l c = -1 := by
  induction l with
  | nil => rfl
  | cons a t ih =>
    have hn : (a == c) = false := beq_eq_false_iff_ne.2 (h a (List.mem_cons_self ..))
    rw [Lib.indexByte, hn, ih (fun b hb => h b (List.mem_cons_of_mem _ hb))]
    rfl
set_option maxHeartbeats 1000000 in
set_option maxRecDepth 100000 in
/-- A sign from 128 on stands in no text of bytes below. -/
theorem IndexRune_err (cs : List UInt8) (w : World) (hc : ∀ c ∈ cs, c.toNat < 128) :
    Calls Tryz.prog 120 #[.string (str cs), .int .i32 65533] w fun e w' => e = .returned (.int .i64 (-1)) ∧ Below w.heap.size w w' := by
  have hsz := str_size cs
  go_enter Tryz.func120, Tryz.ntmps120
  go_wp2
  go_loopw [] (fun wr => ∃ k : Nat, k ≤ cs.length ∧ wr.heap[w.heap.size]? = some (.stringIter (str cs) k) ∧ Below w.heap.size w wr) (fun wr => cs.length - wr.iterPos w.heap.size)
  case atStart => exact ⟨0, Nat.zero_le _, World.iter_heap w (str cs) 0, (Below.refl _ w).alloc (Nat.le_refl _) _⟩
  case round =>
    obtain ⟨k, hk, hit, hbw⟩ := hrel
    by_cases hlt : k < cs.length
    · have ha := hc _ (List.getElem_mem hlt)
      have hnx := next_any cs wr w.heap.size k hit hlt
      have hit2 := Lib.iterAt_heap wr w.heap.size (str cs) k (k + 1) hit
      have hbw2 := Lib.below_iterAt hbw (k := w.heap.size) (Nat.le_refl _) (str cs) (k + 1)
      rw [dec_low cs k hlt ha] at hnx
      have hq : ((cs[k].toNat : Int) == 65533) = false := by rw [beq_eq_false_iff_ne]; omega
      go_wp2
      go_roundw
      case rel => exact ⟨k + 1, by omega, hit2, hbw2⟩
      case measure => simp only [World.iterPos, hit2, hit]; omega
    · have hnx := next_end cs wr w.heap.size k hit hlt
      go_wp2
      go_ret
      exact ⟨rfl, hbw⟩
set_option maxHeartbeats 2000000 in
set_option maxRecDepth 100000 in
theorem IndexRune_high (cs : List UInt8) (r : Int) (w : World) (hc : ∀ c ∈ cs, c.toNat < 128) (h0 : 128 ≤ r) (h1 : r ≠ 65533) :
    Calls Tryz.prog 120 #[.string (str cs), .int .i32 r] w fun e w' => e = .returned (.int .i64 (-1)) ∧ Below w.heap.size w w' := by
  have hsz := str_size cs
  have hp : (0 : Int) ≤ r := by omega
  have hnl : ¬ r < 128 := by omega
  have hne : (r == 65533) = false := beq_eq_false_iff_ne.2 h1
  cases hv : Lib.validRune r
  · go_enter Tryz.func120, Tryz.ntmps120
    go_wp2_with (go_at_call 150; refine (Tryz.utf8_ValidRune _ _).mono ?_; rintro e w1 ⟨rfl, hw1⟩; rw [hw1, hv]; clear hw1)
    go_ret
    exact ⟨rfl, Below.refl _ _⟩
  · have hv2 : Utf8.valid r = true := by
      have := of_decide_eq_true hv
      unfold Utf8.valid
      simp only [Bool.or_eq_true, Bool.and_eq_true, decide_eq_true_eq]
      omega
    obtain ⟨e1, e2, e3⟩ := encode_facts r hv2 h0
    obtain ⟨rs, hrs⟩ : ∃ rs, Utf8.encode r = rs := ⟨_, rfl⟩
    rw [hrs] at e1 e2 e3
    have hcv : ∀ W : World, (convert 21 9 (.int .i32 r)).run Tryz.prog W = .ok (.string rs) W := fun W => by
      rw [run_convert_int_string W _ _ _ _ (by rw [Tryz.underlying21]; rfl) Tryz.underlying9, hrs]
    obtain ⟨n, hn⟩ : ∃ n, rs.size = n + 1 := ⟨rs.size - 1, by omega⟩
    have hnl2 : n < rs.size := by omega
    obtain ⟨b, hb⟩ : ∃ b : UInt8, rs[n]'hnl2 = b := ⟨_, rfl⟩
    have e4 : 128 ≤ b.toNat := by
      have := e3 (by omega)
      rw [← hb]
      simpa [hn] using this
    clear hrs e3 e1
    go_enter Tryz.func120, Tryz.ntmps120
    go_wp2_with (go_at_call 150; refine (Tryz.utf8_ValidRune _ _).mono ?_; rintro e w1 ⟨rfl, hw1⟩; rw [hw1, hv]; clear hw1)
    apply wp_scope_straight
    go_wp2
    go_loopw [9] (fun i wr => i = .int .i64 (n : Int) ∧ wr = w) (fun _ _ => 0)
    case atStart => exact ⟨rfl, rfl⟩
    case round =>
      obtain ⟨rfl, rfl⟩ := hrel
      by_cases hlt : n < cs.length
      · have hlt2 : n < (str cs).size := by rw [str_size]; exact hlt
        have ha : ((str cs)[n]'hlt2).toNat < 128 := hc _ (List.getElem_mem hlt)
        have hd : ((((str cs)[n]'hlt2).toNat : Int) != (b.toNat : Int)) = true := by
          rw [bne_iff_ne]
          omega
        have hno : Lib.indexByte ((str cs).extract (n + 1) cs.length).data.toList ((b.toNat : Int).toNat.toUInt8) = -1 := by
          apply indexByte_no
          intro x hx
          rw [data_cut, str_data] at hx
          have := hc x (List.mem_of_mem_take (List.mem_of_mem_drop hx))
          rintro rfl
          simp at this
          omega
        have hlti : (n : Int) < (cs.length : Int) := by omega
        have hle : (n : Int) + 1 ≤ (cs.length : Int) := by omega
        have hge : (0 : Int) ≤ (n : Int) + 1 := by omega
        have htn : ((n : Int) + 1).toNat = n + 1 := by omega
        have hsum : IntKind.i64.wrap ((n : Int) + 1) = (n : Int) + 1 := wrap_small _ (by omega) (by omega)
        have hsl : ∀ (W : World), (Instr.slice 9 (.string (str cs)) (some (.int .i64 ((n : Int) + 1))) none none).run Tryz.prog W = .ok (.string ((str cs).extract (n + 1) cs.length)) W := fun W => by
          rw [run_slice_string_from_if (P := Tryz.prog) W 9 (str cs) .i64 ((n : Int) + 1) Tryz.underlying9, if_pos ⟨hge, by rw [hsz]; exact hle⟩, htn, hsz]
        have hix : ∀ (W : World), (Instr.index 9 (.string rs) (.int .i64 (n : Int))).run Tryz.prog W = .ok (.int .u8 b.toNat) W := fun W => by
          rw [run_index_string (P := Tryz.prog) W 9 rs .i64 (n : Int) Tryz.underlying9, dif_pos ⟨by omega, by omega⟩]
          simp only [Int.toNat_natCast, hb]
        clear ha
        go_wp2
        apply wp_scope_straight
        go_wp2
        go_region
        go_wp2
        go_quiet ((go_at_call 149; exact (Tryz.strings_IndexByte _ _ _).mono fun e w2 h => ⟨h.1, _, h.2⟩))
        rw [hno]
        go_wp2
        rw [Exit.noGoto_ret]
        go_wp2
        rw [Exit.noGoto_ret]
        go_wp2
        go_ret
        exact ⟨rfl, below_drewN' (Below.refl _ _) _⟩
      · have hlt2 : ¬ (n : Int) < (cs.length : Int) := by omega
        go_wp2
        go_ret
        exact ⟨rfl, Below.refl _ _⟩
theorem indexAny_high (l : List UInt8) (cs : List UInt8) (k : Nat) (h : k < l.length) (hc : ∀ c ∈ cs, c.toNat < 128) (ha : 128 ≤ l[k].toNat) : cs.contains l[k] = false := by
  rw [Bool.eq_false_iff]
  intro hm
  have := hc _ (List.contains_iff_mem.1 hm)
  omega
/-- The bytes within a sign are from 128 on. -/
theorem dec_inner (l : List UInt8) (k j : Nat) (h : k < l.length) (h1 : 1 ≤ j) (h2 : j < (Utf.dec (l.drop k)).2) : ∃ h : k + j < l.length, 128 ≤ (l[k + j]'h).toNat := by
  have hne : l.drop k ≠ [] := by
    intro e
    have := congrArg List.length e
    simp at this
    omega
  cases hw : (Utf.part (l.drop k)).2
  · rw [Utf.dec_bad _ hne hw] at h2
    simp at h2
    omega
  · rw [Utf.dec_whole _ hne hw] at h2
    have hl := Utf.part_len (l.drop k) hne
    rw [List.length_drop] at hl
    have hc := (Utf.part_cont (l.drop k) j h1 h2).1
    rw [Utf.at_drop] at hc
    have hlt : k + j < l.length := by omega
    refine ⟨hlt, ?_⟩
    unfold Utf.at' at hc
    rw [List.getD_eq_getElem?_getD, List.getElem?_eq_getElem hlt] at hc
    simpa using hc
theorem dec_first (l : List UInt8) (k : Nat) (h : k < l.length) (ha : 128 ≤ l[k].toNat) : 128 ≤ (Utf.dec (l.drop k)).1 := by
  unfold Utf.dec
  rw [List.drop_eq_getElem_cons h]
  exact Url.decodeN_ge _ _ _ _ _ ha
set_option maxHeartbeats 2000000 in
set_option maxRecDepth 100000 in
theorem IndexAny_short (l cs : List UInt8) (w : World) (h2 : 2 ≤ cs.length) (hl : cs.length ≤ 1000) (hc : ∀ c ∈ cs, c.toNat < 128) (h8 : l.length ≤ 8) :
    Calls Tryz.prog 85 #[.string (str l), .string (str cs)] w fun e w' => e = .returned (.int .i64 (Lib.indexAny l cs)) ∧ Below w.heap.size w w' := by
  have hsz := str_size l
  have hsc := str_size cs
  have hemp : (str cs).toList.isEmpty = false := by
    rw [str_list]
    cases cs with
    | nil => simp at h2
    | cons => rfl
  have hn1 : ((cs.length : Int) == 1) = false := beq_eq_false_iff_ne.2 (by omega)
  have h8z : decide ((8 : Int) < (l.length : Int)) = false := decide_eq_false (by omega)
  go_enter Tryz.func85, Tryz.ntmps85
  go_wp2_with (go_at_call 121; refine (Tryz.strings_shouldUseASCIISet _ _).mono ?_; rintro e w1 ⟨rfl, hw1⟩; rw [hw1, h8z]; clear hw1)
  go_loopw [] (fun wr => ∃ k : Nat, k ≤ l.length ∧ wr.heap[w.heap.size]? = some (.stringIter (str l) k) ∧ Hid (Lib.NoAny l cs k) ∧ Below w.heap.size w wr) (fun wr => l.length - wr.iterPos w.heap.size)
  case atStart => exact ⟨0, Nat.zero_le _, World.iter_heap w (str l) 0, Lib.NoAny.zero _ _, (Below.refl _ w).alloc (Nat.le_refl _) _⟩
  case round =>
    obtain ⟨k, hk, hit, HN, hbw⟩ := hrel
    by_cases hlt : k < l.length
    · have hnx := next_any l wr w.heap.size k hit hlt
      have hit2 := Lib.iterAt_heap wr w.heap.size (str l) k (k + (Utf.dec (l.drop k)).2) hit
      have hbw2 := Lib.below_iterAt hbw (k := w.heap.size) (Nat.le_refl _) (str l) (k + (Utf.dec (l.drop k)).2)
      have hsz2 := hbw2.size
      by_cases ha : l[k].toNat < 128
      · rw [dec_low l k hlt ha] at hnx hit2 hbw2
        have hcon := Lib.contains_iff_indexByte cs l[k]
        have hback : ((l[k].toNat : Int)).toNat.toUInt8 = l[k] := by simp
        have HX : Hid (l[k]? = some l[k]) := List.getElem?_eq_getElem hlt
        cases hin : cs.contains l[k]
        · rw [hin] at hcon
          have hneg : ¬ ((0 : Int) ≤ Lib.indexByte cs l[k]) := of_decide_eq_false hcon.symm
          have HI : Hid (cs.contains l[k] = false) := hin
          clear hcon hin
          go_wp2_with (go_at_call 120; refine (Tryz.strings_IndexRune_ascii (str cs) _ _ (by omega) (by omega)).mono ?_; rintro e w1 ⟨rfl, hw1⟩; rw [hw1, hback, str_data]; clear hw1)
          go_roundw
          case rel => exact ⟨k + 1, by omega, hit2, HN.out.succ HX.out HI.out, hbw2⟩
          case measure => simp only [World.iterPos, hit2, hit]; omega
        · rw [hin] at hcon
          have hpos : (0 : Int) ≤ Lib.indexByte cs l[k] := of_decide_eq_true hcon.symm
          have HI : Hid (cs.contains l[k] = true) := hin
          clear hcon hin
          go_wp2_with (go_at_call 120; refine (Tryz.strings_IndexRune_ascii (str cs) _ _ (by omega) (by omega)).mono ?_; rintro e w1 ⟨rfl, hw1⟩; rw [hw1, hback, str_data]; clear hw1)
          go_ret
          exact ⟨ret_int (Lib.indexAny_hit HN.out HX.out HI.out).symm, hbw2⟩
      · have hr := dec_first l k hlt (by omega)
        have hpos := Utf.part_pos (l.drop k)
        have HJ : Hid (Lib.NoAny l cs (k + (Utf.dec (l.drop k)).2)) := by
          intro j b hj hb
          rcases Nat.lt_or_ge j k with h | h
          · exact HN.out j b h hb
          · rcases Nat.eq_or_lt_of_le h with rfl | h'
            · rw [List.getElem?_eq_getElem hlt] at hb
              cases hb
              exact indexAny_high l cs k hlt hc (by omega)
            · obtain ⟨h1, h3⟩ := dec_inner l k (j - k) hlt (by omega) (by omega)
              rw [show k + (j - k) = j by omega] at h1
              have h4 : 128 ≤ (l[j]'h1).toNat := by
                have e : k + (j - k) = j := by omega
                simpa [e] using h3
              rw [List.getElem?_eq_getElem h1] at hb
              cases hb
              exact indexAny_high l cs j h1 hc h4
        have hstep : 1 ≤ (Utf.dec (l.drop k)).2 ∧ k + (Utf.dec (l.drop k)).2 ≤ l.length := by
          have hne : l.drop k ≠ [] := by
            intro e
            have := congrArg List.length e
            simp at this
            omega
          have hl := Utf.part_len (l.drop k) hne
          rw [List.length_drop] at hl
          cases hw : (Utf.part (l.drop k)).2
          · rw [Utf.dec_bad _ hne hw]; simp; omega
          · rw [Utf.dec_whole _ hne hw]; omega
        obtain ⟨r, hrr⟩ : ∃ r, (Utf.dec (l.drop k)).1 = r := ⟨_, rfl⟩
        rw [hrr] at hnx hr
        have call : ∀ W : World, Calls Tryz.prog 120 #[.string (str cs), .int .i32 (r : Int)] W fun e w' => e = .returned (.int .i64 (-1)) ∧ Below W.heap.size W w' := by
          intro W
          by_cases he : r = 65533
          · subst he; exact IndexRune_err cs W hc
          · exact IndexRune_high cs r W hc (by omega) (by omega)
        clear hrr hr ha hpos
        go_wp2_with (go_at_call 120; refine (call _).mono ?_; rintro e w1 ⟨rfl, hb1⟩)
        have hit3 := (hb1.block w.heap.size (Array.getElem?_eq_some_iff.1 hit2).1).trans hit2
        have hbw3 := bel hbw2 hb1
        go_roundw
        case rel => exact ⟨k + (Utf.dec (l.drop k)).2, hstep.2, hit3, HJ, hbw3⟩
        case measure => simp only [World.iterPos, hit3, hit]; omega
    · have hnx := next_end l wr w.heap.size k hit hlt
      have HE : Hid (Lib.indexAny l cs = -1) := Lib.indexAny_none (by rw [show l.length = k by omega]; exact HN.out)
      go_wp2
      go_ret
      exact ⟨ret_int HE.out.symm, hbw⟩
theorem zeroSet : ∀ w : World, (zeroValue 101).run Tryz.prog w = .ok (.agg (Array.replicate 256 (.bool false))) w := (zero_of_info (n := 256) (by kernel_rfl)).1
theorem low_at (cs : List UInt8) (hc : ∀ c ∈ cs, c.toNat < 128) : ∀ (j : Nat) b, (str cs).data.toList[j]? = some b → b.toNat < 128 := by
  intro j b hb
  rw [str_data] at hb
  exact hc b (List.mem_of_getElem? hb)
/-- strings.IndexAny. -/
theorem IndexAny_any (l cs : List UInt8) (w : World) (h1 : 1 ≤ cs.length) (hl : cs.length ≤ 1000) (hc : ∀ c ∈ cs, c.toNat < 128) (hz : l.length ≤ 1000000000) :
    Calls Tryz.prog 85 #[.string (str l), .string (str cs)] w fun e w' => e = .returned (.int .i64 (Lib.indexAny l cs)) ∧ Below w.heap.size w w' := by
  rcases Nat.eq_or_lt_of_le h1 with h | h
  · have := Tryz.strings_IndexAny_one (str l) (str cs) w (by rw [str_size]; omega) (low_at cs hc)
    rw [str_data, str_data] at this
    refine this.mono ?_
    rintro e w' ⟨rfl, rfl⟩
    exact ⟨rfl, Below.refl _ _⟩
  · by_cases h8 : l.length ≤ 8
    · exact IndexAny_short l cs w h hl hc h8
    · have := Tryz.strings_IndexAny_long zeroSet (str l) (str cs) w (by rw [str_size]; omega) (by rw [str_size]; omega) (by rw [str_size]; omega) (by rw [str_size]; omega) (low_at cs hc)
      rw [str_data, str_data] at this
      refine this.mono ?_
      rintro e w' ⟨rfl, rfl⟩
      exact ⟨rfl, ((Below.refl _ w).alloc (Nat.le_refl _) _).alloc (by simp) _⟩
theorem size_set : (Tryz.prog.info? 101).map (·.size) = some 256 := by kernel_rfl
theorem wpList_store_set {ops : Array Oper} {rest : List Oper} {o : Oper} {a : Act} {w : World} {Q : Exit → Act → World → Prop} (x y : Operand) (ho : o.op = .store 101 x y) (hg : o.guard = none) (b : Nat) (c : Array Value) (cs : List UInt8) (hs : c.size = 256) (hx : a.eval x = .pointer (some ⟨b, 0, none⟩)) (hy : a.eval y = .agg (Lib.setCells cs)) (h : w.heap[b]? = some (.cells c 101 (0, 0)))
    (hn : wpList Tryz.prog ops Q rest (a.put o.dst undef) (w.setRow b (Lib.setCells cs))) : wpList Tryz.prog ops Q (o :: rest) a w := by
  refine wpList_plain hg fun K hK => ?_
  unfold Oper.wp
  have e0 : (Instr.storeAt 101 (.pointer (some ⟨b, 0, none⟩)) (.agg (Lib.setCells cs))).run Tryz.prog w = .ok () (w.setRow b (Lib.setCells cs)) := by
    simp only [Instr.storeAt, Instr.sureAddr, Sem.run_bind, Sem.run_pure, Result.andThen]
    exact run_storeVar_row _ _ _ _ _ _ h (by rw [Lib.setCells_size]; exact size_set) (by rw [Lib.setCells_size, hs]) (Lib.setCells_one cs)
  have e : (execOp a.eval o).run Tryz.prog w = .ok .skip (w.setRow b (Lib.setCells cs)) := by
    unfold execOp
    rw [ho]
    simp only [hx, hy, Sem.run_bind, e0, Result.andThen, Sem.run_pure]
  rw [e, Oper.upon_skip]
  exact hK _ _ hn
theorem setRow_new {w : World} {b : Nat} {c d : Array Value} {t : TypeId} (h : w.heap[b]? = some (.cells c t (0, 0))) : (w.setRow b d).heap[b]? = some (.cells d t (0, 0)) := by
  simp [World.setRow, Array.getElem?_modify, h]
theorem set_cell {w : World} {b : Nat} {t : TypeId} (cs : List UInt8) (h : w.heap[b]? = some (.cells (Lib.setCells cs) t (0, 0))) (x : UInt8) : w.cell? ⟨b, x.toNat, none⟩ = some (.bool (cs.contains x)) := by
  have := Lib.setCells_at cs x
  simp [World.cell?, h, this]
theorem drop_next (l : List UInt8) (k : Nat) (h : k < l.length) (cs : List UInt8) (hx : cs.contains l[k] = true) : (l.drop k).dropWhile cs.contains = (l.drop (k + 1)).dropWhile cs.contains := by
  rw [List.drop_eq_getElem_cons h, List.dropWhile_cons_of_pos hx]
theorem drop_stop (l : List UInt8) (k : Nat) (h : k < l.length) (cs : List UInt8) (hx : cs.contains l[k] = false) : (l.drop k).dropWhile cs.contains = l.drop k := by
  rw [List.drop_eq_getElem_cons h, List.dropWhile_cons_of_neg (by rw [hx]; decide)]
theorem at_zero (l : List UInt8) (k : Nat) (h : k < l.length) (h0 : 0 < (str (l.drop k)).size) : (str (l.drop k))[0]'h0 = l[k] := by
  have e : (str (l.drop k))[0]'h0 = (l.drop k)[0]'(by rw [← str_size]; exact h0) := rfl
  rw [e, List.getElem_drop]
  simp
set_option maxHeartbeats 1000000 in
theorem trimLeftASCII_any (l cs : List UInt8) (b : Nat) (w : World) (hb : w.heap[b]? = some (.cells (Lib.setCells cs) 101 (0, 0))) :
    Calls Tryz.prog 111 #[.string (str l), .pointer (some ⟨b, 0, none⟩)] w fun e w' => e = .returned (.string (str (l.dropWhile cs.contains))) ∧ w' = w := by
  go_enter Tryz.func111, Tryz.ntmps111
  go_wp2
  go_loopw [0] (fun s wr => ∃ k : Nat, k ≤ l.length ∧ s = .string (str (l.drop k)) ∧ Hid (l.dropWhile cs.contains = (l.drop k).dropWhile cs.contains) ∧ wr = w) (fun s _ => match s with | .string x => x.size | _ => 0)
  case atStart => exact ⟨0, Nat.zero_le _, by rw [List.drop_zero], by rw [List.drop_zero]; rfl, rfl⟩
  case round =>
    obtain ⟨k, hk, rfl, HE, rfl⟩ := hrel
    have hsz : (str (l.drop k)).size = l.length - k := by rw [str_size, List.length_drop]
    by_cases hlt : k < l.length
    · have h0 : 0 < (str (l.drop k)).size := by omega
      have hp : (0 : Int) < ((l.length - k : Nat) : Int) := by omega
      have ha := at_zero l k hlt h0
      have hext : (str (l.drop k)).extract 1 (l.length - k) = str (l.drop (k + 1)) := by
        have := str_from (l.drop k) 1
        rw [List.length_drop, List.drop_drop] at this
        exact this
      have h1 : (1 : Int) ≤ ((l.length - k : Nat) : Int) := by omega
      cases hx : cs.contains l[k]
      · have hc := set_cell cs hb l[k]
        rw [hx] at hc
        have HN := drop_stop l k hlt cs hx
        have HN2 : Hid _ := HN
        clear HN hx
        go_wp2_with (go_at_call 122; refine (Tryz.asciiSet_contains b l[k] _ _ hc).mono ?_; rintro e w1 ⟨rfl, hw1⟩; rw [hw1]; clear hw1)
        go_ret
        exact ⟨by rw [HE.out, HN2.out]; rfl, rfl⟩
      · have hc := set_cell cs hb l[k]
        rw [hx] at hc
        have HN := drop_next l k hlt cs hx
        have HN2 : Hid _ := HN
        clear HN hx
        go_wp2_with (go_at_call 122; refine (Tryz.asciiSet_contains b l[k] _ _ hc).mono ?_; rintro e w1 ⟨rfl, hw1⟩; rw [hw1]; clear hw1)
        go_roundw
        case rel => exact ⟨k + 1, by omega, rfl, HE.out.trans HN2.out, trivial⟩
        case measure => simp only [hsz, str_size, List.length_drop]; omega
    · have hp : ¬ (0 : Int) < ((l.length - k : Nat) : Int) := by omega
      go_wp2
      go_ret
      exact ⟨by rw [HE.out, List.drop_of_length_le (by omega)]; rfl, rfl⟩
theorem alloc_two (w : World) (a b : Obj) : ((w.alloc a).alloc b).heap[w.heap.size + 1]? = some b := by
  have := heap_alloc_last (w.alloc a) b
  simpa using this
set_option maxHeartbeats 1000000 in
set_option maxRecDepth 100000 in
theorem TrimLeft_any (l cs : List UInt8) (w : World) (h2 : 2 ≤ cs.length) (hl : cs.length ≤ 1000) (hc : ∀ c ∈ cs, c.toNat < 128) :
    Calls Tryz.prog 78 #[.string (str l), .string (str cs)] w fun e w' => e = .returned (.string (str (l.dropWhile cs.contains))) ∧ Below w.heap.size w w' := by
  have hsc := str_size cs
  have hemp : (str cs).toList.isEmpty = false := by
    rw [str_list]
    cases cs with
    | nil => simp at h2
    | cons => rfl
  have hn1 : ((cs.length : Int) == 1) = false := beq_eq_false_iff_ne.2 (by omega)
  have hzs := zeroSet
  by_cases hn : l = []
  · subst hn
    have he : (str []).toList.isEmpty = true := by rw [str_list]; rfl
    go_enter Tryz.func78, Tryz.ntmps78
    go_wp2
    go_ret
    exact ⟨rfl, Below.refl _ _⟩
  · have he : (str l).toList.isEmpty = false := by
      rw [str_list]
      cases l with
      | nil => exact absurd rfl hn
      | cons => rfl
    go_enter Tryz.func78, Tryz.ntmps78
    go_wp2_with (first
      | (go_at_call 110; refine (Tryz.strings_makeASCIISet zeroSet (str cs) _ (by rw [str_size]; omega) (low_at cs hc)).mono ?_; rintro e w1 ⟨rfl, hw1⟩; rw [str_data] at hw1 ⊢; rw [hw1]; clear hw1)
      | (refine wpList_store_set _ _ rfl rfl _ _ cs (by simp) rfl rfl (alloc_two _ _ _) ?_)
      | (go_at_call 111; refine (trimLeftASCII_any l cs _ _ (setRow_new (alloc_two _ _ _))).mono ?_; rintro e w2 ⟨rfl, rfl⟩))
    go_ret
    exact ⟨rfl, below_setRow (((Below.refl _ w).alloc (Nat.le_refl _) _).alloc (by simp) _) (by simp) _⟩
end Go.Proofs.YtnmkhbelmdokmaaGreatDoor
/- What the walks of package url are told of the library's variables; the contract of url.Clean. -/
namespace Go.Proofs.YtnmkhbelmdokmaaGreatDoor
open Go.RowKit
def Tabs (w : World) : Prop := Lib.Utf8Tabs 2 3 w
theorem Tabs.below {w w' : World} (h : Tabs w) (hb : Below w.heap.size w w') : Tabs w' := Utf8Tabs_below h hb
/-- The library's tables lie as laid; its MaxLen is a whole number. -/
def Env (w : World) : Prop := Pow w ∧ MaxL w ∧ Tabs w
theorem Env.below {w w' : World} (h : Env w) (hb : Below w.heap.size w w') : Env w' := ⟨h.1.below hb, h.2.1.below hb, h.2.2.below hb⟩
theorem Env.pow {w : World} (h : Env w) : Pow w := h.1
theorem Env.max {w : World} (h : Env w) : MaxL w := h.2.1
theorem Env.tab {w : World} (h : Env w) : Tabs w := h.2.2
theorem lowR_n (n : Int) (w : World) :
    Calls Tryz.prog 54 #[.int .i32 n] w fun e w' => e = .returned (.bool (decide (n ≤ 32))) ∧ w' = w := by
  go_enter Tryz.func54, Tryz.ntmps54
  go_wp2
  go_ret
  exact ⟨rfl, rfl⟩
theorem lowR_at (w : World) : PredAt Tryz.prog 54 #[] encR Url.lowR w := by
  intro W x _
  refine (lowR_n (x : Int) W).mono ?_
  rintro e w' ⟨rfl, rfl⟩
  refine ⟨ret_bool ?_, 0, rfl⟩
  unfold Url.lowR
  rw [decide_eq_decide]
  omega
theorem TrimFunc_any (l : List UInt8) (w : World) (hE : Env w) (hz : l.length ≤ 1000000000) :
    Calls Tryz.prog 53 #[.string (str l), .func (.func 54) #[] #[]] w fun e w' => e = .returned (.string (str (Url.ends l))) ∧ Below w.heap.size w w' := by
  refine (Tryz.strings_TrimFunc 54 #[] (enters_of Tryz.func54 (by kernel_rfl) rfl) Url.lowR (str l) w (by rw [str_size]; omega) hE.tab (lowR_at w)).mono ?_
  rintro e w' ⟨rfl, hb⟩
  refine ⟨ret_text ?_, hb⟩
  rw [Url.trimF_ends, str_data]
theorem filter_next (l : List UInt8) (k : Nat) (h : k < l.length) : (l.take (k + 1)).filter Url.inner = (l.take k).filter Url.inner ++ (if Url.inner l[k] = true then [l[k]] else []) := by
  rw [Asc.take_snoc l k h, List.filter_append]
  cases hi : Url.inner l[k] <;> simp [hi]
theorem inner_no {c : UInt8} (h : (c.toNat : Int) = 9 ∨ (c.toNat : Int) = 10 ∨ (c.toNat : Int) = 13) : Url.inner c = false := by
  have h9 : ∀ m : UInt8, (c.toNat : Int) = m.toNat → c = m := fun m e => UInt8.toNat_inj.1 (by omega)
  rcases h with h | h | h
  · rw [h9 9 h]; rfl
  · rw [h9 10 h]; rfl
  · rw [h9 13 h]; rfl
theorem inner_yes {c : UInt8} (h9 : ¬ (c.toNat : Int) = 9) (h10 : ¬ (c.toNat : Int) = 10) (h13 : ¬ (c.toNat : Int) = 13) : Url.inner c = true := by
  unfold Url.inner
  have a9 : (c == 9) = false := beq_eq_false_iff_ne.2 (by rintro rfl; exact h9 rfl)
  have a10 : (c == 10) = false := beq_eq_false_iff_ne.2 (by rintro rfl; exact h10 rfl)
  have a13 : (c == 13) = false := beq_eq_false_iff_ne.2 (by rintro rfl; exact h13 rfl)
  rw [a9, a10, a13]
  rfl
set_option maxHeartbeats 2000000 in
set_option maxRecDepth 100000 in
theorem Clean_any (l : List UInt8) (w : World) (hE : Env w) (hz : l.length ≤ 1000000000) :
    Calls Tryz.prog 31 #[.string (str l)] w fun e w' => e = .returned (.string (str (Url.clean l))) ∧ Below w.heap.size w w' := by
  have hel := Url.ends_len l
  have hsz := str_size (Url.ends l)
  go_enter Tryz.func31, Tryz.ntmps31
  go_wp2_with (go_at_call 53; refine (TrimFunc_any l _ hE hz).mono ?_; rintro e W ⟨rfl, hb0⟩)
  have hn0 := hb0.size
  go_loopw [9] (fun i wr => ∃ k : Nat, k ≤ (Url.ends l).length ∧ i = .int .i64 k ∧ Lib.IsBuilderF 64 5 W.heap.size W.heap.size (Lib.byteCells (((Url.ends l).take k).filter Url.inner)) wr ∧ Below W.heap.size W wr) (fun i _ => (Url.ends l).length - (intOf i).toNat)
  case atStart => exact ⟨0, Nat.zero_le _, rfl, Lib.IsBuilderF.of (Lib.fresh_isBuilder 64 5 W), (Below.refl _ W).alloc (Nat.le_refl _) _⟩
  case round =>
    obtain ⟨k, hk, rfl, hI, hbw⟩ := hrel
    by_cases hlt : k < (Url.ends l).length
    · have hat : ∀ h : k < (str (Url.ends l)).size, (str (Url.ends l))[k]'h = (Url.ends l)[k] := fun _ => rfl
      have hfn := filter_next _ k hlt
      have hfl : (((Url.ends l).take k).filter Url.inner).length ≤ k := Nat.le_trans (List.length_filter_le _ _) (by rw [List.length_take]; omega)
      have hwz := hbw.size
      obtain ⟨c, hc⟩ : ∃ c, (Url.ends l)[k] = c := ⟨_, rfl⟩
      rw [hc] at hfn
      have hat2 : ∀ h : k < (str (Url.ends l)).size, (str (Url.ends l))[k]'h = c := fun h => (hat h).trans hc
      clear hat hc
      have HF : Hid _ := hfn
      clear hfn
      rcases (show (c.toNat : Int) = 9 ∨ (c.toNat : Int) = 10 ∨ (c.toNat : Int) = 13 ∨ (¬ (c.toNat : Int) = 9 ∧ ¬ (c.toNat : Int) = 10 ∧ ¬ (c.toNat : Int) = 13) from by omega) with h | h | h | ⟨h9, h10, h13⟩
      case inr.inr.inr =>
        have HI : Hid (Url.inner c = true) := inner_yes h9 h10 h13
        have a9 : ((c.toNat : Int) == 9) = false := beq_eq_false_iff_ne.2 h9
        have a10 : ((c.toNat : Int) == 10) = false := beq_eq_false_iff_ne.2 h10
        have a13 : ((c.toNat : Int) == 13) = false := beq_eq_false_iff_ne.2 h13
        go_wp2_with (go_at_call 55; refine (WriteByte_k W.heap.size W.heap.size _ _ _ hI (by rw [Lib.byteCells_length]; omega) hwz).mono ?_; rintro e W1 ⟨rfl, h1, b1, k1⟩)
        go_roundw
        case rel => exact ⟨k + 1, by omega, by go_num, by rw [HF.out, if_pos HI.out, Lib.byteCells_append]; exact .inr h1, hbw.trans b1⟩
        case measure => simp [intOf]; omega
      all_goals
        have HI : Hid (Url.inner c = false) := inner_no (by omega)
        go_wp2
        go_roundw
        case rel => exact ⟨k + 1, by omega, by go_num, by rw [HF.out, if_neg (by rw [HI.out]; decide), List.append_nil]; exact hI, hbw⟩
        case measure => simp [intOf]; omega
    · have HN : Hid (((Url.ends l).take k).filter Url.inner = Url.clean l) := by
        show _ = _
        rw [List.take_of_length_le (by omega)]
        rfl
      have hwz := hbw.size
      go_wp2_with (go_at_call 56; refine (Tryz.Builder_String_any_k W.heap.size W.heap.size _ _ hI hwz).mono ?_; rintro e W1 ⟨rfl, _, b1, _⟩)
      go_ret
      exact ⟨by rw [← HN.out]; rfl, hb0.trans ((hbw.trans b1).mono hn0)⟩
end Go.Proofs.YtnmkhbelmdokmaaGreatDoor
/- The contracts of what a parser of package url can do with what is left of a text: upTo, took, skip. -/
namespace Go.Proofs.YtnmkhbelmdokmaaGreatDoor
open Go.RowKit
/-- A URL as a value, and a parser's cells. -/
def uCells (u : Url.U) : Array Value := #[.string (str u.sch), .string (str u.host), .int .i64 u.port, .string (str u.path), .string (str u.query), .string (str u.frag), .bool u.hq, .bool u.hf]
def uVal (u : Url.U) : Value := .agg (uCells u)
def pCells (t : List UInt8) (u : Url.U) : Array Value := #[.string (str t), .string (str u.sch), .string (str u.host), .int .i64 u.port, .string (str u.path), .string (str u.query), .string (str u.frag), .bool u.hq, .bool u.hf]
def IsP (w : World) (b : Nat) (t : List UInt8) (u : Url.U) : Prop := w.heap[b]? = some (.cells (pCells t u) 47 (0, 0))
theorem IsP.below {w w' : World} {b : Nat} {t : List UInt8} {u : Url.U} (h : IsP w b t u) (hb : Below w.heap.size w w') : IsP w' b t u :=
  (hb.block b (Array.getElem?_eq_some_iff.1 h).1).trans h
theorem IsP.lt {w : World} {b : Nat} {t : List UInt8} {u : Url.U} (h : IsP w b t u) : b < w.heap.size := (Array.getElem?_eq_some_iff.1 h).1
theorem IsP.cell {w : World} {b : Nat} {t : List UInt8} {u : Url.U} (h : IsP w b t u) (i : Nat) : w.cell? ⟨b, i, none⟩ = (pCells t u)[i]? := Lib.cell_of_heap h i
theorem IsP.frozen {w : World} {b : Nat} {t : List UInt8} {u : Url.U} (h : IsP w b t u) (i : Nat) : w.frozen? ⟨b, i, none⟩ = false := Lib.frozen_of_heap h i
theorem IsP.text {w : World} {b : Nat} {t : List UInt8} {u : Url.U} (h : IsP w b t u) (r : List UInt8) : IsP (w.setCell ⟨b, 0, none⟩ (.string (str r))) b r u := Go.Joins.block_setCell h _
/-- The world behind: the blocks ahead of the parser are as they were. -/
theorem belowP {w w' : World} {b : Nat} (hb : Below w.heap.size w w') (h : b < w.heap.size) : Below b w w' := hb.mono (by omega)
theorem contains_low {e : List UInt8} (h : e.all (fun c => decide (c.toNat < 128)) = true) : ∀ c ∈ e, c.toNat < 128 := fun c hc => of_decide_eq_true (List.all_eq_true.1 h c hc)
set_option maxHeartbeats 2000000 in
set_option maxRecDepth 100000 in
theorem upTo_any (e t : List UInt8) (u : Url.U) (b : Nat) (w : World) (hp : IsP w b t u) (h1 : 1 ≤ e.length) (hl : e.length ≤ 1000) (hc : e.all (fun c => decide (c.toNat < 128)) = true) (hz : t.length ≤ 1000000000) :
    Calls Tryz.prog 58 #[.pointer (some ⟨b, 0, none⟩), .string (str e)] w fun r w' => r = .returned (.string (str (Url.upto e t))) ∧ IsP w' b (Url.rest e t) u ∧ Below b w w' := by
  have hi := Url.index_cut e t
  have hge := Lib.indexAny_ge e t
  have c0 : w.cell? ⟨b, 0, none⟩ = some (.string (str t)) := hp.cell 0
  have hsz := str_size t
  have hlt := hp.lt
  by_cases hn : Lib.indexAny t e < 0
  · obtain ⟨e1, e2⟩ := hi.1 hn
    have HE : Hid (Url.upto e t = t ∧ Url.rest e t = []) := ⟨e1, e2⟩
    have x1 : (str t).extract 0 t.length = str t := by rw [str_to, List.take_length]
    have x2 : (str t).extract t.length t.length = str [] := by rw [str_from, List.drop_length]
    clear hi e1 e2
    go_enter Tryz.func58, Tryz.ntmps58
    go_wp2_with (go_at_call 85; refine (IndexAny_any t e _ h1 hl (contains_low hc) hz).mono ?_; rintro r w1 ⟨rfl, hb1⟩; have hp1 := hp.below hb1; have c1 : w1.cell? ⟨b, 0, none⟩ = some (.string (str t)) := hp1.cell 0; have f1 := hp1.frozen 0)
    go_ret
    exact ⟨by rw [HE.out.1]; rfl, by rw [HE.out.2]; exact hp1.text [], (belowP hb1 hlt).setCell (Nat.le_refl _) _⟩
  · obtain ⟨e1, e2, e3⟩ := hi.2 (by omega)
    obtain ⟨n, hin⟩ : ∃ n : Nat, Lib.indexAny t e = n := ⟨(Lib.indexAny t e).toNat, by omega⟩
    rw [hin, Int.toNat_natCast] at e1 e2
    rw [hin] at e3
    have HE : Hid (Url.upto e t = t.take n ∧ Url.rest e t = t.drop n) := ⟨e1, e2⟩
    have x1 : (str t).extract 0 n = str (t.take n) := str_to t n
    have x2 : (str t).extract n t.length = str (t.drop n) := str_from t n
    have e4 : (n : Int) ≤ (t.length : Int) := by omega
    clear hi e1 e2 hn hge
    go_enter Tryz.func58, Tryz.ntmps58
    go_wp2_with (go_at_call 85; refine (IndexAny_any t e _ h1 hl (contains_low hc) hz).mono ?_; rw [hin]; rintro r w1 ⟨rfl, hb1⟩; have hp1 := hp.below hb1; have c1 : w1.cell? ⟨b, 0, none⟩ = some (.string (str t)) := hp1.cell 0; have f1 := hp1.frozen 0)
    go_ret
    exact ⟨by rw [HE.out.1]; rfl, by rw [HE.out.2]; exact hp1.text _, (belowP hb1 hlt).setCell (Nat.le_refl _) _⟩
theorem prefix_has (b : UInt8) (t : List UInt8) : Lib.hasPrefix t [b] = Url.hasB b t := by
  unfold Lib.hasPrefix Url.hasB
  cases t with
  | nil => rfl
  | cons x r =>
    simp only [List.isPrefixOf, List.head?_cons, Bool.and_true]
    rw [Bool.eq_iff_iff]
    simp only [beq_iff_eq, Option.some.injEq]
    exact ⟨fun h => h.symm, fun h => h.symm⟩
theorem prefix_cut (b : UInt8) (t : List UInt8) : Lib.trimPrefix t [b] = if Url.hasB b t = true then t.drop 1 else t := by
  unfold Lib.trimPrefix
  rw [prefix_has]
  rfl
set_option maxHeartbeats 2000000 in
set_option maxRecDepth 100000 in
theorem took_any (x : UInt8) (t : List UInt8) (u : Url.U) (b : Nat) (w : World) (hp : IsP w b t u) :
    Calls Tryz.prog 59 #[.pointer (some ⟨b, 0, none⟩), .string ⟨#[x]⟩] w fun r w' => r = .returned (.bool (Url.hasB x t)) ∧ IsP w' b (if Url.hasB x t = true then t.drop 1 else t) u ∧ Below b w w' := by
  have c0 : w.cell? ⟨b, 0, none⟩ = some (.string (str t)) := hp.cell 0
  have f0 := hp.frozen 0
  have call : ∀ W : World, Calls Tryz.prog 86 #[.string (str t), .string ⟨#[x]⟩] W fun r w' => r = .returned (.tuple #[.string (str (if Url.hasB x t = true then t.drop 1 else t)), .bool (Url.hasB x t)]) ∧ w' = W := by
    intro W
    have := Tryz.strings_CutPrefix (str t) ⟨#[x]⟩ W
    rw [str_data, prefix_cut, prefix_has] at this
    exact this
  obtain ⟨r0, hr0⟩ : ∃ r0, (if Url.hasB x t = true then t.drop 1 else t) = r0 := ⟨_, rfl⟩
  rw [hr0] at call ⊢
  clear hr0
  go_enter Tryz.func59, Tryz.ntmps59
  go_wp2_with (go_at_call 86; refine (call _).mono ?_; rintro r w1 ⟨rfl, hw1⟩; rw [hw1]; clear hw1)
  go_ret
  exact ⟨rfl, hp.text _, (Below.refl b w).setCell (p := ⟨b, 0, none⟩) (Nat.le_refl _) _⟩
set_option maxHeartbeats 2000000 in
set_option maxRecDepth 100000 in
theorem skip_any (t : List UInt8) (u : Url.U) (b : Nat) (w : World) (hp : IsP w b t u) :
    Calls Tryz.prog 61 #[.pointer (some ⟨b, 0, none⟩), .string ⟨#[47, 92]⟩] w fun r w' => r = .returned (.bool (decide ((Url.unsl t).length < t.length))) ∧ IsP w' b (Url.unsl t) u ∧ Below b w w' := by
  have c0 : w.cell? ⟨b, 0, none⟩ = some (.string (str t)) := hp.cell 0
  have f0 := hp.frozen 0
  have hlt := hp.lt
  have hsz := str_size t
  have call : ∀ W : World, Calls Tryz.prog 78 #[.string (str t), .string ⟨#[47, 92]⟩] W fun r w' => r = .returned (.string (str (Url.unsl t))) ∧ Below W.heap.size W w' := by
    intro W
    have := TrimLeft_any t [47, 92] W (by decide) (by decide) (by decide)
    have e : ([47, 92] : List UInt8).contains = Url.slash := by
      funext c
      rw [Bool.eq_iff_iff]
      simp [Url.slash]
    rw [e] at this
    exact this
  have hul : (Url.unsl t).length ≤ t.length := (List.dropWhile_sublist _).length_le
  obtain ⟨r0, hr0⟩ : ∃ r0, Url.unsl t = r0 := ⟨_, rfl⟩
  rw [hr0] at call hul ⊢
  clear hr0
  have hs0 := str_size r0
  go_enter Tryz.func61, Tryz.ntmps61
  go_wp2_with (go_at_call 78; refine (call _).mono ?_; rintro r w1 ⟨rfl, hb1⟩; have hp1 := hp.below hb1; have c1 : w1.cell? ⟨b, 0, none⟩ = some (.string (str t)) := hp1.cell 0; have f1 := hp1.frozen 0)
  go_ret
  exact ⟨ret_bool (by rw [decide_eq_decide]), hp1.text _, (belowP hb1 hlt).setCell (Nat.le_refl _) _⟩
end Go.Proofs.YtnmkhbelmdokmaaGreatDoor
/- The contracts of package url's isSchemeByte, isScheme, readScheme. -/
namespace Go.Proofs.YtnmkhbelmdokmaaGreatDoor
open Go.RowKit
theorem let_byte (c : UInt8) : letN (c.toNat : Int) = Url.isLet c := by
  unfold letN Url.isLet
  rw [decide_eq_decide]
  omega
theorem dig_byte (c : UInt8) : digN (c.toNat : Int) = Url.isDig c := by
  unfold digN Url.isDig
  rw [decide_eq_decide]
  omega
theorem IsLetter_b (c : UInt8) (w : World) : Calls Tryz.prog 88 #[.int .u8 c.toNat] w fun e w' => e = .returned (.bool (Url.isLet c)) ∧ w' = w := by
  have := IsLetter_n (c.toNat : Int) w
  rw [let_byte] at this
  exact this
theorem IsDigit_b (c : UInt8) (w : World) : Calls Tryz.prog 124 #[.int .u8 c.toNat] w fun e w' => e = .returned (.bool (Url.isDig c)) ∧ w' = w := by
  have := IsDigit_n (c.toNat : Int) w
  rw [dig_byte] at this
  exact this
theorem RIsLetter_b (c : UInt8) (w : World) : Calls Tryz.prog 68 #[.int .u8 c.toNat] w fun e w' => e = .returned (.bool (Url.isLet c)) ∧ w' = w := by
  have := RIsLetter_n (c.toNat : Int) w
  rw [let_byte] at this
  exact this
theorem RIsDigit_b (c : UInt8) (w : World) : Calls Tryz.prog 69 #[.int .u8 c.toNat] w fun e w' => e = .returned (.bool (Url.isDig c)) ∧ w' = w := by
  have := RIsDigit_n (c.toNat : Int) w
  rw [dig_byte] at this
  exact this
theorem byte_is (c m : UInt8) (h : (c.toNat : Int) = (m.toNat : Int)) : c = m := UInt8.toNat_inj.1 (by omega)
set_option maxHeartbeats 1000000 in
theorem isSchemeByte_any (c : UInt8) (w : World) :
    Calls Tryz.prog 87 #[.int .u8 c.toNat] w fun e w' => e = .returned (.bool (Url.schB c)) ∧ w' = w := by
  rcases (show (c.toNat : Int) = 43 ∨ (c.toNat : Int) = 45 ∨ (c.toNat : Int) = 46 ∨ (¬ (c.toNat : Int) = 43 ∧ ¬ (c.toNat : Int) = 45 ∧ ¬ (c.toNat : Int) = 46) from by omega) with h | h | h | ⟨h1, h2, h3⟩
  · rw [byte_is c 43 h]
    go_enter Tryz.func87, Tryz.ntmps87
    go_wp2
    go_ret
    exact ⟨rfl, rfl⟩
  · rw [byte_is c 45 h]
    go_enter Tryz.func87, Tryz.ntmps87
    go_wp2
    go_ret
    exact ⟨rfl, rfl⟩
  · rw [byte_is c 46 h]
    go_enter Tryz.func87, Tryz.ntmps87
    go_wp2
    go_ret
    exact ⟨rfl, rfl⟩
  · have e1 : (c == 43) = false := beq_eq_false_iff_ne.2 (by rintro rfl; exact h1 rfl)
    have e2 : (c == 45) = false := beq_eq_false_iff_ne.2 (by rintro rfl; exact h2 rfl)
    have e3 : (c == 46) = false := beq_eq_false_iff_ne.2 (by rintro rfl; exact h3 rfl)
    have HS : Hid (Url.schB c = (Url.isLet c || Url.isDig c)) := by
      show _ = _
      unfold Url.schB
      rw [e1, e2, e3]
      simp
    clear e1 e2 e3
    have a1 : ((c.toNat : Int) == 43) = false := beq_eq_false_iff_ne.2 h1
    have a2 : ((c.toNat : Int) == 45) = false := beq_eq_false_iff_ne.2 h2
    have a3 : ((c.toNat : Int) == 46) = false := beq_eq_false_iff_ne.2 h3
    cases hl : Url.isLet c
    · rw [hl] at HS
      go_enter Tryz.func87, Tryz.ntmps87
      go_wp2_with (first
        | (go_at_call 88; refine (IsLetter_b c _).mono ?_; rintro e w1 ⟨rfl, hw1⟩; rw [hw1, hl]; clear hw1)
        | (go_at_call 124; refine (IsDigit_b c _).mono ?_; rintro e w1 ⟨rfl, hw1⟩; rw [hw1]; clear hw1))
      go_ret
      exact ⟨by rw [HS.out]; rfl, rfl⟩
    · rw [hl] at HS
      go_enter Tryz.func87, Tryz.ntmps87
      go_wp2_with (first
        | (go_at_call 88; refine (IsLetter_b c _).mono ?_; rintro e w1 ⟨rfl, hw1⟩; rw [hw1, hl]; clear hw1))
      go_ret
      exact ⟨by rw [HS.out]; rfl, rfl⟩
theorem all_next (p : UInt8 → Bool) (l : List UInt8) (k : Nat) (h : k < l.length) : (l.take (k + 1)).all p = ((l.take k).all p && p l[k]) := by
  rw [Asc.take_snoc l k h, List.all_append, List.all_cons, List.all_nil, Bool.and_true]
theorem all_not (p : UInt8 → Bool) (l : List UInt8) (k : Nat) (h : k < l.length) (hp : p l[k] = false) : l.all p = false := by
  rw [Bool.eq_false_iff]
  intro ha
  have := List.all_eq_true.1 ha _ (List.getElem_mem h)
  rw [hp] at this
  cases this
set_option maxHeartbeats 1000000 in
theorem isScheme_any (l : List UInt8) (w : World) (hz : l.length ≤ 1000000000) :
    Calls Tryz.prog 60 #[.string (str l)] w fun e w' => e = .returned (.bool (Url.isScheme l)) ∧ w' = w := by
  have hsz := str_size l
  go_enter Tryz.func60, Tryz.ntmps60
  go_wp2
  go_loopw [6] (fun i wr => ∃ k : Nat, k ≤ l.length ∧ i = .int .i64 k ∧ Hid ((l.take k).all Url.schB = true) ∧ wr = w) (fun i _ => l.length - (intOf i).toNat)
  case atStart => exact ⟨0, Nat.zero_le _, rfl, rfl, rfl⟩
  case round =>
    obtain ⟨k, hk, rfl, HA, rfl⟩ := hrel
    by_cases hlt : k < l.length
    · have hat : ∀ h : k < (str l).size, (str l)[k]'h = l[k] := fun _ => rfl
      have hnx := all_next Url.schB l k hlt
      have hno := all_not Url.schB l k hlt
      cases hp : Url.schB l[k]
      · have HN : Hid (Url.isScheme l = false) := by
          show _ = _
          unfold Url.isScheme
          rw [hno hp]
          rfl
        clear hno hnx
        go_wp2_with (go_at_call 87; refine (isSchemeByte_any l[k] _).mono ?_; rintro e w1 ⟨rfl, hw1⟩; rw [hw1, hp]; clear hw1)
        go_ret
        exact ⟨by rw [HN.out]; rfl, rfl⟩
      · have HN : Hid ((l.take (k + 1)).all Url.schB = true) := by
          show _ = _
          rw [hnx, HA.out, hp]
          rfl
        clear hno hnx
        go_wp2_with (go_at_call 87; refine (isSchemeByte_any l[k] _).mono ?_; rintro e w1 ⟨rfl, hw1⟩; rw [hw1, hp]; clear hw1)
        go_roundw
        case rel => exact ⟨k + 1, by omega, by go_num, HN, by trivial⟩
        case measure => simp [intOf]; omega
    · have hA : l.all Url.schB = true := by
        have := HA.out
        rw [List.take_of_length_le (by omega)] at this
        exact this
      by_cases hn : l = []
      · subst hn
        have he : (str []).toList.isEmpty = true := by rw [str_list]; rfl
        go_wp2
        go_ret
        exact ⟨rfl, rfl⟩
      · have he : (str l).toList.isEmpty = false := by
          rw [str_list]
          cases l with
          | nil => exact absurd rfl hn
          | cons => rfl
        have h0 : 0 < l.length := List.length_pos_iff.2 hn
        have hat : ∀ h : 0 < (str l).size, (str l)[0]'h = l[0] := fun _ => rfl
        have HS : Hid (Url.isScheme l = Url.isLet l[0]) := by
          show _ = _
          unfold Url.isScheme
          rw [hA, Bool.true_and]
          cases l with
          | nil => exact absurd rfl hn
          | cons => rfl
        go_wp2_with (go_at_call 88; refine (IsLetter_b l[0] _).mono ?_; rintro e w1 ⟨rfl, hw1⟩; rw [hw1]; clear hw1)
        go_ret
        exact ⟨by rw [HS.out]; rfl, rfl⟩
theorem lower_len' (l : List UInt8) : (Asc.lower l).length = l.length := by simp [Asc.lower]
theorem Lower_str (l : List UInt8) (w : World) (hz : l.length ≤ 1000000000) :
    Calls Tryz.prog 57 #[.string (str l)] w fun e w' => e = .returned (.string (str (Asc.lower l))) ∧ Below w.heap.size w w' := by
  have := Lower_any (str l) w (by rw [str_size]; exact hz)
  rw [str_data] at this
  exact this
theorem IsP.sch {w : World} {b : Nat} {t : List UInt8} {u : Url.U} (h : IsP w b t u) (s : List UInt8) : IsP (w.setCell ⟨b, 1, none⟩ (.string (str s))) b t { u with sch := s } := Go.Joins.block_setCell h _
theorem IsP.host {w : World} {b : Nat} {t : List UInt8} {u : Url.U} (h : IsP w b t u) (s : List UInt8) : IsP (w.setCell ⟨b, 2, none⟩ (.string (str s))) b t { u with host := s } := Go.Joins.block_setCell h _
theorem IsP.port {w : World} {b : Nat} {t : List UInt8} {u : Url.U} (h : IsP w b t u) (n : Int) : IsP (w.setCell ⟨b, 3, none⟩ (.int .i64 n)) b t { u with port := n } := Go.Joins.block_setCell h _
theorem IsP.path {w : World} {b : Nat} {t : List UInt8} {u : Url.U} (h : IsP w b t u) (s : List UInt8) : IsP (w.setCell ⟨b, 4, none⟩ (.string (str s))) b t { u with path := s } := Go.Joins.block_setCell h _
theorem IsP.query {w : World} {b : Nat} {t : List UInt8} {u : Url.U} (h : IsP w b t u) (s : List UInt8) : IsP (w.setCell ⟨b, 5, none⟩ (.string (str s))) b t { u with query := s } := Go.Joins.block_setCell h _
theorem IsP.frag {w : World} {b : Nat} {t : List UInt8} {u : Url.U} (h : IsP w b t u) (s : List UInt8) : IsP (w.setCell ⟨b, 6, none⟩ (.string (str s))) b t { u with frag := s } := Go.Joins.block_setCell h _
theorem IsP.hq {w : World} {b : Nat} {t : List UInt8} {u : Url.U} (h : IsP w b t u) (x : Bool) : IsP (w.setCell ⟨b, 7, none⟩ (.bool x)) b t { u with hq := x } := Go.Joins.block_setCell h _
theorem IsP.hf {w : World} {b : Nat} {t : List UInt8} {u : Url.U} (h : IsP w b t u) (x : Bool) : IsP (w.setCell ⟨b, 8, none⟩ (.bool x)) b t { u with hf := x } := Go.Joins.block_setCell h _
theorem eq_list {a x : List UInt8} (h : a = x) : ((str a).toList == x) = true := by rw [str_list, h]; simp
theorem ne_list {a x : List UInt8} (h : ¬ a = x) : ((str a).toList == x) = false := by rw [str_list]; simpa using h
set_option maxHeartbeats 2000000 in
set_option maxRecDepth 100000 in
theorem readScheme_any (t : List UInt8) (u : Url.U) (b : Nat) (w : World) (hp : IsP w b t u) (hz : t.length ≤ 1000000000) :
    Calls Tryz.prog 32 #[.pointer (some ⟨b, 0, none⟩)] w fun e w' => e = .returned (.int .i64 (Url.schE t)) ∧ (Url.schE t = 0 → IsP w' b (Url.schR t) { u with sch := Url.sch t }) ∧ Below b w w' := by
  have hul := Url.upto_len [58] t
  have hrl := Url.rest_len [58] t
  have hbl := hp.lt
  have hll := lower_len' (Url.upto [58] t)
  have upc : ∀ W : World, IsP W b t u → Calls Tryz.prog 58 #[.pointer (some ⟨b, 0, none⟩), .string ⟨#[58]⟩] W _ := fun W h => upTo_any [58] t u b W h (by decide) (by decide) (by decide) hz
  cases hh : Url.hasB 58 (Url.rest [58] t)
  · have HS : Hid (Url.schE t = 3) := by
      show _ = _
      unfold Url.schE
      rw [hh]
      rfl
    go_enter Tryz.func32, Tryz.ntmps32
    go_wp2_with (first
      | (go_at_call 58; refine (upc _ hp).mono ?_; rintro e w1 ⟨rfl, hp1, hb1⟩)
      | (go_at_call 57; refine (Lower_str _ _ (by omega)).mono ?_; rintro e w2 ⟨rfl, hb2⟩; have hp2 := hp1.below hb2; have hb2' := belowP hb2 hp1.lt)
      | (go_at_call 59; refine (took_any 58 _ _ b _ hp2).mono ?_; rintro e w3 ⟨rfl, hp3, hb3⟩; rw [hh]))
    go_ret
    exact ⟨by rw [HS.out]; rfl, fun h => absurd (HS.out.symm.trans h) (by decide), hb1.trans (hb2'.trans hb3)⟩
  · cases hs : Url.isScheme (Url.sch t)
    · have HS : Hid (Url.schE t = 3) := by
        show _ = _
        unfold Url.schE
        rw [hs]
        simp
      have hs' : Url.isScheme (Asc.lower (Url.upto [58] t)) = false := hs
      go_enter Tryz.func32, Tryz.ntmps32
      go_wp2_with (first
        | (go_at_call 58; refine (upc _ hp).mono ?_; rintro e w1 ⟨rfl, hp1, hb1⟩)
        | (go_at_call 57; refine (Lower_str _ _ (by omega)).mono ?_; rintro e w2 ⟨rfl, hb2⟩; have hp2 := hp1.below hb2; have hb2' := belowP hb2 hp1.lt)
        | (go_at_call 59; refine (took_any 58 _ _ b _ hp2).mono ?_; rintro e w3 ⟨rfl, hp3, hb3⟩; rw [hh])
        | (go_at_call 60; refine (isScheme_any _ _ (by omega)).mono ?_; rintro e w4 ⟨rfl, hw4⟩; rw [hw4, hs']; clear hw4))
      go_ret
      exact ⟨by rw [HS.out]; rfl, fun h => absurd (HS.out.symm.trans h) (by decide), hb1.trans (hb2'.trans hb3)⟩
    · have hs' : Url.isScheme (Asc.lower (Url.upto [58] t)) = true := hs
      have HE : Hid (Url.schE t = if Url.sch t = Url.http ∨ Url.sch t = Url.https then 0 else 16) := by
        show _ = _
        unfold Url.schE
        rw [if_pos ⟨hh, hs⟩]
      rcases (show Url.sch t = Url.http ∨ Url.sch t = Url.https ∨ (¬ Url.sch t = Url.http ∧ ¬ Url.sch t = Url.https) from by
        by_cases h1 : Url.sch t = Url.http
        · exact .inl h1
        · by_cases h2 : Url.sch t = Url.https
          · exact .inr (.inl h2)
          · exact .inr (.inr ⟨h1, h2⟩)) with h1 | h1 | ⟨h1, h2⟩
      case inr.inr =>
        have n1 : ((str (Asc.lower (Url.upto [58] t))).toList == [104, 116, 116, 112]) = false := ne_list h1
        have n2 : ((str (Asc.lower (Url.upto [58] t))).toList == [104, 116, 116, 112, 115]) = false := ne_list h2
        have HS : Hid (Url.schE t = 16) := HE.out.trans (if_neg (fun h => h.elim h1 h2))
        clear h1 h2
        go_enter Tryz.func32, Tryz.ntmps32
        go_wp2_with (first
          | (go_at_call 58; refine (upc _ hp).mono ?_; rintro e w1 ⟨rfl, hp1, hb1⟩)
          | (go_at_call 57; refine (Lower_str _ _ (by omega)).mono ?_; rintro e w2 ⟨rfl, hb2⟩; have hp2 := hp1.below hb2; have hb2' := belowP hb2 hp1.lt)
          | (go_at_call 59; refine (took_any 58 _ _ b _ hp2).mono ?_; rintro e w3 ⟨rfl, hp3, hb3⟩; rw [hh])
          | (go_at_call 60; refine (isScheme_any _ _ (by omega)).mono ?_; rintro e w4 ⟨rfl, hw4⟩; rw [hw4, hs']; clear hw4))
        go_ret
        exact ⟨by rw [HS.out]; rfl, fun h => absurd (HS.out.symm.trans h) (by decide), hb1.trans (hb2'.trans hb3)⟩
      case inl =>
        have n1 : ((str (Asc.lower (Url.upto [58] t))).toList == [104, 116, 116, 112]) = true := eq_list h1
        have HS : Hid (Url.schE t = 0) := HE.out.trans (if_pos (.inl h1))
        clear h1
        go_enter Tryz.func32, Tryz.ntmps32
        go_wp2_with (first
          | (go_at_call 58; refine (upc _ hp).mono ?_; rintro e w1 ⟨rfl, hp1, hb1⟩)
          | (go_at_call 57; refine (Lower_str _ _ (by omega)).mono ?_; rintro e w2 ⟨rfl, hb2⟩; have hp2 := hp1.below hb2; have hb2' := belowP hb2 hp1.lt)
          | (go_at_call 59; refine (took_any 58 _ _ b _ hp2).mono ?_; rintro e w3 ⟨rfl, hp3, hb3⟩; rw [hh]; rw [hh, if_pos rfl] at hp3; have c3 := hp3.cell 1; have f3 := hp3.frozen 1)
          | (go_at_call 60; refine (isScheme_any _ _ (by omega)).mono ?_; rintro e w4 ⟨rfl, hw4⟩; rw [hw4, hs']; clear hw4))
        go_ret
        exact ⟨by rw [HS.out]; rfl, fun _ => hp3.sch _, (hb1.trans (hb2'.trans hb3)).setCell (p := ⟨b, 1, none⟩) (Nat.le_refl _) _⟩
      case inr.inl =>
        have n1 : ((str (Asc.lower (Url.upto [58] t))).toList == [104, 116, 116, 112]) = false := ne_list (fun h => absurd (h1.symm.trans h) (by decide))
        have n2 : ((str (Asc.lower (Url.upto [58] t))).toList == [104, 116, 116, 112, 115]) = true := eq_list h1
        have HS : Hid (Url.schE t = 0) := HE.out.trans (if_pos (.inr h1))
        clear h1
        go_enter Tryz.func32, Tryz.ntmps32
        go_wp2_with (first
          | (go_at_call 58; refine (upc _ hp).mono ?_; rintro e w1 ⟨rfl, hp1, hb1⟩)
          | (go_at_call 57; refine (Lower_str _ _ (by omega)).mono ?_; rintro e w2 ⟨rfl, hb2⟩; have hp2 := hp1.below hb2; have hb2' := belowP hb2 hp1.lt)
          | (go_at_call 59; refine (took_any 58 _ _ b _ hp2).mono ?_; rintro e w3 ⟨rfl, hp3, hb3⟩; rw [hh]; rw [hh, if_pos rfl] at hp3; have c3 := hp3.cell 1; have f3 := hp3.frozen 1)
          | (go_at_call 60; refine (isScheme_any _ _ (by omega)).mono ?_; rintro e w4 ⟨rfl, hw4⟩; rw [hw4, hs']; clear hw4))
        go_ret
        exact ⟨by rw [HS.out]; rfl, fun _ => hp3.sch _, (hb1.trans (hb2'.trans hb3)).setCell (p := ⟨b, 1, none⟩) (Nat.le_refl _) _⟩
end Go.Proofs.YtnmkhbelmdokmaaGreatDoor
/- The contracts of package url's isNameByte, isLabel, isDigits, isAddress, isName, Host. -/
namespace Go.Proofs.YtnmkhbelmdokmaaGreatDoor
open Go.RowKit
set_option maxHeartbeats 1000000 in
theorem isNameByte_any (c : UInt8) (w : World) :
    Calls Tryz.prog 156 #[.int .u8 c.toNat] w fun e w' => e = .returned (.bool (Url.nameB c)) ∧ w' = w := by
  by_cases ha : 97 ≤ (c.toNat : Int) ∧ (c.toNat : Int) ≤ 122
  · have HS : Hid (Url.nameB c = true) := by
      show _ = _
      unfold Url.nameB
      rw [decide_eq_true (by omega)]
      rfl
    obtain ⟨h1, h2⟩ := ha
    go_enter Tryz.func156, Tryz.ntmps156
    go_wp2
    go_ret
    exact ⟨by rw [HS.out]; rfl, rfl⟩
  · have HS : Hid (Url.nameB c = (Url.isDig c || c == 45 || c == 95)) := by
      show _ = _
      unfold Url.nameB
      rw [decide_eq_false (by omega)]
      simp
    have e45 : ∀ m : UInt8, ((c.toNat : Int) == (m.toNat : Int)) = (c == m) := by
      intro m
      rw [Bool.eq_iff_iff]
      simp only [beq_iff_eq]
      exact ⟨fun h => byte_is c m h, fun h => by rw [h]⟩
    have e1 : ((c.toNat : Int) == 45) = (c == 45) := e45 45
    have e2 : ((c.toNat : Int) == 95) = (c == 95) := e45 95
    clear e45
    rcases (show (c.toNat : Int) < 97 ∨ (97 ≤ (c.toNat : Int) ∧ ¬ (c.toNat : Int) ≤ 122) from by omega) with h | ⟨h, h'⟩
    all_goals
      clear ha
      cases hd : Url.isDig c
      · cases h45 : c == 45
        · rw [hd, h45] at HS
          rw [h45] at e1
          go_enter Tryz.func156, Tryz.ntmps156
          go_wp2_with (go_at_call 124; refine (IsDigit_b c _).mono ?_; rintro e w1 ⟨rfl, hw1⟩; rw [hw1, hd]; clear hw1)
          go_ret
          exact ⟨by rw [HS.out]; first | rfl | (simp only [Bool.false_or]; rw [← e2]; rfl), rfl⟩
        · rw [hd, h45] at HS
          rw [h45] at e1
          go_enter Tryz.func156, Tryz.ntmps156
          go_wp2_with (go_at_call 124; refine (IsDigit_b c _).mono ?_; rintro e w1 ⟨rfl, hw1⟩; rw [hw1, hd]; clear hw1)
          go_ret
          exact ⟨by rw [HS.out]; rfl, rfl⟩
      · rw [hd] at HS
        go_enter Tryz.func156, Tryz.ntmps156
        go_wp2_with (go_at_call 124; refine (IsDigit_b c _).mono ?_; rintro e w1 ⟨rfl, hw1⟩; rw [hw1, hd]; clear hw1)
        go_ret
        exact ⟨by rw [HS.out]; rfl, rfl⟩
set_option maxHeartbeats 1000000 in
theorem isLabel_any (l : List UInt8) (w : World) (hz : l.length ≤ 1000000000) :
    Calls Tryz.prog 127 #[.string (str l)] w fun e w' => e = .returned (.bool (Url.isLabel l)) ∧ w' = w := by
  have hsz := str_size l
  go_enter Tryz.func127, Tryz.ntmps127
  go_wp2
  go_loopw [6] (fun i wr => ∃ k : Nat, k ≤ l.length ∧ i = .int .i64 k ∧ Hid ((l.take k).all Url.nameB = true) ∧ wr = w) (fun i _ => l.length - (intOf i).toNat)
  case atStart => exact ⟨0, Nat.zero_le _, rfl, rfl, rfl⟩
  case round =>
    obtain ⟨k, hk, rfl, HA, rfl⟩ := hrel
    by_cases hlt : k < l.length
    · have hat : ∀ h : k < (str l).size, (str l)[k]'h = l[k] := fun _ => rfl
      have hnx := all_next Url.nameB l k hlt
      have hno := all_not Url.nameB l k hlt
      cases hp : Url.nameB l[k]
      · have HN : Hid (Url.isLabel l = false) := by
          show _ = _
          unfold Url.isLabel
          rw [hno hp]
          rfl
        clear hno hnx
        go_wp2_with (go_at_call 156; refine (isNameByte_any l[k] _).mono ?_; rintro e w1 ⟨rfl, hw1⟩; rw [hw1, hp]; clear hw1)
        go_ret
        exact ⟨by rw [HN.out]; rfl, rfl⟩
      · have HN : Hid ((l.take (k + 1)).all Url.nameB = true) := by
          show _ = _
          rw [hnx, HA.out, hp]
          rfl
        clear hno hnx
        go_wp2_with (go_at_call 156; refine (isNameByte_any l[k] _).mono ?_; rintro e w1 ⟨rfl, hw1⟩; rw [hw1, hp]; clear hw1)
        go_roundw
        case rel => exact ⟨k + 1, by omega, by go_num, HN, by trivial⟩
        case measure => simp [intOf]; omega
    · have HS : Hid (Url.isLabel l = decide (1 ≤ l.length ∧ l.length ≤ 63)) := by
        show _ = _
        have := HA.out
        rw [List.take_of_length_le (by omega)] at this
        unfold Url.isLabel
        rw [this, Bool.true_and]
      by_cases h1 : (1 : Int) ≤ (l.length : Int)
      · go_wp2
        go_ret
        exact ⟨by rw [HS.out]; exact ret_bool (by rw [decide_eq_decide]; omega), rfl⟩
      · go_wp2
        go_ret
        exact ⟨by rw [HS.out]; exact ret_bool (decide_eq_false (by omega)).symm, rfl⟩
theorem Number_str (l : List UInt8) (most : Int) (w : World) (hs : l.length ≤ 1000000000) (hm1 : most ≤ 9223372036854775807) :
    Calls Tryz.prog 93 #[.string (str l), .int .i64 most] w fun e w' => e = .returned (.tuple #[.int .i64 (Asc.numNum l most), .int .i64 (Asc.numErr l most)]) ∧ w' = w := by
  have := Number_any (str l) most w (by rw [str_size]; exact hs) hm1
  rw [str_data] at this
  exact this
theorem Text_str (n : Int) (w : World) (h0 : -9223372036854775808 ≤ n) (h1 : n ≤ 9223372036854775807) (hT : Pow w) :
    Calls Tryz.prog 43 #[.int .i64 n] w fun e w' => e = .returned (.string (str (Lib.itoa n))) ∧ Below w.heap.size w w' := Text_any n w h0 h1 hT
theorem numErr_form (l : List UInt8) (most : Int) : Asc.numErr l most = 3 ↔ Asc.digForm l = false := by
  unfold Asc.numErr
  cases Asc.digForm l
  · simp
  · simp only [if_true]
    split
    · simp
    · split <;> simp
set_option maxHeartbeats 1000000 in
theorem isDigits_any (l : List UInt8) (w : World) (hz : l.length ≤ 1000000000) :
    Calls Tryz.prog 128 #[.string (str l)] w fun e w' => e = .returned (.bool (Asc.digForm l)) ∧ w' = w := by
  have hf := numErr_form l 0
  have HS : Hid ((Asc.numErr l 0 != 3) = Asc.digForm l) := by
    show _ = _
    cases hd : Asc.digForm l
    · rw [hf.2 hd]; rfl
    · rw [bne_iff_ne]
      intro h
      rw [hf.1 h] at hd
      cases hd
  clear hf
  go_enter Tryz.func128, Tryz.ntmps128
  go_wp2_with (go_at_call 93; refine (Number_str l 0 _ hz (by decide)).mono ?_; rintro e w1 ⟨rfl, hw1⟩; rw [hw1]; clear hw1)
  go_ret
  exact ⟨by rw [← HS.out]; rfl, rfl⟩
theorem allT_next (p : List UInt8 → Bool) (l : List (List UInt8)) (k : Nat) (t : List UInt8) (h : l[k]? = some t) : (l.take (k + 1)).all p = ((l.take k).all p && p t) := by
  rw [List.take_add_one, h]
  simp [List.all_append]
theorem allT_not (p : List UInt8 → Bool) (l : List (List UInt8)) (k : Nat) (t : List UInt8) (h : l[k]? = some t) (hp : p t = false) : l.all p = false := by
  rw [Bool.eq_false_iff]
  intro ha
  have := List.all_eq_true.1 ha _ (List.mem_of_getElem? h)
  rw [hp] at this
  cases this
theorem eq_str {a b : List UInt8} (h : a = b) : ((str a).toList == (str b).toList) = true := str_beq_yes h
set_option maxHeartbeats 2000000 in
set_option maxRecDepth 100000 in
theorem isAddress_any (v : Value) (ps : List (List UInt8)) (w : World) (hE : Env w) (hv : ReadsTexts w v ps) (hn : ps.length ≤ 1000000000) (hl : ∀ p ∈ ps, p.length ≤ 1000000000) :
    Calls Tryz.prog 129 #[v] w fun e w' => e = .returned (.bool (Url.isAddr ps)) ∧ Below w.heap.size w w' := by
  obtain ⟨a, c, rfl⟩ := hv.form
  have HV : Hid _ := hv
  have HL : Hid _ := hl
  clear hv hl
  go_enter Tryz.func129, Tryz.ntmps129
  go_wp2
  go_loopw [9] (fun i wr => ∃ k : Nat, k ≤ ps.length ∧ i = .int .i64 k ∧ Hid ((ps.take k).all Url.isByte = true) ∧ Below w.heap.size w wr) (fun i _ => ps.length - (intOf i).toNat)
  case atStart => exact ⟨0, Nat.zero_le _, rfl, rfl, Below.refl _ _⟩
  case round =>
    obtain ⟨k, hk, rfl, HA, hbw⟩ := hrel
    by_cases hlt : k < ps.length
    · obtain ⟨t, ht⟩ : ∃ t, ps[k]? = some t := ⟨_, List.getElem?_eq_getElem hlt⟩
      obtain ⟨b, o, rfl, hc, hbl, h1⟩ := ReadsTexts.at HV.out ht
      have g1 := (hbw.cell (p := ⟨b, o + k, none⟩) hbl).trans h1
      have htl := HL.out t (List.mem_of_getElem? ht)
      have hnx := allT_next Url.isByte ps k t ht
      have hno := allT_not Url.isByte ps k t ht
      clear h1
      by_cases he : Asc.numErr t 255 = 0
      · have hrb := Asc.read_back t 255 (by decide) he
        have n0 := hrb.1
        have n1 := hrb.2.1
        clear hrb
        by_cases hi : Lib.itoa (Asc.numNum t 255) = t
        · have HN : Hid ((ps.take (k + 1)).all Url.isByte = true) := by
            show _ = _
            rw [hnx, HA.out]
            unfold Url.isByte
            rw [decide_eq_true he, decide_eq_true hi]
            rfl
          have hq := eq_str hi
          clear hnx hno ht hi
          go_wp2_with (first
            | (go_at_call 93; refine (Number_str t 255 _ htl (by decide)).mono ?_; rintro e w1 ⟨rfl, hw1⟩; rw [hw1, he]; clear hw1)
            | (go_at_call 43; refine (Text_str _ _ (by omega) (by omega) (hE.below hbw).pow).mono ?_; rintro e w2 ⟨rfl, hb2⟩))
          go_roundw
          case rel => exact ⟨k + 1, by omega, by go_num, HN, bel hbw hb2⟩
          case measure => simp [intOf]; omega
        · have HN : Hid (Url.isAddr ps = false) := by
            show _ = _
            unfold Url.isAddr
            rw [hno (by unfold Url.isByte; rw [decide_eq_false hi, Bool.and_false])]
            rfl
          have hq := str_beq_no hi
          clear hnx hno ht hi
          go_wp2_with (first
            | (go_at_call 93; refine (Number_str t 255 _ htl (by decide)).mono ?_; rintro e w1 ⟨rfl, hw1⟩; rw [hw1, he]; clear hw1)
            | (go_at_call 43; refine (Text_str _ _ (by omega) (by omega) (hE.below hbw).pow).mono ?_; rintro e w2 ⟨rfl, hb2⟩))
          go_ret
          exact ⟨by rw [HN.out]; rfl, bel hbw hb2⟩
      · have HN : Hid (Url.isAddr ps = false) := by
          show _ = _
          unfold Url.isAddr
          rw [hno (by unfold Url.isByte; rw [decide_eq_false he]; rfl)]
          rfl
        have he2 : (Asc.numErr t 255 != 0) = true := by rw [bne_iff_ne]; exact he
        clear hnx hno ht he
        go_wp2_with (first
          | (go_at_call 93; refine (Number_str t 255 _ htl (by decide)).mono ?_; rintro e w1 ⟨rfl, hw1⟩; rw [hw1]; clear hw1))
        go_ret
        exact ⟨by rw [HN.out]; rfl, hbw⟩
    · have HN : Hid (Url.isAddr ps = decide (ps.length = 4)) := by
        show _ = _
        have := HA.out
        rw [List.take_of_length_le (by omega)] at this
        unfold Url.isAddr
        rw [this, Bool.true_and]
      go_wp2
      go_ret
      exact ⟨by rw [HN.out]; exact ret_bool (by rw [Bool.eq_iff_iff]; simp; omega), hbw⟩
theorem last_get (ps : List (List UInt8)) (h : ps ≠ []) : ps[ps.length - 1]? = some (Url.lastP ps) := by
  unfold Url.lastP
  rw [List.getLast?_eq_getElem?]
  have := List.length_pos_iff.2 h
  rw [List.getElem?_eq_getElem (by omega)]
  rfl
set_option maxHeartbeats 2000000 in
set_option maxRecDepth 100000 in
theorem isName_any (l : List UInt8) (w : World) (hE : Env w) (hz : l.length ≤ 1000000000) :
    Calls Tryz.prog 92 #[.string (str l)] w fun e w' => e = .returned (.bool (Url.isName l)) ∧ Below w.heap.size w w' := by
  have hsz := str_size l
  by_cases hm : l.length ≤ 253
  · have HS : Hid (Url.isName l = ((Asc.split l 46).all Url.isLabel && (!Asc.digForm (Url.lastP (Asc.split l 46)) || Url.isAddr (Asc.split l 46)))) := by
      show _ = _
      unfold Url.isName
      rw [decide_eq_true hm, Bool.true_and]
    have hps := Asc.split_pos 46 l
    have hpl := Asc.split_len 46 l
    have HP : Hid (∀ p ∈ Asc.split l 46, p.length ≤ l.length) := Asc.split_part 46 l
    have hm2 : ¬ (253 : Int) < (l.length : Int) := by omega
    have call : ∀ W : World, Calls Tryz.prog 96 #[.string (str l), .int .u8 46] W fun e w' => ∃ v, e = .returned v ∧ OwnsTexts w' W.heap.size v (Asc.split l 46) ∧ Below W.heap.size W w' := by
      intro W
      have := Split_any (str l) 46 W (by rw [str_size]; exact hz)
      rw [str_data] at this
      exact this
    obtain ⟨ps, hp⟩ : ∃ ps, Asc.split l 46 = ps := ⟨_, rfl⟩
    rw [hp] at HS hps hpl HP call
    have hlast := last_get ps (List.length_pos_iff.1 hps)
    clear hp
    go_enter Tryz.func92, Tryz.ntmps92
    go_wp2_with (go_at_call 96; refine (call _).mono ?_; rintro e w1 ⟨v, rfl, hown, hb1⟩; have hrd := hown.reads; clear hown; obtain ⟨a1, c1, rfl⟩ := hrd.form)
    have HRD : Hid (ReadsTexts w1 (.slice a1 ps.length c1) ps) := hrd
    clear hrd
    go_loopw [13] (fun i wr => ∃ k : Nat, k ≤ ps.length ∧ i = .int .i64 k ∧ Hid ((ps.take k).all Url.isLabel = true) ∧ wr = w1) (fun i _ => ps.length - (intOf i).toNat)
    case atStart => exact ⟨0, Nat.zero_le _, rfl, rfl, rfl⟩
    case round =>
      obtain ⟨k, hk, rfl, HA, rfl⟩ := hrel
      by_cases hlt : k < ps.length
      · obtain ⟨t, ht⟩ : ∃ t, ps[k]? = some t := ⟨_, List.getElem?_eq_getElem hlt⟩
        obtain ⟨b, o, rfl, hc, hbl, g1⟩ := ReadsTexts.at HRD.out ht
        have htl := HP.out t (List.mem_of_getElem? ht)
        have hnx := allT_next Url.isLabel ps k t ht
        have hno := allT_not Url.isLabel ps k t ht
        clear ht hlast
        cases hla : Url.isLabel t
        · have HN : Hid (Url.isName l = false) := by
            show _ = _
            rw [HS.out, hno hla]
            rfl
          clear hnx hno
          go_wp2_with (go_at_call 127; refine (isLabel_any t _ (by omega)).mono ?_; rintro e w2 ⟨rfl, hw2⟩; rw [hw2, hla]; clear hw2)
          go_ret
          exact ⟨by rw [HN.out]; rfl, hb1⟩
        · have HN : Hid ((ps.take (k + 1)).all Url.isLabel = true) := by
            show _ = _
            rw [hnx, HA.out, hla]
            rfl
          clear hnx hno
          go_wp2_with (go_at_call 127; refine (isLabel_any t _ (by omega)).mono ?_; rintro e w2 ⟨rfl, hw2⟩; rw [hw2, hla]; clear hw2)
          go_roundw
          case rel => exact ⟨k + 1, by omega, by go_num, HN, by trivial⟩
          case measure => simp [intOf]; omega
      · have HN : Hid (Url.isName l = (!Asc.digForm (Url.lastP ps) || Url.isAddr ps)) := by
          show _ = _
          have := HA.out
          rw [List.take_of_length_le (by omega)] at this
          rw [HS.out, this, Bool.true_and]
        obtain ⟨n, hn⟩ : ∃ n, ps.length = n + 1 := ⟨ps.length - 1, by omega⟩
        rw [hn, Nat.add_sub_cancel] at hlast
        obtain ⟨b, o, rfl, hc, hbl, g1⟩ := ReadsTexts.at HRD.out hlast
        have htl := HP.out _ (List.mem_of_getElem? hlast)
        have HR2 := HRD.out
        have hr2 : Hid _ := HR2
        clear HR2 hlast
        obtain ⟨q, hq⟩ : ∃ q, Url.lastP ps = q := ⟨_, rfl⟩
        rw [hq] at g1 htl HN
        clear hq
        cases hd : Asc.digForm q
        · rw [hd] at HN
          go_wp2_with (go_at_call 128; refine (isDigits_any q _ (by omega)).mono ?_; rintro e w2 ⟨rfl, hw2⟩; rw [hw2, hd]; clear hw2)
          go_ret
          exact ⟨by rw [HN.out]; rfl, hb1⟩
        · rw [hd] at HN
          go_wp2_with (first
            | (go_at_call 128; refine (isDigits_any q _ (by omega)).mono ?_; rintro e w2 ⟨rfl, hw2⟩; rw [hw2, hd]; clear hw2)
            | (go_at_call 129; rw [← hn]; refine (isAddress_any _ ps _ (hE.below hb1) hr2.out (by omega) (fun p hp => by have := HP.out p hp; omega)).mono ?_; rintro e w3 ⟨rfl, hb3⟩))
          go_ret
          exact ⟨by rw [HN.out]; rfl, bel hb1 hb3⟩
  · have HS : Hid (Url.isName l = false) := by
      show _ = _
      unfold Url.isName
      rw [decide_eq_false hm]
      rfl
    have hm2 : (253 : Int) < (l.length : Int) := by omega
    go_enter Tryz.func92, Tryz.ntmps92
    go_wp2
    go_ret
    exact ⟨by rw [HS.out]; rfl, Below.refl _ _⟩
theorem Unmark_str (l : List UInt8) (w : World) (hs : l.length ≤ 1000000000) :
    Calls Tryz.prog 91 #[.string (str l)] w fun e w' => e = .returned (.string (str (Pct.unmark l))) ∧ Below w.heap.size w w' := by
  have := Unmark_any (str l) w (by rw [str_size]; exact hs)
  rw [str_data] at this
  exact this
theorem empty_is {l : List UInt8} (h : l = []) : (str l).toList.isEmpty = true := by rw [h, str_list]; rfl
theorem empty_isnt {l : List UInt8} (h : ¬ l = []) : (str l).toList.isEmpty = false := by
  rw [str_list]
  cases l with
  | nil => exact absurd rfl h
  | cons => rfl
theorem hostT_len (l : List UInt8) : (Url.hostT l).length ≤ l.length := by
  unfold Url.hostT
  rw [lower_len']
  exact Pct.unmark_len l
set_option maxHeartbeats 2000000 in
set_option maxRecDepth 100000 in
theorem Host_any (l : List UInt8) (w : World) (hE : Env w) (hz : l.length ≤ 1000000000) :
    Calls Tryz.prog 64 #[.string (str l)] w fun e w' => e = .returned (.tuple #[.string (str (Url.host l)), .int .i64 (Url.hostE l)]) ∧ Below w.heap.size w w' := by
  have hul := Pct.unmark_len l
  have hll := hostT_len l
  have lowc : ∀ W : World, Calls Tryz.prog 57 #[.string (str (Pct.unmark l))] W fun e w' => e = .returned (.string (str (Url.hostT l))) ∧ Below W.heap.size W w' := fun W => Lower_str _ W (by omega)
  by_cases h0 : Url.hostT l = []
  · have HS : Hid (Url.hostE l = 4 ∧ Url.host l = []) := by
      have : Url.hostE l = 4 := by unfold Url.hostE; rw [if_pos h0]
      exact ⟨this, by unfold Url.host; rw [this]; rfl⟩
    have he := empty_is h0
    clear h0
    go_enter Tryz.func64, Tryz.ntmps64
    go_wp2_with (first
      | (go_at_call 91; refine (Unmark_str l _ hz).mono ?_; rintro e w1 ⟨rfl, hb1⟩)
      | (go_at_call 57; refine (lowc _).mono ?_; rintro e w2 ⟨rfl, hb2⟩))
    go_ret2
    exact ⟨by rw [HS.out.1, HS.out.2]; rfl, bel hb1 hb2⟩
  · have he := empty_isnt h0
    cases hn : Url.isName (Url.hostT l)
    · have HS : Hid (Url.hostE l = 17 ∧ Url.host l = []) := by
        have : Url.hostE l = 17 := by unfold Url.hostE; rw [if_neg h0, hn]; rfl
        exact ⟨this, by unfold Url.host; rw [this]; rfl⟩
      clear h0
      go_enter Tryz.func64, Tryz.ntmps64
      go_wp2_with (first
        | (go_at_call 91; refine (Unmark_str l _ hz).mono ?_; rintro e w1 ⟨rfl, hb1⟩)
        | (go_at_call 57; refine (lowc _).mono ?_; rintro e w2 ⟨rfl, hb2⟩)
        | (go_at_call 92; refine (isName_any _ _ (hE.below (bel hb1 hb2)) (by omega)).mono ?_; rw [hn]; rintro e w3 ⟨rfl, hb3⟩))
      go_ret2
      exact ⟨by rw [HS.out.1, HS.out.2]; rfl, bel (bel hb1 hb2) hb3⟩
    · have HS : Hid (Url.hostE l = 0 ∧ Url.host l = Url.hostT l) := by
        have : Url.hostE l = 0 := by unfold Url.hostE; rw [if_neg h0, hn]; rfl
        exact ⟨this, by unfold Url.host; rw [this]; rfl⟩
      clear h0
      go_enter Tryz.func64, Tryz.ntmps64
      go_wp2_with (first
        | (go_at_call 91; refine (Unmark_str l _ hz).mono ?_; rintro e w1 ⟨rfl, hb1⟩)
        | (go_at_call 57; refine (lowc _).mono ?_; rintro e w2 ⟨rfl, hb2⟩)
        | (go_at_call 92; refine (isName_any _ _ (hE.below (bel hb1 hb2)) (by omega)).mono ?_; rw [hn]; rintro e w3 ⟨rfl, hb3⟩))
      go_ret2
      exact ⟨by rw [HS.out.1, HS.out.2]; rfl, bel (bel hb1 hb2) hb3⟩
end Go.Proofs.YtnmkhbelmdokmaaGreatDoor
/- The contracts of package url's ownPort, readPort, readPlace. -/
namespace Go.Proofs.YtnmkhbelmdokmaaGreatDoor
open Go.RowKit
theorem ownPort_any (s : List UInt8) (w : World) :
    Calls Tryz.prog 94 #[.string (str s)] w fun e w' => e = .returned (.int .i64 (Url.own s)) ∧ w' = w := by
  by_cases h : s = Url.https
  · have n1 : ((str s).toList == [104, 116, 116, 112, 115]) = true := eq_list h
    have HS : Hid (Url.own s = 443) := if_pos h
    clear h
    go_enter Tryz.func94, Tryz.ntmps94
    go_wp2
    go_ret
    exact ⟨by rw [HS.out]; rfl, rfl⟩
  · have n1 : ((str s).toList == [104, 116, 116, 112, 115]) = false := ne_list h
    have HS : Hid (Url.own s = 80) := if_neg h
    clear h
    go_enter Tryz.func94, Tryz.ntmps94
    go_wp2
    go_ret
    exact ⟨by rw [HS.out]; rfl, rfl⟩
theorem U.same_port (u : Url.U) (h : u.port = 0) : { u with port := 0 } = u := by cases u; simp at h; simp [h]
set_option maxHeartbeats 2000000 in
set_option maxRecDepth 100000 in
theorem readPort_any (d t : List UInt8) (u : Url.U) (b : Nat) (w : World) (hp : IsP w b t u) (h0 : u.port = 0) (hz : d.length ≤ 1000000000) :
    Calls Tryz.prog 65 #[.pointer (some ⟨b, 0, none⟩), .string (str d)] w fun e w' => e = .returned (.int .i64 (Url.portE d)) ∧ (Url.portE d = 0 → IsP w' b t { u with port := Url.port u.sch d }) ∧ Below b w w' := by
  by_cases hd : d = []
  · have HS : Hid (Url.portE d = 0 ∧ Url.port u.sch d = 0) := ⟨if_pos (.inl hd), if_pos hd⟩
    have he := empty_is hd
    clear hd
    go_enter Tryz.func65, Tryz.ntmps65
    go_wp2
    go_ret
    exact ⟨by rw [HS.out.1]; rfl, fun _ => by rw [HS.out.2, U.same_port u h0]; exact hp, Below.refl _ _⟩
  · have he := empty_isnt hd
    by_cases hn : Asc.numErr d 65535 = 0
    · have hrb := Asc.read_back d 65535 (by decide) hn
      have n0 := hrb.1
      have n1 := hrb.2.1
      clear hrb
      have HE : Hid (Url.portE d = 0) := if_pos (.inr hn)
      have c1 : w.cell? ⟨b, 1, none⟩ = some (.string (str u.sch)) := hp.cell 1
      have c3 : w.cell? ⟨b, 3, none⟩ = some (.int .i64 u.port) := hp.cell 3
      have f3 := hp.frozen 3
      by_cases ho : Asc.numNum d 65535 = Url.own u.sch
      · have HP : Hid (Url.port u.sch d = 0) := (if_neg hd).trans (if_pos ho)
        have hq : (Asc.numNum d 65535 != Url.own u.sch) = false := by rw [ho]; simp
        clear hd ho
        go_enter Tryz.func65, Tryz.ntmps65
        go_wp2_with (first
          | (go_at_call 93; refine (Number_str d 65535 _ hz (by decide)).mono ?_; rintro e w1 ⟨rfl, hw1⟩; rw [hw1, hn]; clear hw1)
          | (go_at_call 94; refine (ownPort_any u.sch _).mono ?_; rintro e w2 ⟨rfl, hw2⟩; rw [hw2]; clear hw2))
        go_ret
        exact ⟨by rw [HE.out]; rfl, fun _ => by rw [HP.out, U.same_port u h0]; exact hp, Below.refl _ _⟩
      · have HP : Hid (Url.port u.sch d = Asc.numNum d 65535) := (if_neg hd).trans (if_neg ho)
        have hq : (Asc.numNum d 65535 != Url.own u.sch) = true := by rw [bne_iff_ne]; exact ho
        clear hd ho
        go_enter Tryz.func65, Tryz.ntmps65
        go_wp2_with (first
          | (go_at_call 93; refine (Number_str d 65535 _ hz (by decide)).mono ?_; rintro e w1 ⟨rfl, hw1⟩; rw [hw1, hn]; clear hw1)
          | (go_at_call 94; refine (ownPort_any u.sch _).mono ?_; rintro e w2 ⟨rfl, hw2⟩; rw [hw2]; clear hw2))
        go_ret
        exact ⟨by rw [HE.out]; rfl, fun _ => by rw [HP.out]; exact hp.port _, (Below.refl b w).setCell (p := ⟨b, 3, none⟩) (Nat.le_refl _) _⟩
    · have HE : Hid (Url.portE d = 3) := if_neg (fun h => h.elim hd hn)
      have he2 : (Asc.numErr d 65535 != 0) = true := by rw [bne_iff_ne]; exact hn
      clear hd hn
      go_enter Tryz.func65, Tryz.ntmps65
      go_wp2_with (first
        | (go_at_call 93; refine (Number_str d 65535 _ hz (by decide)).mono ?_; rintro e w1 ⟨rfl, hw1⟩; rw [hw1]; clear hw1))
      go_ret
      exact ⟨by rw [HE.out]; rfl, fun h => absurd (HE.out.symm.trans h) (by decide), Below.refl _ _⟩
theorem cut_upto (b : UInt8) (t : List UInt8) : Lib.cut t [b] = (Url.upto [b] t, (Url.rest [b] t).drop 1, Url.hasB b (Url.rest [b] t)) := by
  have h1 := Url.upto_rest [b] t
  have h2 := Url.upto_not [b] t
  have h3 := Url.rest_head [b] t
  generalize Url.upto [b] t = a at h1 h2 ⊢
  generalize Url.rest [b] t = r at h1 h3 ⊢
  subst h1
  cases r with
  | nil =>
    rw [List.append_nil, Pct.cut_none a b (fun j hj => by
      have := h2 b (List.mem_of_getElem? hj)
      simp at this)]
    rfl
  | cons x r =>
    have hx : x = b := by
      have := h3 x rfl
      simpa using this
    subst hx
    rw [Pct.cut_at (a ++ x :: r) x a.length (by simp) (fun j hj hh => by
      rw [List.getElem?_append_left hj] at hh
      have := h2 x (List.mem_of_getElem? hh)
      simp at this)]
    simp [Url.hasB]
theorem Cut_colon (t : List UInt8) (w : World) (hM : MaxL w) (hz : t.length ≤ 1000000000) :
    Calls Tryz.prog 63 #[.string (str t), .string ⟨#[58]⟩] w fun e w' => e = .returned (.tuple #[.string (str (Url.upto [58] t)), .string (str ((Url.rest [58] t).drop 1)), .bool (Url.hasB 58 (Url.rest [58] t))]) ∧ Below w.heap.size w w' := by
  obtain ⟨m, hm⟩ := hM
  have := Tryz.strings_Cut (str t) ⟨#[58]⟩ m w (by rw [str_size]; omega) hm
  rw [str_data] at this
  have e : Lib.cut t (⟨#[58]⟩ : ByteArray).data.toList = _ := cut_upto 58 t
  rw [e] at this
  refine this.mono ?_
  rintro e w' ⟨rfl, n, rfl⟩
  exact ⟨rfl, below_drewN' (Below.refl _ _) n⟩
theorem Contains_at (t : List UInt8) (w : World) :
    Calls Tryz.prog 62 #[.string (str t), .string ⟨#[64]⟩] w fun e w' => e = .returned (.bool (t.contains 64)) ∧ w' = w := by
  have := Tryz.strings_Contains_one (str t) 64 w
  rw [str_data, ← Lib.contains_iff_indexByte] at this
  exact this
theorem upTo_slash (t : List UInt8) (u : Url.U) (b : Nat) (w : World) (hp : IsP w b t u) (hz : t.length ≤ 1000000000) :
    Calls Tryz.prog 58 #[.pointer (some ⟨b, 0, none⟩), .string ⟨#[47, 92, 63, 35]⟩] w fun r w' => r = .returned (.string (str (Url.upto [47, 92, 63, 35] t))) ∧ IsP w' b (Url.rest [47, 92, 63, 35] t) u ∧ Below b w w' :=
  upTo_any [47, 92, 63, 35] t u b w hp (by decide) (by decide) (by decide) hz
set_option maxHeartbeats 1000000 in
set_option maxRecDepth 100000 in
theorem readPlace_any (t : List UInt8) (u : Url.U) (b : Nat) (w : World) (hp : IsP w b t u) (hE : Env w) (h0 : u.port = 0) (hz : t.length ≤ 1000000000) (hG : Env w → ∀ w', Below b w w' → Env w') :
    Calls Tryz.prog 33 #[.pointer (some ⟨b, 0, none⟩)] w fun e w' => e = .returned (.int .i64 (Url.placeE t)) ∧ (Url.placeE t = 0 → IsP w' b (Url.placeR t) { u with host := Url.host (Url.nameT t), port := Url.port u.sch (Url.portT t) }) ∧ Below b w w' := by
  have hul : (Url.unsl t).length ≤ t.length := (List.dropWhile_sublist _).length_le
  have hpl := Url.upto_len [47, 92, 63, 35] (Url.unsl t)
  have hnl := Url.upto_len [58] (Url.place t)
  have hdl := Url.rest_len [58] (Url.place t)
  have hdl2 : (Url.portT t).length ≤ t.length := by
    unfold Url.portT
    rw [List.length_drop]
    unfold Url.place at hdl ⊢
    omega
  have hnl2 : (Url.nameT t).length ≤ t.length := by
    unfold Url.nameT
    unfold Url.place at hnl ⊢
    omega
  by_cases hs : (Url.unsl t).length = t.length
  · have HE : Hid (Url.placeE t = 3) := if_pos hs
    have hq : decide ((Url.unsl t).length < t.length) = false := decide_eq_false (by omega)
    clear hs
    go_enter Tryz.func33, Tryz.ntmps33
    go_wp2_with (go_at_call 61; refine (skip_any t u b _ hp).mono ?_; rw [hq]; rintro e w1 ⟨rfl, hp1, hb1⟩)
    go_ret
    exact ⟨by rw [HE.out]; rfl, fun h => absurd (HE.out.symm.trans h) (by decide), hb1⟩
  · have hq : decide ((Url.unsl t).length < t.length) = true := decide_eq_true (by omega)
    have upc : ∀ W : World, IsP W b (Url.unsl t) u → Calls Tryz.prog 58 #[.pointer (some ⟨b, 0, none⟩), .string ⟨#[47, 92, 63, 35]⟩] W fun r w' => r = .returned (.string (str (Url.place t))) ∧ IsP w' b (Url.placeR t) u ∧ Below b W w' := fun W h => upTo_slash (Url.unsl t) u b W h (by omega)
    have hpl2 : (Url.place t).length ≤ t.length := by unfold Url.place; omega
    cases hat : (Url.place t).contains 64
    · have cutc : ∀ W : World, MaxL W → Calls Tryz.prog 63 #[.string (str (Url.place t)), .string ⟨#[58]⟩] W fun e w' => e = .returned (.tuple #[.string (str (Url.nameT t)), .string (str (Url.portT t)), .bool (Url.hasB 58 (Url.rest [58] (Url.place t)))]) ∧ Below W.heap.size W w' := fun W h => Cut_colon (Url.place t) W h (by omega)
      by_cases hh : Url.hostE (Url.nameT t) = 0
      · have HE : Hid (Url.placeE t = Url.portE (Url.portT t)) := by
          show _ = _
          unfold Url.placeE
          rw [if_neg hs, hat, if_neg (by decide), if_neg (by rw [hh]; decide)]
        clear hs
        go_enter Tryz.func33, Tryz.ntmps33
        go_wp2_with (first
          | (go_at_call 61; refine (skip_any t u b _ hp).mono ?_; rw [hq]; rintro e w1 ⟨rfl, hp1, hb1⟩)
          | (go_at_call 58; refine (upc _ hp1).mono ?_; rintro e w2 ⟨rfl, hp2, hb2⟩; have hb2' := hb1.trans hb2; have hE2 := hG hE w2 hb2')
          | (go_at_call 62; refine (Contains_at _ _).mono ?_; rintro e w3 ⟨rfl, hw3⟩; rw [hw3, hat]; clear hw3)
          | (go_at_call 63; refine (cutc _ hE2.max).mono ?_; rintro e w4 ⟨rfl, hb4⟩; have hp4 := hp2.below hb4; have hE4 := hE2.below hb4; have hb4' := hb2'.trans (belowP hb4 hp2.lt))
          | (go_at_call 64; refine (Host_any _ _ hE4 (by omega)).mono ?_; rw [hh]; rintro e w5 ⟨rfl, hb5⟩; have hp5 := hp4.below hb5; have hb5' := hb4'.trans (belowP hb5 hp4.lt); have c5 : w5.cell? ⟨b, 2, none⟩ = some (.string (str u.host)) := hp5.cell 2; have f5 := hp5.frozen 2)
          | fail)
        have hp5h := hp5.host (Url.host (Url.nameT t))
        have hbh := hb5'.setCell (p := ⟨b, 2, none⟩) (Nat.le_refl _) (.string (str (Url.host (Url.nameT t))))
        clear c5 f5 hp5 hp4 hp2 hp1 hE4 hE2 hG hb5' hb4' hb2' hb5 hb4 hb2 hb1
        generalize w5.setCell ⟨b, 2, none⟩ (.string (str (Url.host (Url.nameT t)))) = w5h at hp5h hbh ⊢
        go_at_call 65
        refine (readPort_any (Url.portT t) (Url.placeR t) _ b w5h hp5h h0 (by omega)).mono ?_
        rintro e w6 ⟨rfl, hp6, hb6⟩
        go_wp2
        go_ret
        exact ⟨by rw [HE.out]; rfl, fun h => hp6 (HE.out.symm.trans h), hbh.trans hb6⟩
      · have HE : Hid (Url.placeE t = Url.hostE (Url.nameT t)) := by
          show _ = _
          unfold Url.placeE
          rw [if_neg hs, hat, if_neg (by decide), if_pos hh]
        have HN : Hid (¬ Url.hostE (Url.nameT t) = 0) := hh
        have hh2 : (Url.hostE (Url.nameT t) != 0) = true := by rw [bne_iff_ne]; exact hh
        clear hs hh
        go_enter Tryz.func33, Tryz.ntmps33
        go_wp2_with (first
          | (go_at_call 61; refine (skip_any t u b _ hp).mono ?_; rw [hq]; rintro e w1 ⟨rfl, hp1, hb1⟩)
          | (go_at_call 58; refine (upc _ hp1).mono ?_; rintro e w2 ⟨rfl, hp2, hb2⟩; have hb2' := hb1.trans hb2; have hE2 := hG hE w2 hb2')
          | (go_at_call 62; refine (Contains_at _ _).mono ?_; rintro e w3 ⟨rfl, hw3⟩; rw [hw3, hat]; clear hw3)
          | (go_at_call 63; refine (cutc _ hE2.max).mono ?_; rintro e w4 ⟨rfl, hb4⟩; have hp4 := hp2.below hb4; have hE4 := hE2.below hb4; have hb4' := hb2'.trans (belowP hb4 hp2.lt))
          | (go_at_call 64; refine (Host_any _ _ hE4 (by omega)).mono ?_; rintro e w5 ⟨rfl, hb5⟩; have hb5' := hb4'.trans (belowP hb5 hp4.lt)))
        go_ret
        exact ⟨by rw [HE.out]; rfl, fun h => absurd (HE.out.symm.trans h) HN.out, hb5'⟩
    · have HE : Hid (Url.placeE t = 3) := by
        show _ = _
        unfold Url.placeE
        rw [if_neg hs, if_pos hat]
      clear hs
      go_enter Tryz.func33, Tryz.ntmps33
      go_wp2_with (first
        | (go_at_call 61; refine (skip_any t u b _ hp).mono ?_; rw [hq]; rintro e w1 ⟨rfl, hp1, hb1⟩)
        | (go_at_call 58; refine (upc _ hp1).mono ?_; rintro e w2 ⟨rfl, hp2, hb2⟩)
        | (go_at_call 62; refine (Contains_at _ _).mono ?_; rintro e w3 ⟨rfl, hw3⟩; rw [hw3, hat]; clear hw3))
      go_ret
      exact ⟨by rw [HE.out]; rfl, fun h => absurd (HE.out.symm.trans h) (by decide), hb1.trans hb2⟩
end Go.Proofs.YtnmkhbelmdokmaaGreatDoor
/- The contracts of package url's dotsOf and Path. -/
namespace Go.Proofs.YtnmkhbelmdokmaaGreatDoor
open Go.RowKit
theorem countFrom_le (n : Nat) : ∀ t : List UInt8, Lib.countFrom [37, 50, 101] n t ≤ n := by
  induction n with
  | zero => intro t; simp [Lib.countFrom]
  | succ n ih =>
    intro t
    rw [Lib.countFrom]
    split
    · omega
    · have := ih (t.drop ((Lib.index t [37, 50, 101]).toNat + [37, 50, 101].length))
      omega
theorem Replace_dots (l : List UInt8) (w : World) (hM : MaxL w) (hz : l.length ≤ 1000000000) :
    Calls Tryz.prog 95 #[.string (str l), .string ⟨#[37, 50, 101]⟩, .string ⟨#[46]⟩] w fun e w' => e = .returned (.string (str (Url.undot l))) ∧ Below w.heap.size w w' := by
  obtain ⟨m, hm⟩ := hM
  have hcb : Lib.countB (str l) ⟨#[37, 50, 101]⟩ ≤ l.length + 1 := by
    have e : Lib.countB (str l) ⟨#[37, 50, 101]⟩ = Lib.count l [37, 50, 101] := by
      unfold Lib.countB
      rw [str_data]
    rw [e]
    exact countFrom_le _ _
  have := Tryz.strings_ReplaceAll (str l) ⟨#[37, 50, 101]⟩ ⟨#[46]⟩ m w (by rw [str_size]; omega) hm (by decide) (by
    rw [str_size]
    have e : (⟨#[46]⟩ : ByteArray).size = 1 := rfl
    rw [e]
    omega)
  rw [str_data] at this
  have e : Lib.replaceAll l (⟨#[37, 50, 101]⟩ : ByteArray).data.toList (⟨#[46]⟩ : ByteArray).data.toList = Url.undot l := Url.replaceAll_undot l
  rw [e] at this
  exact this
set_option maxHeartbeats 1000000 in
theorem dotsOf_any (l : List UInt8) (w : World) (hM : MaxL w) (hz : l.length ≤ 1000000000) :
    Calls Tryz.prog 97 #[.string (str l)] w fun e w' => e = .returned (.int .i64 (Url.dots l : Nat)) ∧ Below w.heap.size w w' := by
  have hll := lower_len' l
  have hd := Url.dots_undot l
  by_cases h1 : Url.undot (Asc.lower l) = [46]
  · have HD : Hid (Url.dots l = 1) := hd.trans (if_pos h1)
    have n1 : ((str (Url.undot (Asc.lower l))).toList == [46]) = true := eq_list h1
    clear h1 hd
    go_enter Tryz.func97, Tryz.ntmps97
    go_wp2_with (first
      | (go_at_call 57; refine (Lower_str l _ hz).mono ?_; rintro e w1 ⟨rfl, hb1⟩)
      | (go_at_call 95; refine (Replace_dots _ _ (hM.below hb1) (by omega)).mono ?_; rintro e w2 ⟨rfl, hb2⟩))
    go_ret
    exact ⟨by rw [HD.out]; rfl, bel hb1 hb2⟩
  · have n1 : ((str (Url.undot (Asc.lower l))).toList == [46]) = false := ne_list h1
    by_cases h2 : Url.undot (Asc.lower l) = [46, 46]
    · have HD : Hid (Url.dots l = 2) := hd.trans ((if_neg h1).trans (if_pos h2))
      have n2 : ((str (Url.undot (Asc.lower l))).toList == [46, 46]) = true := eq_list h2
      clear h1 h2 hd
      go_enter Tryz.func97, Tryz.ntmps97
      go_wp2_with (first
        | (go_at_call 57; refine (Lower_str l _ hz).mono ?_; rintro e w1 ⟨rfl, hb1⟩)
        | (go_at_call 95; refine (Replace_dots _ _ (hM.below hb1) (by omega)).mono ?_; rintro e w2 ⟨rfl, hb2⟩))
      go_ret
      exact ⟨by rw [HD.out]; rfl, bel hb1 hb2⟩
    · have HD : Hid (Url.dots l = 0) := hd.trans ((if_neg h1).trans (if_neg h2))
      have n2 : ((str (Url.undot (Asc.lower l))).toList == [46, 46]) = false := ne_list h2
      clear h1 h2 hd
      go_enter Tryz.func97, Tryz.ntmps97
      go_wp2_with (first
        | (go_at_call 57; refine (Lower_str l _ hz).mono ?_; rintro e w1 ⟨rfl, hb1⟩)
        | (go_at_call 95; refine (Replace_dots _ _ (hM.below hb1) (by omega)).mono ?_; rintro e w2 ⟨rfl, hb2⟩))
      go_ret
      exact ⟨by rw [HD.out]; rfl, bel hb1 hb2⟩
theorem OwnsTexts.form {w : World} {B : Nat} {v : Value} {ts : List (List UInt8)} (h : OwnsTexts w B v ts) : ∃ a c, v = .slice a ts.length c := by
  rcases h.2 with ⟨rfl, h0⟩ | ⟨g, cap, cur, rfl, _⟩
  · exact ⟨none, 0, by rw [h0]⟩
  · exact ⟨_, _, rfl⟩
theorem OwnsTexts.place {w : World} {B : Nat} {a : Option Addr} {n c : Nat} {ts : List (List UInt8)} (h : OwnsTexts w B (.slice a n c) ts) (hn : ts ≠ []) : ∃ g, a = some ⟨g, 0, none⟩ ∧ ts.length ≤ c := by
  rcases h.2 with ⟨_, h0⟩ | ⟨g, cap, cur, hv, _, _, hc, _⟩
  · exact absurd (List.eq_nil_of_length_eq_zero h0) hn
  · cases hv
    exact ⟨g, rfl, hc⟩
/-- A row without its last text. -/
theorem OwnsTexts.cut {w : World} {B g c n : Nat} {ts : List (List UInt8)} (h : OwnsTexts w B (.slice (some ⟨g, 0, none⟩) (n + 1) c) ts) (hn : ts.length = n + 1) : OwnsTexts w B (.slice (some ⟨g, 0, none⟩) n c) ts.dropLast := by
  have hl : ts.dropLast.length = n := by rw [List.length_dropLast]; omega
  refine ⟨by rw [List.length_map]; omega, .inr ?_⟩
  rcases h.2 with ⟨hv, _⟩ | ⟨g', cap, cur, hv, h1, h2, h3, h4, h5, h6⟩
  · cases hv
  · injection hv with e1 e2 e3
    injection e1 with e1
    injection e1 with e4
    subst e4 e3
    refine ⟨g, c, cur, by rw [hl], h1, h2, by omega, h4, h5, ?_⟩
    rw [hl]
    have e := congrArg (List.take (n * 1)) h6
    rw [List.take_take, Nat.min_eq_left (by omega)] at e
    rw [e, List.dropLast_eq_take, hn, Nat.add_sub_cancel, List.map_take, Nat.mul_one]
theorem Mark_str (l free : List UInt8) (w : World) (hs : l.length ≤ 1000000000) (hf : free.length ≤ 1000000000) :
    Calls Tryz.prog 67 #[.string (str l), .string (str free)] w fun e w' => e = .returned (.string (str (Pct.mark free l))) ∧ Below w.heap.size w w' := by
  have := Mark_any (str l) (str free) w (by rw [str_size]; exact hs) (by rw [str_size]; exact hf)
  rw [str_data, str_data] at this
  exact this
theorem Replace_slash (l : List UInt8) (w : World) (hM : MaxL w) (hz : l.length ≤ 1000000000) :
    Calls Tryz.prog 95 #[.string (str l), .string ⟨#[92]⟩, .string ⟨#[47]⟩] w fun e w' => e = .returned (.string (str (Pct.turned l 92 47))) ∧ Below w.heap.size w w' :=
  ReplaceAll_any 92 47 (by decide) l w hM (by omega)
theorem TrimPrefix_slash (l : List UInt8) (w : World) :
    Calls Tryz.prog 51 #[.string (str l), .string ⟨#[47]⟩] w fun e w' => e = .returned (.string (str (Lib.trimPrefix l [47]))) ∧ w' = w := by
  have := Tryz.strings_TrimPrefix (str l) ⟨#[47]⟩ w
  rw [str_data] at this
  exact this
theorem Split_slash (l : List UInt8) (w : World) (hz : l.length ≤ 1000000000) :
    Calls Tryz.prog 96 #[.string (str l), .int .u8 47] w fun e w' => ∃ v, e = .returned v ∧ OwnsTexts w' w.heap.size v (Asc.split l 47) ∧ Below w.heap.size w w' := by
  have := Split_any (str l) 47 w (by rw [str_size]; exact hz)
  rw [str_data] at this
  exact this
theorem trimP_len (l p : List UInt8) : (Lib.trimPrefix l p).length ≤ l.length := by
  unfold Lib.trimPrefix
  split
  · simp
  · exact Nat.le_refl _
theorem pstep_zero {ks : List (List UInt8)} {t : List UInt8} {b : Bool} (h : Url.dots t = 0) : Url.pstep ks t b = ks ++ [t] := if_pos h
theorem pstep_one {ks : List (List UInt8)} {t : List UInt8} {b : Bool} (h : Url.dots t = 1) : Url.pstep ks t b = ks ++ (if b = true then [[]] else []) := by
  unfold Url.pstep
  rw [h]
  rfl
theorem pstep_two {ks : List (List UInt8)} {t : List UInt8} {b : Bool} (h : Url.dots t = 2) : Url.pstep ks t b = ks.dropLast ++ (if b = true then [[]] else []) := by
  unfold Url.pstep
  rw [h]
  rfl
theorem dots_cases (t : List UInt8) : Url.dots t = 0 ∨ Url.dots t = 1 ∨ Url.dots t = 2 := by
  unfold Url.dots
  split <;> simp
set_option maxHeartbeats 4000000 in
set_option maxRecDepth 100000 in
theorem Path_any (l : List UInt8) (w : World) (hE : Env w) (hz : l.length ≤ 100000000) :
    Calls Tryz.prog 66 #[.string (str l)] w fun e w' => e = .returned (.string (str (Url.path l))) ∧ Below w.heap.size w w' := by
  obtain ⟨i0, hi, hz0, hz1, hz2⟩ := info_parts info9
  have htl := Pct.turned_len l 92 47
  have hpl := trimP_len (Pct.turned l 92 47) [47]
  have hml := Pct.mark_len Url.freeP (Lib.trimPrefix (Pct.turned l 92 47) [47])
  have hcnt := Url.pparts_count l
  have hne := Url.pparts_ne l
  have hks := Url.kept_size l
  have HP : Hid (∀ p ∈ Url.pparts l, p.length ≤ 3 * l.length) := fun p hp => Nat.le_trans (Asc.split_part 47 _ p hp) (by omega)
  have markc : ∀ W : World, Calls Tryz.prog 67 #[.string (str (Lib.trimPrefix (Pct.turned l 92 47) [47])), .string ⟨#[33, 36, 37, 38, 40, 41, 42, 43, 44, 47, 58, 59, 61, 64, 91, 92, 93, 94, 124, 39]⟩] W _ := fun W => Mark_str _ Url.freeP W (by omega) (by decide)
  have splitc : ∀ W : World, Calls Tryz.prog 96 #[.string (str (Pct.mark Url.freeP (Lib.trimPrefix (Pct.turned l 92 47) [47]))), .int .u8 47] W fun e w' => ∃ v, e = .returned v ∧ OwnsTexts w' W.heap.size v (Url.pparts l) ∧ Below W.heap.size W w' := fun W => Split_slash _ W (by omega)
  have HK : Hid (Url.path l = 47 :: Lib.join (Url.st (Url.pparts l) (Url.pparts l).length) [47] ∧ (Lib.join (Url.st (Url.pparts l) (Url.pparts l).length) [47]).length ≤ 6 * l.length + 1) := ⟨rfl, hks⟩
  generalize Url.pparts l = ps at hcnt hne HP splitc HK
  clear hks
  have HST := Url.st_len ps hne
  have HST : Hid _ := HST
  go_enter Tryz.func66, Tryz.ntmps66
  go_wp2_with (first
    | (go_at_call 95; refine (Replace_slash l _ hE.max (by omega)).mono ?_; rintro e w1 ⟨rfl, hb1⟩)
    | (go_at_call 51; refine (TrimPrefix_slash _ _).mono ?_; rintro e w2 ⟨rfl, hw2⟩; rw [hw2]; clear hw2)
    | (go_at_call 67; refine (markc _).mono ?_; rintro e w3 ⟨rfl, hb3⟩; have hb3' := bel hb1 hb3)
    | (go_at_call 96; refine (splitc _).mono ?_; rintro e w4 ⟨v, rfl, hown4, hb4⟩; have hb4' := bel hb3' hb4; have hrd := hown4.reads; clear hown4; obtain ⟨a1, c1, rfl⟩ := hrd.form))
  have HRD : Hid (ReadsTexts w4 (.slice a1 ps.length c1) ps) := hrd
  have hE4 := hE.below hb4'
  have hM4 := hE4.max
  have hn4 := hb4'.size
  clear hrd markc splitc hb4 hb3 hb1 hb3' htl hpl hml
  go_loopw [4, 16] (fun v i wr => ∃ k : Nat, k ≤ ps.length ∧ i = .int .i64 k ∧ OwnsTexts wr w4.heap.size v (Url.st ps k) ∧ Below w4.heap.size w4 wr) (fun _ i _ => ps.length - (intOf i).toNat)
  case atStart => exact ⟨0, Nat.zero_le _, rfl, by rw [Url.st_zero ps hne]; exact OwnsTexts.nil _ _, Below.refl _ _⟩
  case round =>
    obtain ⟨k, hk, rfl, hown, hbel⟩ := hrel
    by_cases hlt : k < ps.length
    · obtain ⟨t, ht⟩ : ∃ t, ps[k]? = some t := ⟨_, List.getElem?_eq_getElem hlt⟩
      obtain ⟨b, o, rfl, hc, hbl, h1⟩ := ReadsTexts.at HRD.out ht
      have g1 := (hbel.cell (p := ⟨b, o + k, none⟩) hbl).trans h1
      have htl := HP.out t (List.mem_of_getElem? ht)
      have hst := Url.st_next ps k hlt
      have hge : ps[k] = t := by
        rw [List.getElem?_eq_getElem hlt] at ht
        exact Option.some.inj ht
      rw [hge] at hst
      have hsl := HST.out k hk
      have hM := hM4.below hbel
      have hsz := hbel.size
      generalize hks : Url.st ps k = ks at hown hst hsl
      clear h1 hge ht hks
      have dcall : ∀ W : World, MaxL W → Calls Tryz.prog 97 #[.string (str t)] W _ := fun W h => dotsOf_any t W h (by omega)
      obtain ⟨va, vc, rfl⟩ := hown.form
      rcases dots_cases t with hd | hd | hd
      · rw [pstep_zero hd] at hst
        rw [hd] at dcall
        have HST2 : Hid _ := hst
        clear hst hd
        go_wp2_with (first
          | (go_at_call 97; refine (dcall _ hM).mono ?_; rintro e w5 ⟨rfl, hb5⟩; have hown5 : OwnsTexts w5 w4.heap.size _ ks := ownsRow_below hown hb5; have hb5' := hbel.trans (hb5.mono hsz); have hsz5 := hb5'.size)
          | (at_builtin; refine wpList_append_own _ rfl _ _ 39 rfl w4.heap.size 9 i0 (.string ByteArray.empty) 1 16 Tryz.underlying39 hi hz0 hz1 hz2 rfl (by decide) _ _ _ rfl (World.ownsRow.alloc hown5 _) ⟨w5.heap.size, 0, none⟩ 1 1 [.string (str t)] rfl rfl (cell_one_new _ _ _) (fun x hx => by simp at hx; subst hx; rfl) (by unfold maxLen; omega) (by omega) (by simp; omega) ?_; intro v' w6 hown' hgrow hnil))
        go_roundw
        case rel => exact ⟨k + 1, by omega, by go_num, OwnsTexts.of HST2.out rfl hown', (hb5'.alloc hsz5 _).grown hgrow (by simp; omega) (fun q hq => (World.ownsRow.lt hown5 q hq).1)⟩
        case measure => simp [intOf]; omega
      · rw [pstep_one hd] at hst
        rw [hd] at dcall
        clear hd
        by_cases hlast : k + 1 = ps.length
        · rw [decide_eq_true hlast, if_pos rfl] at hst
          have HST2 : Hid _ := hst
          have hq : ((k : Int) == (ps.length : Int) - 1) = true := by rw [beq_iff_eq]; omega
          clear hst
          have hlast2 : Hid _ := hlast
          clear hlast
          go_wp2_with (first
            | (go_at_call 97; refine (dcall _ hM).mono ?_; rintro e w5 ⟨rfl, hb5⟩; have hown5 : OwnsTexts w5 w4.heap.size _ ks := ownsRow_below hown hb5; have hb5' := hbel.trans (hb5.mono hsz); have hsz5 := hb5'.size)
            | (at_builtin; refine wpList_append_own _ rfl _ _ 39 rfl w4.heap.size 9 i0 (.string ByteArray.empty) 1 16 Tryz.underlying39 hi hz0 hz1 hz2 rfl (by decide) _ _ _ rfl (World.ownsRow.alloc hown5 _) ⟨w5.heap.size, 0, none⟩ 1 1 [.string (str [])] rfl rfl (cell_one_new _ _ _) (fun x hx => by simp at hx; subst hx; rfl) (by unfold maxLen; omega) (by omega) (by simp; omega) ?_; intro v' w6 hown' hgrow hnil))
          go_roundw
          case rel => exact ⟨k + 1, by omega, by go_num, OwnsTexts.of HST2.out rfl hown', (hb5'.alloc hsz5 _).grown hgrow (by simp; omega) (fun q hq => (World.ownsRow.lt hown5 q hq).1)⟩
          case measure => simp [intOf]; omega
        · rw [decide_eq_false hlast, if_neg (by decide), List.append_nil] at hst
          have HST2 : Hid _ := hst
          have hq : ((k : Int) == (ps.length : Int) - 1) = false := by rw [beq_eq_false_iff_ne]; omega
          clear hst
          go_wp2_with (first
            | (go_at_call 97; refine (dcall _ hM).mono ?_; rintro e w5 ⟨rfl, hb5⟩; have hown5 : OwnsTexts w5 w4.heap.size _ ks := ownsRow_below hown hb5; have hb5' := hbel.trans (hb5.mono hsz); have hsz5 := hb5'.size))
          go_roundw
          case rel => exact ⟨k + 1, by omega, by go_num, by rw [HST2.out]; exact hown5, hb5'⟩
          case measure => simp [intOf]; omega
      · rw [pstep_two hd] at hst
        rw [hd] at dcall
        clear hd
        by_cases hemp : ks = []
        · subst hemp
          rw [List.dropLast_nil, List.nil_append] at hst
          by_cases hlast : k + 1 = ps.length
          · rw [decide_eq_true hlast, if_pos rfl] at hst
            have HST2 : Hid _ := hst
            have hq : ((k : Int) == (ps.length : Int) - 1) = true := by rw [beq_iff_eq]; omega
            clear hst
            have hlast2 : Hid _ := hlast
            clear hlast
            go_wp2_with (first
              | (go_at_call 97; refine (dcall _ hM).mono ?_; rintro e w5 ⟨rfl, hb5⟩; have hown5 : OwnsTexts w5 w4.heap.size _ [] := ownsRow_below hown hb5; have hb5' := hbel.trans (hb5.mono hsz); have hsz5 := hb5'.size)
              | (at_builtin; refine wpList_append_own _ rfl _ _ 39 rfl w4.heap.size 9 i0 (.string ByteArray.empty) 1 16 Tryz.underlying39 hi hz0 hz1 hz2 rfl (by decide) _ _ _ rfl (World.ownsRow.alloc hown5 _) ⟨w5.heap.size, 0, none⟩ 1 1 [.string (str [])] rfl rfl (cell_one_new _ _ _) (fun x hx => by simp at hx; subst hx; rfl) (by unfold maxLen; omega) (by omega) (by simp; omega) ?_; intro v' w6 hown' hgrow hnil))
            go_roundw
            case rel => exact ⟨k + 1, by omega, by go_num, OwnsTexts.of (ts := []) HST2.out rfl hown', (hb5'.alloc hsz5 _).grown hgrow (by simp; omega) (fun q hq => (World.ownsRow.lt hown5 q hq).1)⟩
            case measure => simp [intOf]; omega
          · rw [decide_eq_false hlast, if_neg (by decide)] at hst
            have HST2 : Hid _ := hst
            have hq : ((k : Int) == (ps.length : Int) - 1) = false := by rw [beq_eq_false_iff_ne]; omega
            clear hst
            go_wp2_with (first
              | (go_at_call 97; refine (dcall _ hM).mono ?_; rintro e w5 ⟨rfl, hb5⟩; have hown5 : OwnsTexts w5 w4.heap.size _ [] := ownsRow_below hown hb5; have hb5' := hbel.trans (hb5.mono hsz); have hsz5 := hb5'.size))
            go_roundw
            case rel => exact ⟨k + 1, by omega, by go_num, by rw [HST2.out]; exact hown5, hb5'⟩
            case measure => simp [intOf]; omega
        · obtain ⟨g, rfl, hvc⟩ := hown.place hemp
          obtain ⟨n, hn⟩ : ∃ n, ks.length = n + 1 := ⟨ks.length - 1, by have := List.length_pos_iff.2 hemp; omega⟩
          rw [hn] at hown hvc ⊢
          have hcut := hown.cut hn
          have hnc : (n : Int) ≤ (vc : Int) := by omega
          have hdl : ks.dropLast.length = n := by rw [List.length_dropLast]; omega
          generalize hkd : ks.dropLast = kd at hst hcut hdl
          clear hkd hemp hown
          subst hdl
          by_cases hlast : k + 1 = ps.length
          · rw [decide_eq_true hlast, if_pos rfl] at hst
            have HST2 : Hid _ := hst
            have hq : ((k : Int) == (ps.length : Int) - 1) = true := by rw [beq_iff_eq]; omega
            clear hst
            have hlast2 : Hid _ := hlast
            clear hlast
            go_wp2_with (first
              | (go_at_call 97; refine (dcall _ hM).mono ?_; rintro e w5 ⟨rfl, hb5⟩; have hown5 : OwnsTexts w5 w4.heap.size _ kd := ownsRow_below hcut hb5; have hb5' := hbel.trans (hb5.mono hsz); have hsz5 := hb5'.size)
              | (at_builtin; refine wpList_append_own _ rfl _ _ 39 rfl w4.heap.size 9 i0 (.string ByteArray.empty) 1 16 Tryz.underlying39 hi hz0 hz1 hz2 rfl (by decide) _ _ _ rfl (World.ownsRow.alloc hown5 _) ⟨w5.heap.size, 0, none⟩ 1 1 [.string (str [])] rfl rfl (cell_one_new _ _ _) (fun x hx => by simp at hx; subst hx; rfl) (by unfold maxLen; omega) (by omega) (by simp; omega) ?_; intro v' w6 hown' hgrow hnil))
            go_roundw
            case rel => exact ⟨k + 1, by omega, by go_num, OwnsTexts.of HST2.out rfl hown', (hb5'.alloc hsz5 _).grown hgrow (by simp; omega) (fun q hq => (World.ownsRow.lt hown5 q hq).1)⟩
            case measure => simp [intOf]; omega
          · rw [decide_eq_false hlast, if_neg (by decide), List.append_nil] at hst
            have HST2 : Hid _ := hst
            have hq : ((k : Int) == (ps.length : Int) - 1) = false := by rw [beq_eq_false_iff_ne]; omega
            clear hst
            go_wp2_with (first
              | (go_at_call 97; refine (dcall _ hM).mono ?_; rintro e w5 ⟨rfl, hb5⟩; have hown5 : OwnsTexts w5 w4.heap.size _ kd := ownsRow_below hcut hb5; have hb5' := hbel.trans (hb5.mono hsz); have hsz5 := hb5'.size))
            go_roundw
            case rel => exact ⟨k + 1, by omega, by go_num, by rw [HST2.out]; exact hown5, hb5'⟩
            case measure => simp [intOf]; omega
    · obtain rfl : k = ps.length := by omega
      have hsl := HST.out _ (Nat.le_refl _)
      generalize Url.st ps ps.length = ks at hown HK hsl
      have hrd := hown.reads
      have hkl := HK.out.2
      have joinc : Calls Tryz.prog 98 #[.string ⟨#[47]⟩, _] wr fun e w' => e = .returned (.string (str (Lib.join ks [47]))) ∧ Below wr.heap.size wr w' := Join_any ⟨#[47]⟩ _ ks wr hrd (by omega) (Nat.le_trans hkl (by omega))
      have hadd : (⟨#[47]⟩ : ByteArray) ++ str (Lib.join ks [47]) = str (Url.path l) := by
        rw [HK.out.1]
        exact str_add [47] _
      have hjs := str_size (Lib.join ks [47])
      go_wp2_with (go_at_call 98; refine joinc.mono ?_; rintro e w5 ⟨rfl, hb5⟩)
      go_ret
      exact ⟨rfl, hb4'.trans ((hbel.trans (hb5.mono hbel.size)).mono hn4)⟩
end Go.Proofs.YtnmkhbelmdokmaaGreatDoor
/- The contract of package url's readTail. -/
namespace Go.Proofs.YtnmkhbelmdokmaaGreatDoor
open Go.RowKit
theorem took_yes (x : UInt8) (t : List UInt8) (u : Url.U) (b : Nat) (w : World) (hp : IsP w b t u) (h : Url.hasB x t = true) :
    Calls Tryz.prog 59 #[.pointer (some ⟨b, 0, none⟩), .string ⟨#[x]⟩] w fun r w' => r = .returned (.bool true) ∧ IsP w' b (t.drop 1) u ∧ Below b w w' := by
  have := took_any x t u b w hp
  rw [h, if_pos rfl] at this
  exact this
theorem took_no (x : UInt8) (t : List UInt8) (u : Url.U) (b : Nat) (w : World) (hp : IsP w b t u) (h : Url.hasB x t = false) :
    Calls Tryz.prog 59 #[.pointer (some ⟨b, 0, none⟩), .string ⟨#[x]⟩] w fun r w' => r = .returned (.bool false) ∧ IsP w' b t u ∧ Below b w w' := by
  have := took_any x t u b w hp
  rw [h, if_neg (by decide)] at this
  exact this
set_option maxHeartbeats 1000000 in
set_option maxRecDepth 100000 in
theorem readTail_any (t : List UInt8) (u : Url.U) (b : Nat) (w : World) (hp : IsP w b t u) (hE : Env w) (hq : u.query = []) (hf : u.frag = []) (h1 : u.hq = false) (h2 : u.hf = false) (hz : t.length ≤ 100000000) (hG : Env w → ∀ w', Below b w w' → Env w') :
    Calls Tryz.prog 34 #[.pointer (some ⟨b, 0, none⟩)] w fun e w' => e = .returned (.tuple #[]) ∧ (∃ t', IsP w' b t' (Url.tail u t)) ∧ Below b w w' := by
  have hul := Url.upto_len [63, 35] t
  have hrl := Url.rest_len [63, 35] t
  have up1 : ∀ W : World, IsP W b t u → Calls Tryz.prog 58 #[.pointer (some ⟨b, 0, none⟩), .string ⟨#[63, 35]⟩] W _ := fun W h => upTo_any [63, 35] t u b W h (by decide) (by decide) (by decide) (by omega)
  obtain ⟨us, uh, up, upa, uq, uf, uhq, uhf⟩ := u
  simp only at hq hf h1 h2
  subst hq hf h1 h2
  have HT : Hid (Url.tail ⟨us, uh, up, upa, [], [], false, false⟩ t = { sch := us, host := uh, port := up, path := Url.path (Url.upto [63, 35] t), query := if Url.hasB 63 (Url.rest [63, 35] t) = true then Pct.mark Url.freeQ (Url.upto [35] ((Url.rest [63, 35] t).drop 1)) else [], frag := if Url.hasB 35 (Url.behind t) = true then Pct.mark Url.freeF ((Url.behind t).drop 1) else [], hq := Url.hasB 63 (Url.rest [63, 35] t), hf := Url.hasB 35 (Url.behind t) }) := rfl
  have HB : Hid (Url.behind t = if Url.hasB 63 (Url.rest [63, 35] t) = true then Url.rest [35] ((Url.rest [63, 35] t).drop 1) else Url.rest [63, 35] t) := rfl
  generalize Url.rest [63, 35] t = r at hrl up1 HT HB
  generalize Url.upto [63, 35] t = a at hul up1 HT
  generalize Url.behind t = bh at HT HB
  cases h63 : Url.hasB 63 r
  · rw [h63] at HT HB
    have hbh : bh = r := HB.out
    subst hbh
    clear HB
    have hfl : (bh.drop 1).length ≤ t.length := by rw [List.length_drop]; omega
    obtain ⟨f, hfd⟩ : ∃ f, bh.drop 1 = f := ⟨_, rfl⟩
    rw [hfd] at HT hfl
    have mkf : ∀ W : World, Calls Tryz.prog 67 #[.string (str f), .string ⟨#[33, 36, 37, 38, 40, 41, 42, 43, 44, 47, 58, 59, 61, 64, 91, 92, 93, 94, 124, 39, 35, 63, 123, 125]⟩] W _ := fun W => Mark_str _ Url.freeF W (by omega) (by decide)
    cases h35 : Url.hasB 35 bh
    · rw [h35] at HT
      simp only [Bool.false_eq_true, if_false] at HT
      go_enter Tryz.func34, Tryz.ntmps34
      go_wp2_with (first
        | (go_at_call 58; refine (up1 _ hp).mono ?_; rintro e w1 ⟨rfl, hp1, hb1⟩; have hE1 := hG hE w1 hb1)
        | (go_at_call 66; refine (Path_any a _ hE1 (by omega)).mono ?_; rintro e w2 ⟨rfl, hb2⟩; have hp2 := hp1.below hb2; have c2 : w2.cell? ⟨b, 4, none⟩ = some (.string (str upa)) := hp2.cell 4; have f2 := hp2.frozen 4; have hb3 := (hb1.trans (belowP hb2 hp1.lt)).setCell (p := ⟨b, 4, none⟩) (Nat.le_refl _) (.string (str (Url.path a))); have hp3 := hp2.path (Url.path a)))
      clear c2 f2 hp1 hp2 hb1 hb2 hE1
      generalize w2.setCell ⟨b, 4, none⟩ (.string (str (Url.path a))) = w3 at hp3 hb3 ⊢
      go_at_call 59
      refine (took_no 63 _ _ b w3 hp3 h63).mono ?_
      rintro e w4 ⟨rfl, hp4, hb4⟩
      replace hb4 := hb3.trans hb4
      clear hp3 hb3
      go_wp2_with fail
      go_at_call 59
      refine (took_no 35 _ _ b w4 hp4 h35).mono ?_
      rintro e w5 ⟨rfl, hp5, hb5⟩
      go_wp2
      go_end0
      exact ⟨rfl, ⟨_, by rw [HT.out]; exact hp5⟩, hb4.trans hb5⟩
    · rw [h35] at HT
      simp only [if_true, Bool.false_eq_true, if_false] at HT
      go_enter Tryz.func34, Tryz.ntmps34
      go_wp2_with (first
        | (go_at_call 58; refine (up1 _ hp).mono ?_; rintro e w1 ⟨rfl, hp1, hb1⟩; have hE1 := hG hE w1 hb1)
        | (go_at_call 66; refine (Path_any a _ hE1 (by omega)).mono ?_; rintro e w2 ⟨rfl, hb2⟩; have hp2 := hp1.below hb2; have c2 : w2.cell? ⟨b, 4, none⟩ = some (.string (str upa)) := hp2.cell 4; have f2 := hp2.frozen 4; have hb3 := (hb1.trans (belowP hb2 hp1.lt)).setCell (p := ⟨b, 4, none⟩) (Nat.le_refl _) (.string (str (Url.path a))); have hp3 := hp2.path (Url.path a)))
      clear c2 f2 hp1 hp2 hb1 hb2 hE1
      generalize w2.setCell ⟨b, 4, none⟩ (.string (str (Url.path a))) = w3 at hp3 hb3 ⊢
      go_at_call 59
      refine (took_no 63 _ _ b w3 hp3 h63).mono ?_
      rintro e w4 ⟨rfl, hp4, hb4⟩
      replace hb4 := hb3.trans hb4
      clear hp3 hb3
      go_wp2_with fail
      go_at_call 59
      refine (took_yes 35 _ _ b w4 hp4 h35).mono ?_
      rintro e w5 ⟨rfl, hp5, hb5⟩
      replace hb5 := hb4.trans hb5
      clear hp4 hb4
      rw [hfd] at hp5
      clear hfd
      have c5 : w5.cell? ⟨b, 0, none⟩ = some (.string (str f)) := hp5.cell 0
      have f5 := hp5.frozen 0
      go_wp2_with (first
        | (go_at_call 67; refine (mkf _).mono ?_; rintro e w6 ⟨rfl, hb6⟩; have hp6 := hp5.below hb6; have c6 : w6.cell? ⟨b, 6, none⟩ = some (.string (str [])) := hp6.cell 6; have f6 := hp6.frozen 6; have c68 : w6.cell? ⟨b, 8, none⟩ = some (.bool false) := hp6.cell 8; have f68 := hp6.frozen 8; have c60 : w6.cell? ⟨b, 0, none⟩ = some (.string (str f)) := hp6.cell 0; have f60 := hp6.frozen 0))
      go_end0
      have hpe := ((hp6.frag (Pct.mark Url.freeF f)).hf true).text []
      rw [← HT.out] at hpe
      exact ⟨rfl, ⟨[], hpe⟩, (((hb5.trans (belowP hb6 hp5.lt)).setCell (p := ⟨b, 6, none⟩) (Nat.le_refl _) _).setCell (p := ⟨b, 8, none⟩) (Nat.le_refl _) _).setCell (p := ⟨b, 0, none⟩) (Nat.le_refl _) _⟩
  · rw [h63] at HT HB
    have hbh : bh = Url.rest [35] (r.drop 1) := HB.out
    clear HB
    have hd1 : (r.drop 1).length ≤ t.length := by rw [List.length_drop]; omega
    have hq1 := Url.upto_len [35] (r.drop 1)
    have hq2 := Url.rest_len [35] (r.drop 1)
    have up2 : ∀ (W : World) (v : Url.U), IsP W b (r.drop 1) v → Calls Tryz.prog 58 #[.pointer (some ⟨b, 0, none⟩), .string ⟨#[35]⟩] W _ := fun W v h => upTo_any [35] (r.drop 1) v b W h (by decide) (by decide) (by decide) (by omega)
    rw [← hbh] at hq2
    have hbl : bh.length ≤ t.length := by omega
    rw [← hbh] at up2
    generalize Url.upto [35] (r.drop 1) = q at HT hq1 up2
    clear hbh
    have mkq : ∀ W : World, Calls Tryz.prog 67 #[.string (str q), .string ⟨#[33, 36, 37, 38, 40, 41, 42, 43, 44, 47, 58, 59, 61, 64, 91, 92, 93, 94, 124, 63, 96, 123, 125]⟩] W _ := fun W => Mark_str _ Url.freeQ W (by omega) (by decide)
    have hfl : (bh.drop 1).length ≤ t.length := by rw [List.length_drop]; omega
    obtain ⟨f, hfd⟩ : ∃ f, bh.drop 1 = f := ⟨_, rfl⟩
    rw [hfd] at HT hfl
    have mkf : ∀ W : World, Calls Tryz.prog 67 #[.string (str f), .string ⟨#[33, 36, 37, 38, 40, 41, 42, 43, 44, 47, 58, 59, 61, 64, 91, 92, 93, 94, 124, 39, 35, 63, 123, 125]⟩] W _ := fun W => Mark_str _ Url.freeF W (by omega) (by decide)
    cases h35 : Url.hasB 35 bh
    · rw [h35] at HT
      simp only [if_true, Bool.false_eq_true, if_false] at HT
      go_enter Tryz.func34, Tryz.ntmps34
      go_wp2_with (first
        | (go_at_call 58; refine (up1 _ hp).mono ?_; rintro e w1 ⟨rfl, hp1, hb1⟩; have hE1 := hG hE w1 hb1)
        | (go_at_call 66; refine (Path_any a _ hE1 (by omega)).mono ?_; rintro e w2 ⟨rfl, hb2⟩; have hp2 := hp1.below hb2; have c2 : w2.cell? ⟨b, 4, none⟩ = some (.string (str upa)) := hp2.cell 4; have f2 := hp2.frozen 4; have hb3 := (hb1.trans (belowP hb2 hp1.lt)).setCell (p := ⟨b, 4, none⟩) (Nat.le_refl _) (.string (str (Url.path a))); have hp3 := hp2.path (Url.path a)))
      clear c2 f2 hp1 hp2 hb1 hb2 hE1
      generalize w2.setCell ⟨b, 4, none⟩ (.string (str (Url.path a))) = w3 at hp3 hb3 ⊢
      go_at_call 59
      refine (took_yes 63 _ _ b w3 hp3 h63).mono ?_
      rintro e w4 ⟨rfl, hp4, hb4⟩
      replace hb4 := hb3.trans hb4
      clear hp3 hb3
      go_wp2_with (first
        | (go_at_call 58; refine (up2 _ _ hp4).mono ?_; rintro e w5 ⟨rfl, hp5, hb5⟩; have hb5' := hb4.trans hb5)
        | (go_at_call 67; refine (mkq _).mono ?_; rintro e w6 ⟨rfl, hb6⟩; have hp6 := hp5.below hb6; have c6 : w6.cell? ⟨b, 5, none⟩ = some (.string (str [])) := hp6.cell 5; have f6 := hp6.frozen 5; have c67 : w6.cell? ⟨b, 7, none⟩ = some (.bool false) := hp6.cell 7; have f67 := hp6.frozen 7; have hp7 := (hp6.query (Pct.mark Url.freeQ q)).hq true; have hb7 := ((hb5'.trans (belowP hb6 hp5.lt)).setCell (p := ⟨b, 5, none⟩) (Nat.le_refl _) (.string (str (Pct.mark Url.freeQ q)))).setCell (p := ⟨b, 7, none⟩) (Nat.le_refl _) (.bool true)))
      clear c6 f6 c67 f67 hp6 hp5 hp4 hb6 hb5 hb4 hb5'
      generalize (w6.setCell ⟨b, 5, none⟩ (.string (str (Pct.mark Url.freeQ q)))).setCell ⟨b, 7, none⟩ (.bool true) = w8 at hp7 hb7 ⊢
      go_at_call 59
      refine (took_no 35 _ _ b w8 hp7 h35).mono ?_
      rintro e w5 ⟨rfl, hp5, hb5⟩
      go_wp2
      go_end0
      exact ⟨rfl, ⟨_, by rw [HT.out]; exact hp5⟩, hb7.trans hb5⟩
    · rw [h35] at HT
      simp only [if_true] at HT
      go_enter Tryz.func34, Tryz.ntmps34
      go_wp2_with (first
        | (go_at_call 58; refine (up1 _ hp).mono ?_; rintro e w1 ⟨rfl, hp1, hb1⟩; have hE1 := hG hE w1 hb1)
        | (go_at_call 66; refine (Path_any a _ hE1 (by omega)).mono ?_; rintro e w2 ⟨rfl, hb2⟩; have hp2 := hp1.below hb2; have c2 : w2.cell? ⟨b, 4, none⟩ = some (.string (str upa)) := hp2.cell 4; have f2 := hp2.frozen 4; have hb3 := (hb1.trans (belowP hb2 hp1.lt)).setCell (p := ⟨b, 4, none⟩) (Nat.le_refl _) (.string (str (Url.path a))); have hp3 := hp2.path (Url.path a)))
      clear c2 f2 hp1 hp2 hb1 hb2 hE1
      generalize w2.setCell ⟨b, 4, none⟩ (.string (str (Url.path a))) = w3 at hp3 hb3 ⊢
      go_at_call 59
      refine (took_yes 63 _ _ b w3 hp3 h63).mono ?_
      rintro e w4 ⟨rfl, hp4, hb4⟩
      replace hb4 := hb3.trans hb4
      clear hp3 hb3
      go_wp2_with (first
        | (go_at_call 58; refine (up2 _ _ hp4).mono ?_; rintro e w5 ⟨rfl, hp5, hb5⟩; have hb5' := hb4.trans hb5)
        | (go_at_call 67; refine (mkq _).mono ?_; rintro e w6 ⟨rfl, hb6⟩; have hp6 := hp5.below hb6; have c6 : w6.cell? ⟨b, 5, none⟩ = some (.string (str [])) := hp6.cell 5; have f6 := hp6.frozen 5; have c67 : w6.cell? ⟨b, 7, none⟩ = some (.bool false) := hp6.cell 7; have f67 := hp6.frozen 7; have hp7 := (hp6.query (Pct.mark Url.freeQ q)).hq true; have hb7 := ((hb5'.trans (belowP hb6 hp5.lt)).setCell (p := ⟨b, 5, none⟩) (Nat.le_refl _) (.string (str (Pct.mark Url.freeQ q)))).setCell (p := ⟨b, 7, none⟩) (Nat.le_refl _) (.bool true)))
      clear c6 f6 c67 f67 hp6 hp5 hp4 hb6 hb5 hb4 hb5'
      generalize (w6.setCell ⟨b, 5, none⟩ (.string (str (Pct.mark Url.freeQ q)))).setCell ⟨b, 7, none⟩ (.bool true) = w8 at hp7 hb7 ⊢
      go_at_call 59
      refine (took_yes 35 _ _ b w8 hp7 h35).mono ?_
      rintro e w5 ⟨rfl, hp5, hb5⟩
      replace hb5 := hb7.trans hb5
      clear hp7 hb7
      rw [hfd] at hp5
      clear hfd
      have c5 : w5.cell? ⟨b, 0, none⟩ = some (.string (str f)) := hp5.cell 0
      have f5 := hp5.frozen 0
      go_wp2_with (first
        | (go_at_call 67; refine (mkf _).mono ?_; rintro e w6 ⟨rfl, hb6⟩; have hp6 := hp5.below hb6; have c6 : w6.cell? ⟨b, 6, none⟩ = some (.string (str [])) := hp6.cell 6; have f6 := hp6.frozen 6; have c68 : w6.cell? ⟨b, 8, none⟩ = some (.bool false) := hp6.cell 8; have f68 := hp6.frozen 8; have c60 : w6.cell? ⟨b, 0, none⟩ = some (.string (str f)) := hp6.cell 0; have f60 := hp6.frozen 0))
      go_end0
      have hpe := ((hp6.frag (Pct.mark Url.freeF f)).hf true).text []
      rw [← HT.out] at hpe
      exact ⟨rfl, ⟨[], hpe⟩, (((hb5.trans (belowP hb6 hp5.lt)).setCell (p := ⟨b, 6, none⟩) (Nat.le_refl _) _).setCell (p := ⟨b, 8, none⟩) (Nat.le_refl _) _).setCell (p := ⟨b, 0, none⟩) (Nat.le_refl _) _⟩
end Go.Proofs.YtnmkhbelmdokmaaGreatDoor
