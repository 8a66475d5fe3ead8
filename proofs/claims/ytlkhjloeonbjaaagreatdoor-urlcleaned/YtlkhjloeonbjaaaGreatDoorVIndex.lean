/- strings.IndexAny at any bytes, with bytes below 128 to look for; strings.TrimLeft at slashes. -/
import Derived.Test.YtlkhjloeonbjaaaGreatDoorUText
import Derived.Test.YtlkhjloeonbjaaaGreatDoorShelf
import Derived.Test.YtlkhjloeonbjaaaGreatDoorPMark1
import Derived.Test.YtlkhjloeonbjaaaGreatDoorUrlTrim
import Derived.Laws.Runes
import Derived.Laws.RangeAny
import Derived.Lib.TrimUEq
import Derived.WalkMore
import Derived.Deep.RegionWith
import Derived.BigQuiet
namespace Go.Proofs.YtlkhjloeonbjaaaGreatDoor
open Go.RowKit
theorem dec_low (l : List UInt8) (k : Nat) (h : k < l.length) (ha : l[k].toNat < 128) : Utf.dec (l.drop k) = (l[k].toNat, 1) := by
  unfold Utf.dec
  rw [List.drop_eq_getElem_cons h]
  exact Lib.decodeN_ascii _ _ _ _ _ ha
theorem indexByte_no (l : List UInt8) (c : UInt8) (h : ∀ b ∈ l, b ≠ c) : Lib.indexByte l c = -1 := by
  induction l with
  | nil => rfl
  | cons a t ih =>
    have hn : (a == c) = false := beq_eq_false_iff_ne.2 (h a (List.mem_cons_self ..))
    rw [Lib.indexByte, hn, ih (fun b hb => h b (List.mem_cons_of_mem _ hb))]
    rfl
set_option maxHeartbeats 1000000 in
set_option maxRecDepth 100000 in
/-- A sign from 128 on stands in no text of bytes below. -/
theorem IndexRune_err (cs : List UInt8) (w : World) (hc : ∀ c ∈ cs, c.toNat < 128) :
    Calls Tryz.prog 111 #[.string (str cs), .int .i32 65533] w fun e w' => e = .returned (.int .i64 (-1)) ∧ Below w.heap.size w w' := by
  have hsz := str_size cs
  go_enter Tryz.func111, Tryz.ntmps111
  go_wp2
  go_loopw [] (fun wr => ∃ k : Nat, k ≤ cs.length ∧ wr.heap[w.heap.size]? = some (.stringIter (str cs) k) ∧ Below w.heap.size w wr) (fun wr => cs.length - wr.iterPos w.heap.size)
  case atStart => exact ⟨0, Nat.zero_le _, World.iter_heap w (str cs) 0, (Below.refl _ w).alloc (Nat.le_refl _) _⟩
  case round =>
    obtain ⟨k, hk, hit, hbw⟩ := hrel
    by_cases hlt : k < cs.length
    · have ha := hc _ (List.getElem_mem hlt)
      have hnx := next_any cs wr w.heap.size k hit hlt
      have hit2 := Lib.iterAt_heap wr w.heap.size (str cs) k (k + 1) hit
      have hbw2 := Lib.below_iterAt hbw (k := w.heap.size) (Nat.le_refl _) (str cs) (k + 1)
      rw [dec_low cs k hlt ha] at hnx
      have hq : ((cs[k].toNat : Int) == 65533) = false := by rw [beq_eq_false_iff_ne]; omega
      go_wp2
      go_roundw
      case rel => exact ⟨k + 1, by omega, hit2, hbw2⟩
      case measure => simp only [World.iterPos, hit2, hit]; omega
    · have hnx := next_end cs wr w.heap.size k hit hlt
      go_wp2
      go_ret
      exact ⟨rfl, hbw⟩
set_option maxHeartbeats 2000000 in
set_option maxRecDepth 100000 in
theorem IndexRune_high (cs : List UInt8) (r : Int) (w : World) (hc : ∀ c ∈ cs, c.toNat < 128) (h0 : 128 ≤ r) (h1 : r ≠ 65533) :
    Calls Tryz.prog 111 #[.string (str cs), .int .i32 r] w fun e w' => e = .returned (.int .i64 (-1)) ∧ Below w.heap.size w w' := by
  have hsz := str_size cs
  have hp : (0 : Int) ≤ r := by omega
  have hnl : ¬ r < 128 := by omega
  have hne : (r == 65533) = false := beq_eq_false_iff_ne.2 h1
  cases hv : Lib.validRune r
  · go_enter Tryz.func111, Tryz.ntmps111
    go_wp2_with (go_at_call 134; refine (Tryz.utf8_ValidRune _ _).mono ?_; rintro e w1 ⟨rfl, hw1⟩; rw [hw1, hv]; clear hw1)
    go_ret
    exact ⟨rfl, Below.refl _ _⟩
  · have hv2 : Utf8.valid r = true := by
      have := of_decide_eq_true hv
      unfold Utf8.valid
      simp only [Bool.or_eq_true, Bool.and_eq_true, decide_eq_true_eq]
      omega
    obtain ⟨e1, e2, e3⟩ := encode_facts r hv2 h0
    obtain ⟨rs, hrs⟩ : ∃ rs, Utf8.encode r = rs := ⟨_, rfl⟩
    rw [hrs] at e1 e2 e3
    have hcv : ∀ W : World, (convert 21 9 (.int .i32 r)).run Tryz.prog W = .ok (.string rs) W := fun W => by
      rw [run_convert_int_string W _ _ _ _ (by rw [Tryz.underlying21]; rfl) Tryz.underlying9, hrs]
    obtain ⟨n, hn⟩ : ∃ n, rs.size = n + 1 := ⟨rs.size - 1, by omega⟩
    have hnl2 : n < rs.size := by omega
    obtain ⟨b, hb⟩ : ∃ b : UInt8, rs[n]'hnl2 = b := ⟨_, rfl⟩
    have e4 : 128 ≤ b.toNat := by
      have := e3 (by omega)
      rw [← hb]
      simpa [hn] using this
    clear hrs e3 e1
    go_enter Tryz.func111, Tryz.ntmps111
    go_wp2_with (go_at_call 134; refine (Tryz.utf8_ValidRune _ _).mono ?_; rintro e w1 ⟨rfl, hw1⟩; rw [hw1, hv]; clear hw1)
    apply wp_scope_straight
    go_wp2
    go_loopw [9] (fun i wr => i = .int .i64 (n : Int) ∧ wr = w) (fun _ _ => 0)
    case atStart => exact ⟨rfl, rfl⟩
    case round =>
      obtain ⟨rfl, rfl⟩ := hrel
      by_cases hlt : n < cs.length
      · have hlt2 : n < (str cs).size := by rw [str_size]; exact hlt
        have ha : ((str cs)[n]'hlt2).toNat < 128 := hc _ (List.getElem_mem hlt)
        have hd : ((((str cs)[n]'hlt2).toNat : Int) != (b.toNat : Int)) = true := by
          rw [bne_iff_ne]
          omega
        have hno : Lib.indexByte ((str cs).extract (n + 1) cs.length).data.toList ((b.toNat : Int).toNat.toUInt8) = -1 := by
          apply indexByte_no
          intro x hx
          rw [data_cut, str_data] at hx
          have := hc x (List.mem_of_mem_take (List.mem_of_mem_drop hx))
          rintro rfl
          simp at this
          omega
        have hlti : (n : Int) < (cs.length : Int) := by omega
        have hle : (n : Int) + 1 ≤ (cs.length : Int) := by omega
        have hge : (0 : Int) ≤ (n : Int) + 1 := by omega
        have htn : ((n : Int) + 1).toNat = n + 1 := by omega
        have hsum : IntKind.i64.wrap ((n : Int) + 1) = (n : Int) + 1 := wrap_small _ (by omega) (by omega)
        have hsl : ∀ (W : World), (Instr.slice 9 (.string (str cs)) (some (.int .i64 ((n : Int) + 1))) none none).run Tryz.prog W = .ok (.string ((str cs).extract (n + 1) cs.length)) W := fun W => by
          rw [run_slice_string_from_if (P := Tryz.prog) W 9 (str cs) .i64 ((n : Int) + 1) Tryz.underlying9, if_pos ⟨hge, by rw [hsz]; exact hle⟩, htn, hsz]
        have hix : ∀ (W : World), (Instr.index 9 (.string rs) (.int .i64 (n : Int))).run Tryz.prog W = .ok (.int .u8 b.toNat) W := fun W => by
          rw [run_index_string (P := Tryz.prog) W 9 rs .i64 (n : Int) Tryz.underlying9, dif_pos ⟨by omega, by omega⟩]
          simp only [Int.toNat_natCast, hb]
        clear ha
        go_wp2
        apply wp_scope_straight
        go_wp2
        go_region
        go_wp2
        go_quiet ((go_at_call 133; exact (Tryz.strings_IndexByte _ _ _).mono fun e w2 h => ⟨h.1, _, h.2⟩))
        rw [hno]
        go_wp2
        rw [Exit.noGoto_ret]
        go_wp2
        rw [Exit.noGoto_ret]
        go_wp2
        go_ret
        exact ⟨rfl, below_drewN' (Below.refl _ _) _⟩
      · have hlt2 : ¬ (n : Int) < (cs.length : Int) := by omega
        go_wp2
        go_ret
        exact ⟨rfl, Below.refl _ _⟩
theorem indexAny_high (l : List UInt8) (cs : List UInt8) (k : Nat) (h : k < l.length) (hc : ∀ c ∈ cs, c.toNat < 128) (ha : 128 ≤ l[k].toNat) : cs.contains l[k] = false := by
  rw [Bool.eq_false_iff]
  intro hm
  have := hc _ (List.contains_iff_mem.1 hm)
  omega
/-- The bytes within a sign are from 128 on. -/
theorem dec_inner (l : List UInt8) (k j : Nat) (h : k < l.length) (h1 : 1 ≤ j) (h2 : j < (Utf.dec (l.drop k)).2) : ∃ h : k + j < l.length, 128 ≤ (l[k + j]'h).toNat := by
  have hne : l.drop k ≠ [] := by
    intro e
    have := congrArg List.length e
    simp at this
    omega
  cases hw : (Utf.part (l.drop k)).2
  · rw [Utf.dec_bad _ hne hw] at h2
    simp at h2
    omega
  · rw [Utf.dec_whole _ hne hw] at h2
    have hl := Utf.part_len (l.drop k) hne
    rw [List.length_drop] at hl
    have hc := (Utf.part_cont (l.drop k) j h1 h2).1
    rw [Utf.at_drop] at hc
    have hlt : k + j < l.length := by omega
    refine ⟨hlt, ?_⟩
    unfold Utf.at' at hc
    rw [List.getD_eq_getElem?_getD, List.getElem?_eq_getElem hlt] at hc
    simpa using hc
theorem dec_first (l : List UInt8) (k : Nat) (h : k < l.length) (ha : 128 ≤ l[k].toNat) : 128 ≤ (Utf.dec (l.drop k)).1 := by
  unfold Utf.dec
  rw [List.drop_eq_getElem_cons h]
  exact Url.decodeN_ge _ _ _ _ _ ha
set_option maxHeartbeats 2000000 in
set_option maxRecDepth 100000 in
theorem IndexAny_short (l cs : List UInt8) (w : World) (h2 : 2 ≤ cs.length) (hl : cs.length ≤ 1000) (hc : ∀ c ∈ cs, c.toNat < 128) (h8 : l.length ≤ 8) :
    Calls Tryz.prog 85 #[.string (str l), .string (str cs)] w fun e w' => e = .returned (.int .i64 (Lib.indexAny l cs)) ∧ Below w.heap.size w w' := by
  have hsz := str_size l
  have hsc := str_size cs
  have hemp : (str cs).toList.isEmpty = false := by
    rw [str_list]
    cases cs with
    | nil => simp at h2
    | cons => rfl
  have hn1 : ((cs.length : Int) == 1) = false := beq_eq_false_iff_ne.2 (by omega)
  have h8z : decide ((8 : Int) < (l.length : Int)) = false := decide_eq_false (by omega)
  go_enter Tryz.func85, Tryz.ntmps85
  go_wp2_with (go_at_call 112; refine (Tryz.strings_shouldUseASCIISet _ _).mono ?_; rintro e w1 ⟨rfl, hw1⟩; rw [hw1, h8z]; clear hw1)
  go_loopw [] (fun wr => ∃ k : Nat, k ≤ l.length ∧ wr.heap[w.heap.size]? = some (.stringIter (str l) k) ∧ Hid (Lib.NoAny l cs k) ∧ Below w.heap.size w wr) (fun wr => l.length - wr.iterPos w.heap.size)
  case atStart => exact ⟨0, Nat.zero_le _, World.iter_heap w (str l) 0, Lib.NoAny.zero _ _, (Below.refl _ w).alloc (Nat.le_refl _) _⟩
  case round =>
    obtain ⟨k, hk, hit, HN, hbw⟩ := hrel
    by_cases hlt : k < l.length
    · have hnx := next_any l wr w.heap.size k hit hlt
      have hit2 := Lib.iterAt_heap wr w.heap.size (str l) k (k + (Utf.dec (l.drop k)).2) hit
      have hbw2 := Lib.below_iterAt hbw (k := w.heap.size) (Nat.le_refl _) (str l) (k + (Utf.dec (l.drop k)).2)
      have hsz2 := hbw2.size
      by_cases ha : l[k].toNat < 128
      · rw [dec_low l k hlt ha] at hnx hit2 hbw2
        have hcon := Lib.contains_iff_indexByte cs l[k]
        have hback : ((l[k].toNat : Int)).toNat.toUInt8 = l[k] := by simp
        have HX : Hid (l[k]? = some l[k]) := List.getElem?_eq_getElem hlt
        cases hin : cs.contains l[k]
        · rw [hin] at hcon
          have hneg : ¬ ((0 : Int) ≤ Lib.indexByte cs l[k]) := of_decide_eq_false hcon.symm
          have HI : Hid (cs.contains l[k] = false) := hin
          clear hcon hin
          go_wp2_with (go_at_call 111; refine (Tryz.strings_IndexRune_ascii (str cs) _ _ (by omega) (by omega)).mono ?_; rintro e w1 ⟨rfl, hw1⟩; rw [hw1, hback, str_data]; clear hw1)
          go_roundw
          case rel => exact ⟨k + 1, by omega, hit2, HN.out.succ HX.out HI.out, hbw2⟩
          case measure => simp only [World.iterPos, hit2, hit]; omega
        · rw [hin] at hcon
          have hpos : (0 : Int) ≤ Lib.indexByte cs l[k] := of_decide_eq_true hcon.symm
          have HI : Hid (cs.contains l[k] = true) := hin
          clear hcon hin
          go_wp2_with (go_at_call 111; refine (Tryz.strings_IndexRune_ascii (str cs) _ _ (by omega) (by omega)).mono ?_; rintro e w1 ⟨rfl, hw1⟩; rw [hw1, hback, str_data]; clear hw1)
          go_ret
          exact ⟨ret_int (Lib.indexAny_hit HN.out HX.out HI.out).symm, hbw2⟩
      · have hr := dec_first l k hlt (by omega)
        have hpos := Utf.part_pos (l.drop k)
        have HJ : Hid (Lib.NoAny l cs (k + (Utf.dec (l.drop k)).2)) := by
          intro j b hj hb
          rcases Nat.lt_or_ge j k with h | h
          · exact HN.out j b h hb
          · rcases Nat.eq_or_lt_of_le h with rfl | h'
            · rw [List.getElem?_eq_getElem hlt] at hb
              cases hb
              exact indexAny_high l cs k hlt hc (by omega)
            · obtain ⟨h1, h3⟩ := dec_inner l k (j - k) hlt (by omega) (by omega)
              rw [show k + (j - k) = j by omega] at h1
              have h4 : 128 ≤ (l[j]'h1).toNat := by
                have e : k + (j - k) = j := by omega
                simpa [e] using h3
              rw [List.getElem?_eq_getElem h1] at hb
              cases hb
              exact indexAny_high l cs j h1 hc h4
        have hstep : 1 ≤ (Utf.dec (l.drop k)).2 ∧ k + (Utf.dec (l.drop k)).2 ≤ l.length := by
          have hne : l.drop k ≠ [] := by
            intro e
            have := congrArg List.length e
            simp at this
            omega
          have hl := Utf.part_len (l.drop k) hne
          rw [List.length_drop] at hl
          cases hw : (Utf.part (l.drop k)).2
          · rw [Utf.dec_bad _ hne hw]; simp; omega
          · rw [Utf.dec_whole _ hne hw]; omega
        obtain ⟨r, hrr⟩ : ∃ r, (Utf.dec (l.drop k)).1 = r := ⟨_, rfl⟩
        rw [hrr] at hnx hr
        have call : ∀ W : World, Calls Tryz.prog 111 #[.string (str cs), .int .i32 (r : Int)] W fun e w' => e = .returned (.int .i64 (-1)) ∧ Below W.heap.size W w' := by
          intro W
          by_cases he : r = 65533
          · subst he; exact IndexRune_err cs W hc
          · exact IndexRune_high cs r W hc (by omega) (by omega)
        clear hrr hr ha hpos
        go_wp2_with (go_at_call 111; refine (call _).mono ?_; rintro e w1 ⟨rfl, hb1⟩)
        have hit3 := (hb1.block w.heap.size (Array.getElem?_eq_some_iff.1 hit2).1).trans hit2
        have hbw3 := bel hbw2 hb1
        go_roundw
        case rel => exact ⟨k + (Utf.dec (l.drop k)).2, hstep.2, hit3, HJ, hbw3⟩
        case measure => simp only [World.iterPos, hit3, hit]; omega
    · have hnx := next_end l wr w.heap.size k hit hlt
      have HE : Hid (Lib.indexAny l cs = -1) := Lib.indexAny_none (by rw [show l.length = k by omega]; exact HN.out)
      go_wp2
      go_ret
      exact ⟨ret_int HE.out.symm, hbw⟩
theorem zeroSet : ∀ w : World, (zeroValue 109).run Tryz.prog w = .ok (.agg (Array.replicate 256 (.bool false))) w := (zero_of_info (n := 256) (by kernel_rfl)).1
theorem low_at (cs : List UInt8) (hc : ∀ c ∈ cs, c.toNat < 128) : ∀ (j : Nat) b, (str cs).data.toList[j]? = some b → b.toNat < 128 := by
  intro j b hb
  rw [str_data] at hb
  exact hc b (List.mem_of_getElem? hb)
/-- strings.IndexAny. -/
theorem IndexAny_any (l cs : List UInt8) (w : World) (h1 : 1 ≤ cs.length) (hl : cs.length ≤ 1000) (hc : ∀ c ∈ cs, c.toNat < 128) (hz : l.length ≤ 1000000000) :
    Calls Tryz.prog 85 #[.string (str l), .string (str cs)] w fun e w' => e = .returned (.int .i64 (Lib.indexAny l cs)) ∧ Below w.heap.size w w' := by
  rcases Nat.eq_or_lt_of_le h1 with h | h
  · have := Tryz.strings_IndexAny_one (str l) (str cs) w (by rw [str_size]; omega) (low_at cs hc)
    rw [str_data, str_data] at this
    refine this.mono ?_
    rintro e w' ⟨rfl, rfl⟩
    exact ⟨rfl, Below.refl _ _⟩
  · by_cases h8 : l.length ≤ 8
    · exact IndexAny_short l cs w h hl hc h8
    · have := Tryz.strings_IndexAny_long zeroSet (str l) (str cs) w (by rw [str_size]; omega) (by rw [str_size]; omega) (by rw [str_size]; omega) (by rw [str_size]; omega) (low_at cs hc)
      rw [str_data, str_data] at this
      refine this.mono ?_
      rintro e w' ⟨rfl, rfl⟩
      exact ⟨rfl, ((Below.refl _ w).alloc (Nat.le_refl _) _).alloc (by simp) _⟩
theorem size_set : (Tryz.prog.info? 109).map (·.size) = some 256 := by kernel_rfl
theorem wpList_store_set {ops : Array Oper} {rest : List Oper} {o : Oper} {a : Act} {w : World} {Q : Exit → Act → World → Prop} (x y : Operand) (ho : o.op = .store 109 x y) (hg : o.guard = none) (b : Nat) (c : Array Value) (cs : List UInt8) (hs : c.size = 256) (hx : a.eval x = .pointer (some ⟨b, 0, none⟩)) (hy : a.eval y = .agg (Lib.setCells cs)) (h : w.heap[b]? = some (.cells c 109 (0, 0)))
    (hn : wpList Tryz.prog ops Q rest (a.put o.dst undef) (w.setRow b (Lib.setCells cs))) : wpList Tryz.prog ops Q (o :: rest) a w := by
  refine wpList_plain hg fun K hK => ?_
  unfold Oper.wp
  have e0 : (Instr.storeAt 109 (.pointer (some ⟨b, 0, none⟩)) (.agg (Lib.setCells cs))).run Tryz.prog w = .ok () (w.setRow b (Lib.setCells cs)) := by
    simp only [Instr.storeAt, Instr.sureAddr, Sem.run_bind, Sem.run_pure, Result.andThen]
    exact run_storeVar_row _ _ _ _ _ _ h (by rw [Lib.setCells_size]; exact size_set) (by rw [Lib.setCells_size, hs]) (Lib.setCells_one cs)
  have e : (execOp a.eval o).run Tryz.prog w = .ok .skip (w.setRow b (Lib.setCells cs)) := by
    unfold execOp
    rw [ho]
    simp only [hx, hy, Sem.run_bind, e0, Result.andThen, Sem.run_pure]
  rw [e, Oper.upon_skip]
  exact hK _ _ hn
theorem setRow_new {w : World} {b : Nat} {c d : Array Value} {t : TypeId} (h : w.heap[b]? = some (.cells c t (0, 0))) : (w.setRow b d).heap[b]? = some (.cells d t (0, 0)) := by
  simp [World.setRow, Array.getElem?_modify, h]
theorem set_cell {w : World} {b : Nat} {t : TypeId} (cs : List UInt8) (h : w.heap[b]? = some (.cells (Lib.setCells cs) t (0, 0))) (x : UInt8) : w.cell? ⟨b, x.toNat, none⟩ = some (.bool (cs.contains x)) := by
  have := Lib.setCells_at cs x
  simp [World.cell?, h, this]
theorem drop_next (l : List UInt8) (k : Nat) (h : k < l.length) (cs : List UInt8) (hx : cs.contains l[k] = true) : (l.drop k).dropWhile cs.contains = (l.drop (k + 1)).dropWhile cs.contains := by
  rw [List.drop_eq_getElem_cons h, List.dropWhile_cons_of_pos hx]
theorem drop_stop (l : List UInt8) (k : Nat) (h : k < l.length) (cs : List UInt8) (hx : cs.contains l[k] = false) : (l.drop k).dropWhile cs.contains = l.drop k := by
  rw [List.drop_eq_getElem_cons h, List.dropWhile_cons_of_neg (by rw [hx]; decide)]
theorem at_zero (l : List UInt8) (k : Nat) (h : k < l.length) (h0 : 0 < (str (l.drop k)).size) : (str (l.drop k))[0]'h0 = l[k] := by
  have e : (str (l.drop k))[0]'h0 = (l.drop k)[0]'(by rw [← str_size]; exact h0) := rfl
  rw [e, List.getElem_drop]
  simp
set_option maxHeartbeats 1000000 in
theorem trimLeftASCII_any (l cs : List UInt8) (b : Nat) (w : World) (hb : w.heap[b]? = some (.cells (Lib.setCells cs) 109 (0, 0))) :
    Calls Tryz.prog 118 #[.string (str l), .pointer (some ⟨b, 0, none⟩)] w fun e w' => e = .returned (.string (str (l.dropWhile cs.contains))) ∧ w' = w := by
  go_enter Tryz.func118, Tryz.ntmps118
  go_wp2
  go_loopw [0] (fun s wr => ∃ k : Nat, k ≤ l.length ∧ s = .string (str (l.drop k)) ∧ Hid (l.dropWhile cs.contains = (l.drop k).dropWhile cs.contains) ∧ wr = w) (fun s _ => match s with | .string x => x.size | _ => 0)
  case atStart => exact ⟨0, Nat.zero_le _, by rw [List.drop_zero], by rw [List.drop_zero]; rfl, rfl⟩
  case round =>
    obtain ⟨k, hk, rfl, HE, rfl⟩ := hrel
    have hsz : (str (l.drop k)).size = l.length - k := by rw [str_size, List.length_drop]
    by_cases hlt : k < l.length
    · have h0 : 0 < (str (l.drop k)).size := by omega
      have hp : (0 : Int) < ((l.length - k : Nat) : Int) := by omega
      have ha := at_zero l k hlt h0
      have hext : (str (l.drop k)).extract 1 (l.length - k) = str (l.drop (k + 1)) := by
        have := str_from (l.drop k) 1
        rw [List.length_drop, List.drop_drop] at this
        exact this
      have h1 : (1 : Int) ≤ ((l.length - k : Nat) : Int) := by omega
      cases hx : cs.contains l[k]
      · have hc := set_cell cs hb l[k]
        rw [hx] at hc
        have HN := drop_stop l k hlt cs hx
        have HN2 : Hid _ := HN
        clear HN hx
        go_wp2_with (go_at_call 114; refine (Tryz.asciiSet_contains b l[k] _ _ hc).mono ?_; rintro e w1 ⟨rfl, hw1⟩; rw [hw1]; clear hw1)
        go_ret
        exact ⟨by rw [HE.out, HN2.out]; rfl, rfl⟩
      · have hc := set_cell cs hb l[k]
        rw [hx] at hc
        have HN := drop_next l k hlt cs hx
        have HN2 : Hid _ := HN
        clear HN hx
        go_wp2_with (go_at_call 114; refine (Tryz.asciiSet_contains b l[k] _ _ hc).mono ?_; rintro e w1 ⟨rfl, hw1⟩; rw [hw1]; clear hw1)
        go_roundw
        case rel => exact ⟨k + 1, by omega, rfl, HE.out.trans HN2.out, trivial⟩
        case measure => simp only [hsz, str_size, List.length_drop]; omega
    · have hp : ¬ (0 : Int) < ((l.length - k : Nat) : Int) := by omega
      go_wp2
      go_ret
      exact ⟨by rw [HE.out, List.drop_of_length_le (by omega)]; rfl, rfl⟩
theorem alloc_two (w : World) (a b : Obj) : ((w.alloc a).alloc b).heap[w.heap.size + 1]? = some b := by
  have := heap_alloc_last (w.alloc a) b
  simpa using this
set_option maxHeartbeats 1000000 in
set_option maxRecDepth 100000 in
theorem TrimLeft_any (l cs : List UInt8) (w : World) (h2 : 2 ≤ cs.length) (hl : cs.length ≤ 1000) (hc : ∀ c ∈ cs, c.toNat < 128) :
    Calls Tryz.prog 89 #[.string (str l), .string (str cs)] w fun e w' => e = .returned (.string (str (l.dropWhile cs.contains))) ∧ Below w.heap.size w w' := by
  have hsc := str_size cs
  have hemp : (str cs).toList.isEmpty = false := by
    rw [str_list]
    cases cs with
    | nil => simp at h2
    | cons => rfl
  have hn1 : ((cs.length : Int) == 1) = false := beq_eq_false_iff_ne.2 (by omega)
  have hzs := zeroSet
  by_cases hn : l = []
  · subst hn
    have he : (str []).toList.isEmpty = true := by rw [str_list]; rfl
    go_enter Tryz.func89, Tryz.ntmps89
    go_wp2
    go_ret
    exact ⟨rfl, Below.refl _ _⟩
  · have he : (str l).toList.isEmpty = false := by
      rw [str_list]
      cases l with
      | nil => exact absurd rfl hn
      | cons => rfl
    go_enter Tryz.func89, Tryz.ntmps89
    go_wp2_with (first
      | (go_at_call 113; refine (Tryz.strings_makeASCIISet zeroSet (str cs) _ (by rw [str_size]; omega) (low_at cs hc)).mono ?_; rintro e w1 ⟨rfl, hw1⟩; rw [str_data] at hw1 ⊢; rw [hw1]; clear hw1)
      | (refine wpList_store_set _ _ rfl rfl _ _ cs (by simp) rfl rfl (alloc_two _ _ _) ?_)
      | (go_at_call 118; refine (trimLeftASCII_any l cs _ _ (setRow_new (alloc_two _ _ _))).mono ?_; rintro e w2 ⟨rfl, rfl⟩))
    go_ret
    exact ⟨rfl, below_setRow (((Below.refl _ w).alloc (Nat.le_refl _) _).alloc (by simp) _) (by simp) _⟩
end Go.Proofs.YtlkhjloeonbjaaaGreatDoor
