/- The contracts of percent's isPlain, of strings.Builder's WriteByte, and of percent's staying. -/
import Derived.Test.YtlkhjloeonbjaaaGreatDoorPctMath
import Derived.Test.YtlkhjloeonbjaaaGreatDoorPSmall
import Derived.Test.YtlkhjloeonbjaaaGreatDoorUBuilder
import Derived.Deep.WholeRow
import Derived.Deep.OwnRows
import Derived.Laws.ResultCell
namespace Go.Proofs.YtlkhjloeonbjaaaGreatDoor
open Go.RowKit
theorem plain_sign {n : Int} (h : n = 45 ∨ n = 46 ∨ n = 95 ∨ n = 126) : Pct.plainN n = true := by
  unfold Pct.plainN
  rw [decide_eq_true h]
  rfl
theorem plain_other {n : Int} (h : ¬ (n = 45 ∨ n = 46 ∨ n = 95 ∨ n = 126)) : Pct.plainN n = (letN n || digN n) := by
  unfold Pct.plainN
  rw [decide_eq_false h]
  rfl
set_option maxHeartbeats 1000000 in
theorem isPlain_n (n : Int) (w : World) :
    Calls Tryz.prog 108 #[.int .u8 n] w fun e w' => e = .returned (.bool (Pct.plainN n)) ∧ w' = w := by
  rcases (show n = 45 ∨ n = 46 ∨ n = 95 ∨ n = 126 ∨ ¬ (n = 45 ∨ n = 46 ∨ n = 95 ∨ n = 126) from by omega) with rfl | rfl | rfl | rfl | h
  case inr.inr.inr.inr =>
    rw [plain_other h]
    have h1 : ¬ n = 45 := by omega
    have h2 : ¬ n = 46 := by omega
    have h3 : ¬ n = 95 := by omega
    have h4 : ¬ n = 126 := by omega
    clear h
    cases hl : letN n
    · go_enter Tryz.func108, Tryz.ntmps108
      go_wp2_with (first
        | (go_at_call 88; refine (IsLetter_n _ _).mono ?_; rintro e w1 ⟨rfl, rfl⟩)
        | (go_at_call 116; refine (IsDigit_n _ _).mono ?_; rintro e w1 ⟨rfl, rfl⟩))
      go_ret
      exact ⟨rfl, rfl⟩
    · go_enter Tryz.func108, Tryz.ntmps108
      go_wp2_with (first
        | (go_at_call 88; refine (IsLetter_n _ _).mono ?_; rintro e w1 ⟨rfl, rfl⟩)
        | (go_at_call 116; refine (IsDigit_n _ _).mono ?_; rintro e w1 ⟨rfl, rfl⟩))
      go_ret
      exact ⟨rfl, rfl⟩
  all_goals
    go_enter Tryz.func108, Tryz.ntmps108
    go_wp2
    go_ret
    exact ⟨rfl, rfl⟩
set_option maxHeartbeats 4000000 in
set_option maxRecDepth 100000 in
theorem WriteByte_k (B b : Nat) (bs : List Value) (c : Int) (w : World) (h : Lib.IsBuilderF 55 5 B b bs w) (hlen : bs.length + 1 ≤ 140737488355328) (hBw : B ≤ w.heap.size) :
    Calls Tryz.prog 43 #[.pointer (some ⟨b, 0, none⟩), .int .u8 c] w fun e w' => e = .returned .nilIface ∧ (Lib.BuilderAtF 55 5 B b (.pointer (some ⟨b, 0, none⟩)) (bs ++ [.int .u8 c]) w' ∧ Below B w w' ∧ Lib.OthersKept 5 (some b) w w') := by
  obtain ⟨i0, hi, hz0, hz1, hz2⟩ := info_parts infoByte
  go_enter Tryz.func43, Tryz.ntmps43
  go_wp2_with (go_at_call 78; refine (copyCheck_k B b bs _ h).mono ?_)
  rintro e w1 ⟨rfl, ⟨hB, v, hbk, hown, hne⟩, hb1, hk1⟩
  have hsz := hb1.size
  have c0 : w1.cell? ⟨b, 0, none⟩ = some (.pointer (some ⟨b, 0, none⟩)) := by rw [Lib.cell_of_heap hbk]; rfl
  have c1 : w1.cell? ⟨b, 1, none⟩ = some v := by rw [Lib.cell_of_heap hbk]; rfl
  have hlt : b < w1.heap.size := (Array.getElem?_eq_some_iff.1 hbk).1
  go_wp2_with (at_builtin; refine wpList_append_ownF _ rfl _ _ 53 rfl B 5 i0 (.int .u8 0) 1 1 Tryz.underlying53 hi hz0 hz1 hz2 rfl (by decide) _ _ _ rfl (hown.alloc _) ⟨w1.heap.size, 0, none⟩ 1 1 [.int .u8 c] rfl rfl (cell_one_new _ _ _) (fun x hx => by simp at hx; subst hx; rfl) (by unfold maxLen; omega) (by omega) (by simp; omega) ?_)
  intro v' w2 hown' hgrow _
  have hb2 : w2.heap[b]? = some (.cells #[.pointer (some ⟨b, 0, none⟩), v] 55 (0, 0)) := by
    rw [hgrow.block b (by simp; omega) (fun e => hne e.symm), Lib.alloc_old w1 _ b hlt]
    exact hbk
  have d0 : w2.cell? ⟨b, 0, none⟩ = some (.pointer (some ⟨b, 0, none⟩)) := by rw [Lib.cell_of_heap hb2]; rfl
  have d1 : w2.cell? ⟨b, 1, none⟩ = some v := by rw [Lib.cell_of_heap hb2]; rfl
  have f1 : w2.frozen? ⟨b, 1, none⟩ = false := Lib.frozen_of_heap hb2 1
  obtain ⟨g, cap, rfl⟩ : ∃ g cap, v' = .slice (some ⟨g, 0, none⟩) (bs.length + 1) cap := by
    rcases hown'.2 with ⟨_, h0⟩ | ⟨g, cap, cur, fz, hv, _⟩
    · omega
    · exact ⟨g, cap, hv⟩
  go_wp2
  go_ret
  refine ⟨rfl, ?_, ?_, ((hk1.alloc _).grown hgrow (Lib.ownsRowF_kind (hown.alloc _))).setCell ⟨b, 1, none⟩ rfl _⟩
  · exact Lib.BuilderAtF.put (T := 55) (e := 5) hB hb2 (bs' := bs ++ [.int .u8 c]) (by simpa using hown') (by decide)
  · exact ((hb1.alloc (by omega) _).grown hgrow (by simp; omega) (fun k hk => (hown.lt k hk).1)).setCell (p := ⟨b, 1, none⟩) hB _
/-- The row of 256 bools. -/
def arr (f : Nat → Bool) : Array Value := (Array.range 256).map fun i => .bool (f i)
theorem arr_size (f : Nat → Bool) : (arr f).size = 256 := by simp [arr]
theorem arr_one (f : Nat → Bool) : (arr f).all (·.oneCell') = true := by
  rw [Array.all_eq_true]
  intro i hi
  simp [arr, Value.oneCell']
theorem arr_at (f : Nat → Bool) (i : Nat) (h : i < 256) : (arr f)[i]? = some (.bool (f i)) := by
  unfold arr
  rw [Array.getElem?_map, Array.getElem?_range, if_pos h]
  rfl
theorem arr_row {w : World} {b : Nat} {t : TypeId} {f : Nat → Bool} (h : w.rowIs b t 256 fun i => .bool (f i)) : w.heap[b]? = some (.cells (arr f) t (0, 0)) := by
  obtain ⟨c, hc, hn, hx⟩ := h
  rw [hc]
  congr 2
  apply Array.ext_getElem?
  intro i
  by_cases hi : i < 256
  · rw [hx i hi, arr_at f i hi]
  · rw [Array.getElem?_eq_none (by omega), Array.getElem?_eq_none (by rw [arr_size]; omega)]
theorem row_arr {w : World} {b : Nat} {t : TypeId} {f : Nat → Bool} (h : w.heap[b]? = some (.cells (arr f) t (0, 0))) : w.rowIs b t 256 fun i => .bool (f i) :=
  ⟨_, h, arr_size f, fun i hi => arr_at f i hi⟩
theorem zeroArr : (Tryz.prog.info? 83).map (fun i => (i.zero, i.size)) = some (some (.agg (Array.replicate 256 (.bool false))), 256) := by kernel_rfl
theorem arr_zero : Array.replicate 256 (Value.bool false) = arr fun _ => false := by
  apply Array.ext_getElem?
  intro i
  by_cases hi : i < 256
  · rw [arr_at _ i hi]; simp [hi]
  · rw [Array.getElem?_eq_none (by simp; omega), Array.getElem?_eq_none (by rw [arr_size]; omega)]
theorem size_arr : (Tryz.prog.info? 83).map (·.size) = some 256 := by kernel_rfl
theorem loadAt_arr {w : World} {b : Nat} {f : Nat → Bool} (h : w.heap[b]? = some (.cells (arr f) 83 (0, 0))) : (Instr.loadAt 83 (.pointer (some ⟨b, 0, none⟩))).run Tryz.prog w = .ok (.agg (arr f)) w := by
  simp only [Instr.loadAt, Instr.sureAddr, Sem.run_bind, Sem.run_pure, Result.andThen]
  exact run_loadVar_row _ _ _ _ _ _ _ h Tryz.underlying83 rfl (by rw [arr_size]; exact size_arr)
theorem storeAt_arr {w : World} {b : Nat} {f g : Nat → Bool} (h : w.heap[b]? = some (.cells (arr f) 83 (0, 0))) : (Instr.storeAt 83 (.pointer (some ⟨b, 0, none⟩)) (.agg (arr g))).run Tryz.prog w = .ok () (w.setRow b (arr g)) := by
  simp only [Instr.storeAt, Instr.sureAddr, Sem.run_bind, Sem.run_pure, Result.andThen]
  exact run_storeVar_row _ _ _ _ _ _ h (by rw [arr_size]; exact size_arr) (by rw [arr_size, arr_size]) (arr_one g)
theorem wpList_load_arr {ops : Array Oper} {rest : List Oper} {o : Oper} {a : Act} {w : World} {Q : Exit → Act → World → Prop} (x : Operand) (ho : o.op = .load 83 x) (hg : o.guard = none) (b : Nat) (f : Nat → Bool) (hx : a.eval x = .pointer (some ⟨b, 0, none⟩)) (h : w.heap[b]? = some (.cells (arr f) 83 (0, 0)))
    (hn : wpList Tryz.prog ops Q rest (a.put o.dst (.agg (arr f))) w) : wpList Tryz.prog ops Q (o :: rest) a w := by
  refine wpList_plain hg fun K hK => ?_
  unfold Oper.wp
  have e : (execOp a.eval o).run Tryz.prog w = .ok (.value (.agg (arr f))) w := by
    unfold execOp
    rw [ho]
    simp only [hx, Sem.run_bind, loadAt_arr h, Result.andThen, Sem.run_pure]
  rw [e, Oper.upon_value]
  exact hK _ _ hn
theorem wpList_store_arr {ops : Array Oper} {rest : List Oper} {o : Oper} {a : Act} {w : World} {Q : Exit → Act → World → Prop} (x y : Operand) (ho : o.op = .store 83 x y) (hg : o.guard = none) (b : Nat) (f g : Nat → Bool) (hx : a.eval x = .pointer (some ⟨b, 0, none⟩)) (hy : a.eval y = .agg (arr g)) (h : w.heap[b]? = some (.cells (arr f) 83 (0, 0)))
    (hn : wpList Tryz.prog ops Q rest (a.put o.dst undef) (w.setRow b (arr g))) : wpList Tryz.prog ops Q (o :: rest) a w := by
  refine wpList_plain hg fun K hK => ?_
  unfold Oper.wp
  have e : (execOp a.eval o).run Tryz.prog w = .ok .skip (w.setRow b (arr g)) := by
    unfold execOp
    rw [ho]
    simp only [hx, hy, Sem.run_bind, storeAt_arr h, Result.andThen, Sem.run_pure]
  rw [e, Oper.upon_skip]
  exact hK _ _ hn
theorem setRow_block {w : World} {b : Nat} {f g : Nat → Bool} {t : TypeId} (h : w.heap[b]? = some (.cells (arr f) t (0, 0))) : (w.setRow b (arr g)).heap[b]? = some (.cells (arr g) t (0, 0)) := by
  simp [World.setRow, Array.getElem?_modify, h]
theorem setRow_other {w : World} {b k : Nat} (h : k ≠ b) (c : Array Value) : (w.setRow b c).heap[k]? = w.heap[k]? := by
  simp only [World.setRow, Array.getElem?_modify]
  rw [if_neg (fun e => h e.symm)]
theorem setRow_size (w : World) (b : Nat) (c : Array Value) : (w.setRow b c).heap.size = w.heap.size := by simp [World.setRow]
theorem below_setRow {B b : Nat} {w w' : World} (h : Below B w w') (hb : B ≤ b) (c : Array Value) : Below B w (w'.setRow b c) :=
  ⟨h.os, h.tape, h.output, by rw [setRow_size]; exact h.size, fun k hk => by rw [setRow_other (by omega)]; exact h.block k hk⟩
theorem size_data0 (b : ByteArray) : b.size = b.data.toList.length := Array.length_toList.symm
theorem results_cell {fn : Func} {p : Tmp} {ty : TypeId} (h : fn.results = #[.cell p ty]) (tmps : Array Value) (P : Program) (w : World) :
    (results fn tmps).run P w = ((asAddr (tmps.getD p undef)).run P w).andThen fun a w1 => (loadVar ty a).run P w1 := by
  simp only [results, h]
  simp [Sem.run_bind, Result.andThen]
theorem stays_more (l : List UInt8) (c : UInt8) (j : Nat) (hj : j < 256) : (if j = c.toNat then Value.bool true else .bool (Pct.stays l (UInt8.ofNat j))) = .bool (Pct.stays (l ++ [c]) (UInt8.ofNat j)) := by
  have hc := c.toNat_lt
  unfold Pct.stays
  by_cases h : j = c.toNat
  · subst h
    rw [if_pos rfl]
    simp
  · rw [if_neg h]
    have : ¬ UInt8.ofNat j = c := by
      rintro rfl
      apply h
      simp
      omega
    simp [this]
theorem byte_in (c : UInt8) : c.toNat < 256 ∧ (c.toNat : Int) < 256 := by have := c.toNat_lt; omega
set_option maxHeartbeats 4000000 in
set_option maxRecDepth 100000 in
theorem staying_any (s : ByteArray) (w : World) (hs : s.size ≤ 1000000000) :
    Calls Tryz.prog 81 #[.string s] w fun e w' => e = .returned (.agg (arr fun i => Pct.stays s.data.toList (UInt8.ofNat i))) ∧ Below w.heap.size w w' := by
  have hz := (zero_of_info zeroArr).1
  rw [arr_zero] at hz
  go_enter Tryz.func81, Tryz.ntmps81
  go_wp2
  go_loopw [6] (fun i wr => ∃ k : Nat, k ≤ 256 ∧ i = .int .i64 k ∧ wr.rowIs w.heap.size 83 256 (fun i => .bool ((fun _ => false) i)) ∧ wr.rowIs (w.heap.size + 1) 83 256 (fun j => .bool ((fun j => decide (j < k) && Pct.plain (UInt8.ofNat j)) j)) ∧ Below w.heap.size w wr) (fun i _ => 256 - (intOf i).toNat)
  case atStart =>
    refine ⟨0, Nat.zero_le _, rfl, (row_arr (heap_alloc_last w _)).alloc _, ?_, ((Below.refl _ w).alloc (Nat.le_refl _) _).alloc (by simp) _⟩
    refine (row_arr (f := fun _ => false) ?_).congr (fun j _ => by simp)
    have := heap_alloc_last (w.alloc (.cells (arr fun _ => false) 83)) (.cells (arr fun _ => false) 83)
    simpa using this
  case round =>
    obtain ⟨k, hk, rfl, hr0, hr1, hbel⟩ := hrel
    by_cases hlt : k < 256
    · have hc := hr1.cell hlt
      have hfz := hr1.frozen k
      have HR0 := show Hid _ from hr0
      have HR1 := show Hid _ from hr1
      clear hr0 hr1
      go_wp2_with (first
        | (go_at_call 108; refine (isPlain_n _ _).mono ?_; rintro e w1 ⟨rfl, rfl⟩))
      go_roundw
      case rel =>
        refine ⟨k + 1, by omega, by go_num, World.rowIs.setOther HR0.out (by simp) _, (World.rowIs.set HR1.out k _).congr (fun j hj => ?_), hbel.setCell (by simp) _⟩
        by_cases hjk : j = k
        · subst hjk
          rw [if_pos rfl]
          simp only [Nat.lt_succ_self, decide_true, Bool.true_and]
          congr 1
          unfold Pct.plain
          congr 1
          simp
          omega
        · rw [if_neg hjk]
          have e : decide (j < k) = decide (j < k + 1) := by
            rw [decide_eq_decide]
            omega
          rw [e]
      case measure => simp [intOf]; omega
    · have HR0 := show Hid _ from hr0
      have HR1 : Hid (wr.rowIs (w.heap.size + 1) 83 256 fun j => .bool ((fun j => Pct.stays (s.data.toList.take 0) (UInt8.ofNat j)) j)) := hr1.congr (fun j hj => by
        simp only [List.take_zero, Pct.stays]
        rw [decide_eq_true (by omega)]
        simp)
      clear hr0 hr1
      go_wp2
      go_loopw [17] (fun i wr => ∃ k : Nat, k ≤ s.size ∧ i = .int .i64 k ∧ Hid (wr.rowIs w.heap.size 83 256 (fun i => .bool ((fun _ => false) i))) ∧ Hid (wr.rowIs (w.heap.size + 1) 83 256 (fun j => .bool ((fun j => Pct.stays (s.data.toList.take k) (UInt8.ofNat j)) j))) ∧ Below w.heap.size w wr) (fun i _ => s.size - (intOf i).toNat)
      case atStart => exact ⟨0, Nat.zero_le _, rfl, HR0, HR1, hbel⟩
      case round =>
        clear HR0 HR1 hbel
        obtain ⟨m, hm, rfl, HR0, HR1, hbel⟩ := hrel
        by_cases hlt : m < s.size
        · have hb := byte_in s[m]
          have hc := World.rowIs.cell HR1.out hb.1
          have hfz := World.rowIs.frozen HR1.out s[m].toNat
          have hb2 := hb.2
          go_wp2
          go_roundw
          case rel =>
            refine ⟨m + 1, by omega, by go_num, World.rowIs.setOther HR0.out (by simp) _, (World.rowIs.set HR1.out s[m].toNat _).congr (fun j hj => ?_), hbel.setCell (by simp) _⟩
            rw [Asc.take_snoc s.data.toList m hlt]
            exact stays_more _ _ _ hj
          case measure => simp [intOf]; omega
        · have HN : Hid (wr.heap[w.heap.size + 1]? = some (.cells (arr fun j => Pct.stays s.data.toList (UInt8.ofNat j)) 83 (0, 0))) := by
            have := arr_row HR1.out
            rw [List.take_of_length_le (by rw [← size_data0]; omega)] at this
            exact this
          go_wp2_with (first
            | (refine wpList_load_arr _ rfl rfl _ _ rfl HN.out ?_)
            | (refine wpList_store_arr _ _ rfl rfl _ _ _ rfl rfl (arr_row HR0.out) ?_))
          refine bodyPost_ret (v := .agg (arr fun i => Pct.stays s.data.toList (UInt8.ofNat i))) ?_ rfl ⟨rfl, below_setRow hbel (Nat.le_refl _) _⟩
          have hld := run_loadVar_row (P := Tryz.prog) _ _ _ _ _ _ _ (setRow_block (arr_row HR0.out)) Tryz.underlying83 rfl (by rw [arr_size (fun i => Pct.stays s.data.toList (UInt8.ofNat i))]; exact size_arr)
          rw [results_cell rfl]
          simp [asAddr, Result.andThen, hld]
end Go.Proofs.YtlkhjloeonbjaaaGreatDoor
