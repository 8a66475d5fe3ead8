/- The contracts of Hex, the program's and the document's. -/
import Derived.Test.YtfjgmejobldjoaaSumC
import Derived.Laws.MakeOwn
import Derived.Deep.CutBlock
set_option linter.unusedVariables false
set_option linter.unusedSimpArgs false
namespace Go.Proofs.Ytfjgmejobldjoaa
open Go.RowKit
/-- A row of bytes is made. -/
theorem wpList_make {ops : Array Oper} {rest : List Oper} {o : Oper} {a : Act} {w : World} {Q : Exit → Act → World → Prop} (x : Operand) (ho : o.op = .makeSlice 22 x x) (hg : o.guard = none) (B n : Nat) (hn : n ≤ 16) (hB : B ≤ w.heap.size) (hx : a.eval x = .int .i64 (n : Int))
    (hw : ∀ w', w'.ownsRow B 5 1 (.slice (some ⟨w.heap.size, 0, none⟩) n n) n (cellsB (List.replicate n 0)) → w.grownBy w' none → wpList Try.prog ops Q rest (a.put o.dst (.slice (some ⟨w.heap.size, 0, none⟩) n n)) w') : wpList Try.prog ops Q (o :: rest) a w := by
  obtain ⟨i0, hi, hz0, hz1, hz2⟩ := info_parts infoByte
  obtain ⟨w', h1, h2, h3⟩ := run_make_full (P := Try.prog) w B 22 5 i0 (.int .u8 0) 1 Try.underlying22 hi hz0 hz1 .i64 .i64 n (by rw [hz2]; omega) (by unfold maxLen; omega) hB
  refine wpList_plain hg fun K hK => ?_
  unfold Oper.wp
  have e : (execOp a.eval o).run Try.prog w = .ok (.value (.slice (some ⟨w.heap.size, 0, none⟩) n n)) w' := by
    unfold execOp
    rw [ho]
    simp only [hx, Sem.run_bind, h1, Result.andThen, Sem.run_pure]
  rw [e, Oper.upon_value]
  refine hK _ _ (hw w' ?_ h3)
  have hc : (madeCells (Value.int .u8 0).cells (n * 1)).toList = cellsB (List.replicate n 0) := by
    rw [Nat.mul_one]
    show (madeCells #[.int .u8 0] n).toList = _
    rw [toList_madeCells_one]
    simp [cellsB]
  rw [← hc]
  exact h2
theorem low15n (n : Nat) (h : n < 18446744073709551616) : bits .and .u64 (n : Int) 15 = ((n % 16 : Nat) : Int) := by
  rw [show (15 : Int) = ((15 : Nat) : Int) from rfl, u64_and_nat _ _ h (by decide), nat_mask4]
theorem set_zero (p : Nat) (acc : List UInt8) (d : UInt8) : (List.replicate (p + 1) 0 ++ acc).set p d = List.replicate p 0 ++ d :: acc := by
  rw [List.replicate_succ', List.append_assoc, List.set_append_right _ _ (by simp)]
  simp
theorem cellsB_set (l : List UInt8) (p : Nat) (d : UInt8) : (cellsB l).set p (.int .u8 (d.toNat : Int)) = cellsB (l.set p d) := by
  unfold cellsB
  rw [List.map_set]
theorem dig_at (m : Nat) : (({ data := #[48, 49, 50, 51, 52, 53, 54, 55, 56, 57, 97, 98, 99, 100, 101, 102] } : ByteArray)[m % 16]'(by show m % 16 < 16; omega)) = Sm.hx (m % 16) := by
  have : ∀ i : Fin 16, (({ data := #[48, 49, 50, 51, 52, 53, 54, 55, 56, 57, 97, 98, 99, 100, 101, 102] } : ByteArray)[i.val]'(by exact i.isLt)) = Sm.hx i.val := by decide
  exact this ⟨m % 16, by omega⟩
theorem slice_dig (m : Nat) : ({ data := #[48, 49, 50, 51, 52, 53, 54, 55, 56, 57, 97, 98, 99, 100, 101, 102] } : ByteArray).extract (m % 16) (m % 16 + 1) = str [Sm.hx (m % 16)] := by
  have : ∀ i : Fin 16, (({ data := #[48, 49, 50, 51, 52, 53, 54, 55, 56, 57, 97, 98, 99, 100, 101, 102] } : ByteArray).extract i.val (i.val + 1)) = str [Sm.hx i.val] := by decide
  exact this ⟨m % 16, by omega⟩
/-- How many digits are asked. -/
def digs (d : Int) : Nat := (min (max d 0) 16).toNat
set_option maxHeartbeats 2000000 in
set_option maxRecDepth 100000 in
theorem Hex_any (n : Nat) (d : Int) (w : World) (hn : n < 18446744073709551616) (hd : -9223372036854775808 ≤ d ∧ d ≤ 9223372036854775807) :
    Calls Try.prog 14 #[.int .u64 (n : Int), .int .i64 d] w fun e w' => e = .returned (.string (str (Sm.hexA (digs d) n []))) ∧ Below w.heap.size w w' := by
  have hk : digs d ≤ 16 := by unfold digs; omega
  have hm : min (max d 0) 16 = ((digs d : Nat) : Int) := by unfold digs; omega
  generalize digs d = k at *
  go_enter Try.func14, Try.ntmps14
  go_upto_region 1 with fail
  go_cut [1] from 7 to 9 (fun s w' => s = Value.int .i64 (k : Int) ∧ w = w')
  case first =>
    go_wp2_with fail
    all_goals (go_meet; refine ⟨?_, rfl⟩; congr 1; omega)
  case rest =>
    obtain ⟨rfl, rfl⟩ := hcut
    clear hm hd
    go_wp2_with ((with_reducible show wpList _ _ _ ({ op := Op.makeSlice 22 _ _, .. } :: _) _ _); refine wpList_make _ rfl rfl w.heap.size k hk (Nat.le_refl _) rfl ?_; intro w1 hO1 hG1)
    have hB1 : Below w.heap.size w w1 := (Below.refl _ w).grown hG1 (Nat.le_refl _) (fun k hk => by cases hk)
    go_loopw [0, 13] (fun x i wr => ∃ (j m : Nat) (acc : List UInt8), j ≤ k ∧ m < 18446744073709551616 ∧ i = .int .i64 j ∧ x = .int .u64 m ∧ wr.ownsRow w.heap.size 5 1 (.slice (some ⟨w.heap.size, 0, none⟩) k k) k (cellsB (List.replicate (k - j) 0 ++ acc)) ∧ acc.length = j ∧ Hid (Sm.hexA (k - j) m acc = Sm.hexA k n []) ∧ Below w.heap.size w wr) (fun _ i _ => k - (intOf i).toNat)
    case atStart => exact ⟨0, n, [], Nat.zero_le _, hn, rfl, rfl, by rw [Nat.sub_zero, List.append_nil]; exact hO1, rfl, rfl, hB1⟩
    case round =>
      obtain ⟨j, m, acc, hj, hm, rfl, rfl, hO, hl, HH, hB⟩ := hrel
      by_cases hlt : j < k
      · obtain ⟨p, hkp0⟩ : ∃ p, k = j + 1 + p := ⟨k - 1 - j, by omega⟩
        rw [show k - j = p + 1 by omega] at hO HH
        have hip : (k : Int) - 1 - (j : Int) = (p : Int) := by omega
        have hpk : p < k := by omega
        have HK : Hid (k = j + 1 + p) := hkp0
        clear hkp0
        obtain ⟨old, hcell⟩ : ∃ old, wr.cell? ⟨w.heap.size, p, none⟩ = some old := ⟨_, (hO.cellAt p (by omega)).trans (cellsB_at _ p (by simp; omega))⟩
        have hfr := hO.frozenAt p
        have hlow := low15n m hm
        have hst := hO.stored p (.int .u8 ((Sm.hx (m % 16)).toNat : Int))
        have HX : Hid ((cellsB (List.replicate (p + 1) 0 ++ acc)).set p (.int .u8 ((Sm.hx (m % 16)).toNat : Int)) = cellsB (List.replicate p 0 ++ Sm.hx (m % 16) :: acc)) := by
          show _ = _
          rw [cellsB_set, set_zero]
        have hdig := dig_at m
        go_wp2
        have hkp := HK.out
        refine ⟨⟨j + 1, m / 16, Sm.hx (m % 16) :: acc, by omega, by omega, by go_num, by simp, ?_, by simp [hl], ?_, ?_⟩, by simp [intOf]; omega⟩
        · rw [show k - (j + 1) = p by omega, ← HX.out]
          exact hst.1
        · show Sm.hexA (k - (j + 1)) (m / 16) (Sm.hx (m % 16) :: acc) = _
          rw [show k - (j + 1) = p by omega]
          exact HH.out
        · exact hB.grown hst.2 hB.size (fun q hq => by cases hq; exact Nat.le_refl _)
      · obtain rfl : j = k := by omega
        have hcv := conv_owned (W := wr) (B := w.heap.size) (l := acc) (v := .slice (some ⟨w.heap.size, 0, none⟩) j j) (by
          unfold OwnsBytes
          rw [hl]
          rw [Nat.sub_self] at hO
          exact hO)
        rw [Nat.sub_self, Sm.hexA] at HH
        have HH' := HH.out
        subst HH'
        go_wp2
        go_ret
        exact ⟨rfl, hB⟩
set_option maxHeartbeats 2000000 in
set_option maxRecDepth 100000 in
theorem RHex_any (n : Nat) (d : Int) (w : World) (hn : n < 18446744073709551616) (hd : -9223372036854775808 ≤ d ∧ d ≤ 9223372036854775807) :
    Calls Try.prog 15 #[.int .u64 (n : Int), .int .i64 d] w fun e w' => e = .returned (.string (str (Sm.hexA (digs d) n []))) ∧ w' = w := by
  have hk : digs d ≤ 16 := by unfold digs; omega
  have hm1 : ∀ j : Nat, j < digs d → (j : Int) < d ∧ j < 16 := by unfold digs; omega
  have hm2 : ∀ j : Nat, j = digs d → ¬ (j : Int) < d ∨ ¬ j < 16 := by unfold digs; omega
  generalize digs d = k at *
  go_enter Try.func15, Try.ntmps15
  go_wp2
  go_loopw [0, 6, 7] (fun x s i wr => ∃ (j m : Nat) (acc : List UInt8), j ≤ k ∧ m < 18446744073709551616 ∧ i = .int .i64 j ∧ x = .int .u64 m ∧ s = .string (str acc) ∧ acc.length = j ∧ Hid (Sm.hexA (k - j) m acc = Sm.hexA k n []) ∧ w = wr) (fun _ _ i _ => k - (intOf i).toNat)
  case atStart => exact ⟨0, n, [], Nat.zero_le _, hn, rfl, rfl, rfl, rfl, rfl, rfl⟩
  case round =>
    obtain ⟨j, m, acc, hj, hm, rfl, rfl, rfl, hl, HH, rfl⟩ := hrel
    by_cases hlt : j < k
    · obtain ⟨h1, h2⟩ := hm1 j hlt
      clear hm1 hm2
      have h2' : (j : Int) < 16 := by omega
      have hs1 : (({ data := #[48, 49, 50, 51, 52, 53, 54, 55, 56, 57, 97, 98, 99, 100, 101, 102] } : ByteArray).extract (m % 16) (m % 16 + 1)).size = 1 := by rw [slice_dig]; rfl
      have hs2 : (str acc).size = j := by rw [str_size, hl]
      go_wp2
      refine ⟨⟨j + 1, m / 16, Sm.hx (m % 16) :: acc, by omega, by omega, by go_num, by simp, ?_, by simp [hl], ?_, trivial⟩, by simp [intOf]; omega⟩
      · rw [slice_dig]
        congr 1
      · show Sm.hexA (k - (j + 1)) (m / 16) (Sm.hx (m % 16) :: acc) = _
        rw [← HH.out, show k - j = (k - (j + 1)) + 1 by omega]
        rfl
    · obtain rfl : j = k := by omega
      rw [Nat.sub_self, Sm.hexA] at HH
      have HH' := HH.out
      rcases hm2 j rfl with h1 | h1
      · clear hm1 hm2
        go_wp2
        go_ret
        rw [← HH']
        exact ⟨rfl, rfl⟩
      · have h1' : ¬ (j : Int) < 16 := by omega
        clear hm1 hm2
        by_cases h3 : (j : Int) < d
        · go_wp2
          go_ret
          rw [← HH']
          exact ⟨rfl, rfl⟩
        · go_wp2
          go_ret
          rw [← HH']
          exact ⟨rfl, rfl⟩
end Go.Proofs.Ytfjgmejobldjoaa
