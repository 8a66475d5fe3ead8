/- The contracts of slices.Clone at []byte, and of utf.Put. -/
import Derived.Test.YtiodaahncadodaaGreatDoorKUText
import Derived.Laws.Cover3
namespace Go.Proofs.YtiodaahncadodaaGreatDoor
open Go.RowKit
theorem cell_lt {w : World} {a : Addr} {v : Value} (h : w.cell? a = some v) : a.block < w.heap.size := by
  by_cases hs : a.block < w.heap.size
  · exact hs
  · unfold World.cell? at h
    rw [Array.getElem?_eq_none (by omega)] at h
    simp at h
theorem cell_alloc {w : World} {a : Addr} {v : Value} {o : Obj} (h : w.cell? a = some v) : (w.alloc o).cell? a = some v := by
  rw [World.cell?_alloc_lt _ _ _ (cell_lt h), h]
/-- The slice reads as these cells. -/
def ReadsCells (w : World) (v : Value) (xs : List Value) : Prop :=
  (∃ a c, v = .slice a 0 c ∧ xs = []) ∨ ∃ b o c, v = .slice (some ⟨b, o, none⟩) xs.length c ∧ xs.length ≤ c ∧ ∀ (j : Nat) x, xs[j]? = some x → w.cell? ⟨b, o + j, none⟩ = some x
theorem ReadsCells.below {w w' : World} {v : Value} {xs : List Value} (h : ReadsCells w v xs) (hb : Below w.heap.size w w') : ReadsCells w' v xs := by
  rcases h with h | ⟨b, o, c, rfl, hc, hr⟩
  · exact .inl h
  · exact .inr ⟨b, o, c, rfl, hc, fun j t hj => (hb.cell (p := ⟨b, o + j, none⟩) (cell_lt (hr j t hj))).trans (hr j t hj)⟩
theorem ReadsCells.nil (w : World) : ReadsCells w (.slice none 0 0) [] := .inl ⟨_, _, rfl, rfl⟩
theorem owns_reads {w : World} {B e : Nat} {v : Value} {xs : List Value} (h : w.ownsRow B e 1 v xs.length xs) : ReadsCells w v xs := by
  have h0 := h
  rcases h.2 with ⟨rfl, hz⟩ | ⟨g, cap, cur, rfl, _, hg, hc, _, hcs, ht⟩
  · exact .inl ⟨_, _, rfl, List.eq_nil_of_length_eq_zero hz⟩
  · refine .inr ⟨g, 0, cap, rfl, hc, fun j x hj => ?_⟩
    have hlt : j < xs.length := (List.getElem?_eq_some_iff.1 hj).1
    have := World.ownsRow.cellAt (w := w) (base := B) (e := e) (size := 1) (g := g) (cap := cap) (n := xs.length) (xs := xs) h0 j (by omega)
    rw [Nat.zero_add, this, hj]
theorem cellsB_length (l : List UInt8) : (cellsB l).length = l.length := by simp [cellsB]
theorem OwnsBytes.reads {w : World} {B : Nat} {v : Value} {l : List UInt8} (h : OwnsBytes w B v l) : ReadsCells w v (cellsB l) := by
  apply owns_reads (B := B) (e := 5)
  rw [cellsB_length]
  exact h
theorem one_cell (l : List UInt8) : ∀ u ∈ cellsB l, u.oneCell' = true := by
  intro u hu
  obtain ⟨c, _, rfl⟩ := List.mem_map.1 hu
  rfl
theorem add_addr (b o j : Nat) : (⟨b, o, none⟩ : Addr).add j = ⟨b, o + j, none⟩ := by
  unfold Addr.add
  simp
theorem heap_new (w : World) (o : Obj) : (w.alloc o).heap[w.heap.size]? = some o := by
  show (w.heap.push o)[w.heap.size]? = _
  simp
theorem is_nil (w : World) (a : Option Addr) (n c : Nat) : (binOp .eql 78 (.slice a n c) (.slice none 0 0)).run Tryz.prog w = .ok (.bool a.isNone) w := by
  simp only [binOp]
  simp [run_equal_slice_nil w 78 5 a n c Tryz.underlying78]
set_option maxHeartbeats 1000000 in
set_option maxRecDepth 100000 in
theorem Clone_any (v : Value) (l : List UInt8) (w : World) (hz : l.length ≤ 1000000000) (hv : ReadsCells w v (cellsB l)) :
    Calls Tryz.prog 179 #[v] w fun e w' => ∃ v', e = .returned v' ∧ OwnsBytes w' w.heap.size v' l ∧ Below w.heap.size w w' := by
  obtain ⟨i0, hi, hz0, hz1, hz2⟩ := info_parts infoByte
  obtain ⟨ad, c, rfl⟩ : ∃ ad c, v = .slice ad l.length c := by
    rcases hv with ⟨a, c, rfl, h0⟩ | ⟨b, o, c, rfl, _, _⟩
    · exact ⟨a, c, by rw [← cellsB_length, h0]; rfl⟩
    · exact ⟨_, c, by rw [cellsB_length]⟩
  cases ad with
  | none =>
    have hl : l = [] := by
      rcases hv with ⟨a, c, h1, h0⟩ | ⟨b, o, c, h1, _, _⟩
      · exact List.eq_nil_of_length_eq_zero (by rw [← cellsB_length, h0]; rfl)
      · cases h1
    subst hl
    have hnil := is_nil
    go_enter Tryz.func179, Tryz.ntmps179
    go_wp2
    go_ret
    exact ⟨_, rfl, OwnsBytes.nil _ _, Below.refl _ _⟩
  | some ad =>
    have hr : ∀ j u, (cellsB l)[j]? = some u → w.cell? (ad.add j) = some u := by
      intro j u hj
      rcases hv with ⟨a, c, h1, h0⟩ | ⟨b, o, c, h1, _, h3⟩
      · rw [h0] at hj; simp at hj
      · rw [cellsB_length] at h1
        cases h1
        rw [add_addr]
        exact h3 j u hj
    clear hv
    have hnil := is_nil
    go_enter Tryz.func179, Tryz.ntmps179
    have hown : (w.alloc (.cells #[] 5)).ownsRow w.heap.size 5 1 (.slice (some ⟨w.heap.size, 0, none⟩) 0 0) 0 [] := ⟨rfl, .inr ⟨w.heap.size, 0, #[], rfl, Nat.le_refl _, heap_new w _, Nat.le_refl _, Nat.zero_le _, rfl, rfl⟩⟩
    go_wp2_with (at_builtin; refine wpList_append_own _ rfl _ _ 78 rfl w.heap.size 5 i0 (.int .u8 0) 1 1 Tryz.underlying78 hi hz0 hz1 hz2 rfl (by decide) _ _ _ rfl hown ad l.length c (cellsB l) rfl (by rw [cellsB_length, Nat.mul_one]) (fun j u hj => cell_alloc (hr j u hj)) (one_cell l) (by unfold maxLen; omega) (by omega) (by simp) ?_)
    intro v' w2 hown' hgrow _
    go_wp2
    go_ret
    refine ⟨_, rfl, ?_, ((Below.refl _ w).alloc (Nat.le_refl _) _).grown hgrow (by simp) (fun k hk => ?_)⟩
    · unfold OwnsBytes
      simpa using hown'
    · cases hk
      exact Nat.le_refl _
def cellsR (cs : List Int) : List Value := cs.map fun c => .int .i32 c
theorem cellsR_length (cs : List Int) : (cellsR cs).length = cs.length := by simp [cellsR]
def inR (c : Int) : Prop := -2147483648 ≤ c ∧ c ≤ 2147483647
def puts (cs : List Int) : List UInt8 := cs.flatMap Lib.encodeRune
theorem puts_len (cs : List Int) : (puts cs).length ≤ 4 * cs.length := by
  induction cs with
  | nil => exact Nat.le_refl _
  | cons c cs ih =>
    unfold puts at *
    rw [List.flatMap_cons, List.length_append, List.length_cons]
    have := (Utf.enc_len c).1
    omega
theorem puts_snoc (cs : List Int) (k : Nat) (c : Int) (h : cs[k]? = some c) : puts (cs.take (k + 1)) = puts (cs.take k) ++ Lib.encodeRune c := by
  obtain ⟨hlt, rfl⟩ := List.getElem?_eq_some_iff.1 h
  unfold puts
  rw [List.take_succ_eq_append_getElem hlt, List.flatMap_append]
  simp
theorem bytes_put (l : List UInt8) (c : Int) : cellsB l ++ Lib.runeCells c = cellsB (l ++ Lib.encodeRune c) := by
  rw [← Lib.byteCells_encodeRune, cellsB_byteCells, cellsB_byteCells, Lib.byteCells_append]
set_option maxHeartbeats 1000000 in
set_option maxRecDepth 100000 in
theorem Put_any (v u : Value) (l : List UInt8) (cs : List Int) (w : World) (hz : l.length ≤ 1000000000) (hy : cs.length ≤ 1000000000) (hv : ReadsCells w v (cellsB l)) (hu : ReadsCells w u (cellsR cs)) (hR : ∀ c ∈ cs, inR c) :
    Calls Tryz.prog 151 #[v, u] w fun e w' => ∃ v', e = .returned v' ∧ OwnsBytes w' w.heap.size v' (l ++ puts cs) ∧ Below w.heap.size w w' := by
  obtain ⟨ad, cp, rfl⟩ : ∃ ad cp, u = .slice ad cs.length cp := by
    rcases hu with ⟨a, c, rfl, h0⟩ | ⟨b, o, c, rfl, _, _⟩
    · exact ⟨a, c, by rw [← cellsR_length, h0]; rfl⟩
    · exact ⟨_, c, by rw [cellsR_length]⟩
  have HU : Hid (ReadsCells w (.slice ad cs.length cp) (cellsR cs)) := hu
  clear hu
  go_enter Tryz.func151, Tryz.ntmps151
  go_wp2_with (go_at_call 179; refine (Clone_any v l _ hz hv).mono ?_; rintro e w1 ⟨v1, rfl, ho1, hb1⟩)
  go_loopw [5, 12] (fun x i wr => ∃ k : Nat, k ≤ cs.length ∧ i = .int .i64 k ∧ OwnsBytes wr w.heap.size x (l ++ puts (cs.take k)) ∧ Below w.heap.size w wr) (fun _ i _ => cs.length - (intOf i).toNat)
  case atStart => exact ⟨0, Nat.zero_le _, rfl, by simpa [puts] using ho1, hb1⟩
  case round =>
    obtain ⟨k, hk, rfl, ho, hbw⟩ := hrel
    by_cases hlt : k < cs.length
    · obtain ⟨c, hc⟩ : ∃ c, cs[k]? = some c := ⟨_, List.getElem?_eq_getElem hlt⟩
      have hin := hR c (List.mem_of_getElem? hc)
      unfold inR at hin
      have hpl := puts_len (cs.take k)
      rw [List.length_take] at hpl
      obtain ⟨b, o, rfl, hcp, hcell⟩ : ∃ b o, ad = some ⟨b, o, none⟩ ∧ cs.length ≤ cp ∧ w.cell? ⟨b, o + k, none⟩ = some (.int .i32 c) := by
        rcases HU.out with ⟨a, c', h1, h0⟩ | ⟨b, o, c', h1, h2, h3⟩
        · have := congrArg List.length h0
          rw [cellsR_length, List.length_nil] at this
          omega
        · rw [cellsR_length] at h1 h2
          cases h1
          refine ⟨b, o, rfl, h2, h3 k _ ?_⟩
          unfold cellsR
          rw [List.getElem?_map, hc]
          rfl
      have hcell2 : wr.cell? ⟨b, o + k, none⟩ = some (.int .i32 c) := (hbw.cell (p := ⟨b, o + k, none⟩) (cell_lt hcell)).trans hcell
      have HC : Hid (cs[k]? = some c) := hc
      have hsz := hbw.size
      clear hc hcell
      go_wp2_with (go_at_call 144; refine (Tryz.utf8_AppendRune_plain w.heap.size _ _ _ c (by omega) (by omega) _ ho (by rw [List.length_append]; omega) (by omega)).mono ?_; rintro e w2 ⟨v2, rfl, ho2, o2, hg2⟩)
      have hb2 : Below w.heap.size w w2 := (hbw.alloc (by omega) _).grown hg2 (by simp; omega) (fun k hk => (World.ownsRow.lt ho k hk).1)
      go_roundw
      case rel =>
        refine ⟨k + 1, by omega, by go_num, ?_, hb2⟩
        rw [bytes_put, List.append_assoc, ← puts_snoc cs k c HC.out] at ho2
        unfold OwnsBytes
        rw [show (l ++ puts (cs.take (k + 1))).length = (l ++ puts (cs.take k)).length + (Lib.runeCells c).length from by
          rw [puts_snoc cs k c HC.out, ← Lib.byteCells_encodeRune, Lib.byteCells_length]
          simp only [List.length_append]
          omega]
        exact ho2
      case measure => simp [intOf]; omega
    · have hkk : k = cs.length := by omega
      have ho2 : Hid (OwnsBytes wr w.heap.size u5 (l ++ puts cs)) := by
        have := ho
        rw [hkk, List.take_length] at this
        exact this
      go_wp2
      go_ret
      exact ⟨_, rfl, ho2.out, hbw⟩
end Go.Proofs.YtiodaahncadodaaGreatDoor
