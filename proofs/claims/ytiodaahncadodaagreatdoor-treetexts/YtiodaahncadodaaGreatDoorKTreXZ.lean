/- Texts laid as one. -/
import Derived.Test.YtiodaahncadodaaGreatDoorKTreMN
import Derived.Test.YtiodaahncadodaaGreatDoorKUBY
import Derived.Test.YtiodaahncadodaaGreatDoorKTkT
import Derived.Test.YtiodaahncadodaaGreatDoorKTreOQ
import Derived.Test.YtiodaahncadodaaGreatDoorKTkW
import Derived.Test.YtiodaahncadodaaGreatDoorKTreRU
/- A writer in memory: a builder that lies within it. -/
set_option linter.unusedVariables false
set_option linter.unusedSimpArgs false
namespace Go.Proofs.YtiodaahncadodaaGreatDoor
open Go.RowKit
set_option maxHeartbeats 1000000 in
set_option maxRecDepth 100000 in
theorem to_bare13 (b : Nat) (w : World) (hsh : w.shape? b = some (82, 3)) :
    (convert 77 177 (.pointer (some ⟨b, 1, none⟩))).run Tryz.prog w = .ok (.pointer (some ⟨b, 1, none⟩)) w := by
  obtain ⟨j, hj, hjs⟩ := Option.map_eq_some_iff.1 sizeBuilder
  simp [convert, run_underlying Tryz.underlying77, run_underlying Tryz.underlying177, Conv.unsafePointer, Conv.seenAt, viewAt, cellsIn, hsh, sizeOf, typeInfo, hj, hjs]
theorem liesW13 : liesAt Tryz.prog Tryz.prog.depth 82 (3 / Tryz.prog.cellsOf 82) 1 80 1 = true := by kernel_rfl
set_option maxHeartbeats 1000000 in
set_option maxRecDepth 100000 in
theorem of_bare13 (b : Nat) (w : World) (hsh : w.shape? b = some (82, 3)) :
    (convert 177 77 (.pointer (some ⟨b, 1, none⟩))).run Tryz.prog w = .ok (.pointer (some ⟨b, 1, none⟩)) w := by
  obtain ⟨j, hj, hjs⟩ := Option.map_eq_some_iff.1 sizeBuilder
  simp [convert, run_underlying Tryz.underlying77, run_underlying Tryz.underlying177, Conv.unsafePointer, Conv.seenAt, viewAt, hsh, variablesAt, liesW13, sizeOf, typeInfo, hj]
set_option maxHeartbeats 1000000 in
set_option maxRecDepth 100000 in
theorem copyCheck_fresh13 (b : Nat) (w : World) (h0 : w.cell? ⟨b, 1, none⟩ = some (.pointer none)) (hsh : w.shape? b = some (82, 3)) (hfz : w.frozen? ⟨b, 1, none⟩ = false) :
    Calls Tryz.prog 132 #[.pointer (some ⟨b, 1, none⟩)] w fun e w' => e = .returned (.tuple #[]) ∧ w' = w.setCell ⟨b, 1, none⟩ (.pointer (some ⟨b, 1, none⟩)) := by
  go_enter Tryz.func132, Tryz.ntmps132
  go_wp2
  rw [to_bare13 b w hsh]
  simp only [Result.andThen]
  rw [Oper.upon_value]
  go_wp2
  rw [run_callFunc_extern Tryz.func163 (by kernel_rfl) (by kernel_rfl) (by kernel_rfl) (e := Extern.AbiNoEscape.same) (by kernel_rfl)]
  rw [Lib.run_noEscape]
  simp only [Result.andThen]
  rw [Oper.upon_value]
  go_wp2
  rw [of_bare13 b w hsh]
  simp only [Result.andThen]
  rw [Oper.upon_value]
  go_wp2
  go_end0
  exact ⟨rfl, rfl⟩
set_option maxHeartbeats 1000000 in
set_option maxRecDepth 100000 in
theorem copyCheck_used13 (b : Nat) (w : World) (h0 : w.cell? ⟨b, 1, none⟩ = some (.pointer (some ⟨b, 1, none⟩))) :
    Calls Tryz.prog 132 #[.pointer (some ⟨b, 1, none⟩)] w fun e w' => e = .returned (.tuple #[]) ∧ w' = w := by
  obtain ⟨j, hj, hjs⟩ := Option.map_eq_some_iff.1 sizeBuilder
  go_enter Tryz.func132, Tryz.ntmps132
  go_wp2
  rw [Lib.run_neq_ptr_same w _ Tryz.underlying77 hj]
  go_wp2
  go_end0
  exact ⟨rfl, rfl⟩
/-- A writer's block: its nodes, and a builder with these bytes. -/
def WrAt (b : Nat) (w : World) (nv : Value) (acc : List UInt8) : Prop :=
  ∃ p v, w.heap[b]? = some (.cells #[nv, p, v] 82 (0, 0)) ∧ (p = .pointer none ∨ p = .pointer (some ⟨b, 1, none⟩)) ∧ w.ownsRowF b 5 1 v acc.length (Lib.byteCells acc) ∧ v.ownBlock ≠ some b
theorem WrAt.lt {b : Nat} {w : World} {nv : Value} {acc : List UInt8} (h : WrAt b w nv acc) : b < w.heap.size := by
  obtain ⟨p, v, h1, _⟩ := h
  exact (Array.getElem?_eq_some_iff.1 h1).1
theorem shape13 {b : Nat} {w : World} {x0 x1 x2 : Value} (h : w.heap[b]? = some (.cells #[x0, x1, x2] 82 (0, 0))) : w.shape? b = some (82, 3) := by simp [World.shape?, h]
theorem ownsF_setCell {w : World} {B b i : Nat} {v u : Value} {bs : List Value} (h : w.ownsRowF B 5 1 v bs.length bs) (hne : v.ownBlock ≠ some b) : (w.setCell ⟨b, i, none⟩ u).ownsRowF B 5 1 v bs.length bs :=
  h.kept (row := some b) ⟨rfl, rfl, rfl, by simp [World.setCell], fun k _ hk => Below.heap_setCell _ _ _ _ (fun e => hk (by simp [e]))⟩ (Or.inr hne)
theorem WrAt.below {b : Nat} {w w' : World} {nv : Value} {acc : List UInt8} (h : WrAt b w nv acc) (hb : Below w.heap.size w w') : WrAt b w' nv acc := by
  obtain ⟨p, v, h1, h2, h3, h4⟩ := h
  refine ⟨p, v, (hb.block b (Array.getElem?_eq_some_iff.1 h1).1).trans h1, h2, ?_, h4⟩
  refine ⟨h3.1, ?_⟩
  rcases h3.2 with hn | ⟨g, cap, cur, fz, e, hB, hg, rest⟩
  · exact .inl hn
  · exact .inr ⟨g, cap, cur, fz, e, hB, (hb.block g (Array.getElem?_eq_some_iff.1 hg).1).trans hg, rest⟩
/-- What a writer's call keeps: what lies below its block, and what is neither that block nor one of bytes. -/
structure Wr13 (b : Nat) (w w' : World) : Prop where
  bel : Below b w w'
  others : Lib.OthersKept 5 (some b) w w'
theorem Wr13.refl (b : Nat) (w : World) : Wr13 b w w := ⟨Below.refl _ _, Lib.OthersKept.refl _ _ _⟩
theorem Wr13.trans {b : Nat} {a c d : World} (h : Wr13 b a c) (k : Wr13 b c d) : Wr13 b a d := ⟨h.bel.trans k.bel, h.others.trans k.others⟩
theorem Wr13.of {b : Nat} {w w' : World} (h : Below w.heap.size w w') (hb : b ≤ w.heap.size) : Wr13 b w w' :=
  ⟨h.mono hb, fun k o hk _ _ => (h.block k (Array.getElem?_eq_some_iff.1 hk).1).trans hk⟩
set_option maxHeartbeats 1000000 in
set_option maxRecDepth 100000 in
theorem copyCheck13 {b : Nat} {w : World} {nv : Value} {acc : List UInt8} (h : WrAt b w nv acc) :
    Calls Tryz.prog 132 #[.pointer (some ⟨b, 1, none⟩)] w fun e w' => e = .returned (.tuple #[]) ∧ Wr13 b w w' ∧ ∃ v, w'.heap[b]? = some (.cells #[nv, .pointer (some ⟨b, 1, none⟩), v] 82 (0, 0)) ∧ w'.ownsRowF b 5 1 v acc.length (Lib.byteCells acc) ∧ v.ownBlock ≠ some b := by
  obtain ⟨p, v, h1, h2, h3, h4⟩ := h
  rcases h2 with rfl | rfl
  · refine (copyCheck_fresh13 b w (Lib.cell_of_heap h1 1) (shape13 h1) (Lib.frozen_of_heap h1 1)).mono ?_
    rintro e w' ⟨rfl, rfl⟩
    refine ⟨rfl, ⟨(Below.refl b w).setCell (p := ⟨b, 1, none⟩) (Nat.le_refl _) _, (Lib.OthersKept.refl _ _ w).setCell ⟨b, 1, none⟩ rfl _⟩, v, ?_, ?_, h4⟩
    · simp [World.setCell, Array.getElem?_modify, h1]
    · have hl : acc.length = (Lib.byteCells acc).length := (Lib.byteCells_length _).symm
      rw [hl] at h3 ⊢
      exact ownsF_setCell h3 h4
  · refine (copyCheck_used13 b w (Lib.cell_of_heap h1 1)).mono ?_
    rintro e w' ⟨rfl, rfl⟩
    exact ⟨rfl, Wr13.refl b _, v, h1, h3, h4⟩
set_option maxHeartbeats 1000000 in
set_option maxRecDepth 100000 in
theorem Len13 {b : Nat} {w : World} {nv : Value} {acc : List UInt8} (h : WrAt b w nv acc) :
    Calls Tryz.prog 100 #[.pointer (some ⟨b, 1, none⟩)] w fun e w' => e = .returned (.int .i64 acc.length) ∧ w' = w := by
  obtain ⟨p, v, h1, h2, h3, h4⟩ := h
  obtain ⟨a, c, rfl⟩ : ∃ a c, v = .slice a acc.length c := by
    rcases h3.2 with ⟨hv, h0⟩ | ⟨g, cap, cur, fz, hv, _⟩
    · exact ⟨none, 0, by rw [hv, h0]⟩
    · exact ⟨_, _, hv⟩
  have c2 := Lib.cell_of_heap h1 2
  clear h1 h2 h3 h4
  go_enter Tryz.func100, Tryz.ntmps100
  go_wp2
  go_ret
  exact ⟨rfl, rfl⟩
set_option maxHeartbeats 4000000 in
set_option maxRecDepth 100000 in
theorem WriteString13 {b : Nat} {w : World} {nv : Value} {acc : List UInt8} (s : List UInt8) (h : WrAt b w nv acc) (hl : acc.length + s.length ≤ 10000000000) :
    Calls Tryz.prog 101 #[.pointer (some ⟨b, 1, none⟩), .string (str s)] w fun e w' => (∃ u, e = .returned u) ∧ WrAt b w' nv (acc ++ s) ∧ Wr13 b w w' := by
  obtain ⟨i0, hi, hz0, hz1, hz2⟩ := info_parts infoByte
  have hss := str_size s
  have hbl := h.lt
  have hlen := Lib.byteCells_length acc
  go_enter Tryz.func101, Tryz.ntmps101
  go_wp2_with (go_at_call 132; refine (copyCheck13 h).mono ?_)
  rintro e w1 ⟨rfl, hb1, v, hbk, hown, hne⟩
  have hsz := hb1.bel.size
  have c1 : w1.cell? ⟨b, 1, none⟩ = some (.pointer (some ⟨b, 1, none⟩)) := by rw [Lib.cell_of_heap hbk]; rfl
  have c2 : w1.cell? ⟨b, 2, none⟩ = some v := by rw [Lib.cell_of_heap hbk]; rfl
  have hlt : b < w1.heap.size := (Array.getElem?_eq_some_iff.1 hbk).1
  go_wp2_with (at_builtin; refine Lib.wpList_append_own_stringF _ rfl _ _ 78 9 rfl b 5 i0 Tryz.underlying78 Tryz.underlying9 hi hz0 hz1 hz2 _ _ _ rfl hown (str s) rfl (by unfold maxLen; omega) (by omega) (by omega) ?_)
  intro v' w2 hown' hgrow _
  have hb2 : w2.heap[b]? = some (.cells #[nv, .pointer (some ⟨b, 1, none⟩), v] 82 (0, 0)) := by
    rw [hgrow.block b hlt (fun e => hne e.symm)]
    exact hbk
  have d1 : w2.cell? ⟨b, 1, none⟩ = some (.pointer (some ⟨b, 1, none⟩)) := by rw [Lib.cell_of_heap hb2]; rfl
  have d2 : w2.cell? ⟨b, 2, none⟩ = some v := by rw [Lib.cell_of_heap hb2]; rfl
  have f2 : w2.frozen? ⟨b, 2, none⟩ = false := Lib.frozen_of_heap hb2 2
  obtain ⟨ao, n', cap, rfl⟩ : ∃ ao n' cap, v' = .slice ao n' cap := by
    rcases hown'.2 with ⟨hv, _⟩ | ⟨g, cap, cur, fz, hv, _⟩
    · exact ⟨_, _, _, hv⟩
    · exact ⟨_, _, _, hv⟩
  have hne' : (Value.slice ao n' cap).ownBlock ≠ some b := fun e => by
    rcases hown'.2 with ⟨hv, _⟩ | ⟨g, cap2, cur, fz, hv, hB, hg, _⟩
    · rw [hv] at e
      cases e
    · rw [hv] at e
      cases e
      rw [hb2] at hg
      cases hg
  have hown2 : w2.ownsRowF b 5 1 (.slice ao n' cap) (Lib.byteCells (acc ++ s)).length (Lib.byteCells (acc ++ s)) := by
    rw [Lib.byteCells_append, List.length_append, ← strCells_str s, hlen, Lib.strCells_length]
    exact hown'
  go_wp2
  go_ret2
  refine ⟨⟨_, rfl⟩, ⟨_, _, ?_, .inr rfl, ?_, hne'⟩, ⟨(hb1.bel.grown hgrow (by omega) (fun k hk => (hown.lt k hk).1)).setCell (p := ⟨b, 2, none⟩) (Nat.le_refl _) _, (hb1.others.grown hgrow (Lib.ownsRowF_kind hown)).setCell ⟨b, 2, none⟩ rfl _⟩⟩
  · simp [World.setCell, Array.getElem?_modify, hb2]
  · rw [← Lib.byteCells_length (acc ++ s)]
    exact ownsF_setCell hown2 hne'
set_option maxHeartbeats 1000000 in
set_option maxRecDepth 100000 in
/-- put. -/
theorem put13 {b : Nat} {w : World} {nv : Value} {acc : List UInt8} (s : List UInt8) (h : WrAt b w nv acc) (ha : acc.length ≤ 262144) (hl : s.length ≤ 1000000000) :
    Calls Tryz.prog 67 #[.pointer (some ⟨b, 0, none⟩), .string (str s)] w fun e w' => e = .returned (.bool (decide (acc.length + s.length ≤ 262144))) ∧ Wr13 b w w' ∧ (acc.length + s.length ≤ 262144 → WrAt b w' nv (acc ++ s)) := by
  have hss := str_size s
  have hL := Len13 h
  have hW := WriteString13 s h (by omega)
  by_cases hfit : acc.length + s.length ≤ 262144
  · have q : ¬ (262144 : Int) - (acc.length : Int) < (s.length : Int) := by omega
    have HD : Hid (decide (acc.length + s.length ≤ 262144) = true) := decide_eq_true hfit
    clear h
    go_enter Tryz.func67, Tryz.ntmps67
    go_wp2_with (first
      | (go_at_call 100; refine hL.mono ?_; rintro e w1 ⟨rfl, he1⟩; replace he1 := he1.symm; subst he1)
      | (go_at_call 101; refine hW.mono ?_; rintro e w2 ⟨⟨u, rfl⟩, h2, b2⟩))
    go_ret
    exact ⟨by rw [HD.out]; rfl, b2, fun _ => h2⟩
  · have q : (262144 : Int) - (acc.length : Int) < (s.length : Int) := by omega
    have HD : Hid (decide (acc.length + s.length ≤ 262144) = false) := decide_eq_false hfit
    have HN : Hid (¬ acc.length + s.length ≤ 262144) := hfit
    clear h hW hfit
    go_enter Tryz.func67, Tryz.ntmps67
    go_wp2_with (first
      | (go_at_call 100; refine hL.mono ?_; rintro e w1 ⟨rfl, he1⟩; replace he1 := he1.symm; subst he1))
    go_ret
    exact ⟨by rw [HD.out]; rfl, Wr13.refl _ _, fun hx => absurd hx HN.out⟩
end Go.Proofs.YtiodaahncadodaaGreatDoor
/- The contracts of leastSize and of a writer's text. -/
namespace Go.Proofs.YtiodaahncadodaaGreatDoor
open Go.RowKit
def leastN (n : Nd) : Nat := n.name.length + n.text.length + Tk.wt n.attrs
theorem wt_take (qs : List Pr) (j : Nat) (h : j < qs.length) : Tk.wt (qs.take (j + 1)) = Tk.wt (qs.take j) + (qs[j].1.length + qs[j].2.length) := by
  rw [List.take_succ_eq_append_getElem h]
  exact Tk.wt_snoc _ _
theorem wt_take_le (qs : List Pr) (j : Nat) : Tk.wt (qs.take j) ≤ Tk.wt qs := by
  have : Tk.wt qs = Tk.wt (qs.take j) + Tk.wt (qs.drop j) := by
    unfold Tk.wt
    rw [← List.sum_append, ← List.map_append, List.take_append_drop]
  omega
set_option maxHeartbeats 4000000 in
set_option maxRecDepth 100000 in
theorem least_any (n : Nd) (aa : Option Addr) (ac : Nat) (ka : Option Addr) (kc : Nat) (w : World) (hv : ReadsPairs w (.slice aa n.attrs.length ac) n.attrs) (hl : n.attrs.length ≤ 1000000000000000) (hz : leastN n ≤ 1000000000000000) :
    Calls Tryz.prog 65 #[nodeV n aa ac ka kc] w fun e w' => e = .returned (.int .i64 (leastN n : Int)) ∧ Below w.heap.size w w' := by
  obtain ⟨kd, nm, ats, tx, up, ks⟩ := n
  unfold leastN at hz ⊢
  simp only at hv hl hz ⊢
  have hb0 : Below w.heap.size w (w.alloc (.cells #[.int .i64 kd, .string (str nm), .slice aa ats.length ac, .string (str tx), .int .i64 up, .slice ka ks.length kc] 43)) := (Below.refl _ w).alloc (Nat.le_refl _) _
  have hs1 := str_size nm
  have hs2 := str_size tx
  have hv0 := hv.below hb0
  have hle := wt_take_le ats
  have HT := hideT (wt_take ats)
  have HB0 := hideT hb0
  clear hv hb0
  go_enter Tryz.func65, Tryz.ntmps65
  go_wp2
  generalize hW0 : (w.alloc (.cells #[.int .i64 kd, .string (str nm), .slice aa ats.length ac, .string (str tx), .int .i64 up, .slice ka ks.length kc] 43)) = W0 at *
  go_loopw [16, 3] (fun i m wr => ∃ j : Nat, i = .int .i64 j ∧ m = .int .i64 ((nm.length + tx.length + Tk.wt (ats.take j) : Nat) : Int) ∧ j ≤ ats.length ∧ Hid (Below W0.heap.size W0 wr)) (fun i _ _ => ats.length - (intOf i).toNat)
  case atStart => exact ⟨0, rfl, by simp [Tk.wt], Nat.zero_le _, Below.refl _ _⟩
  case round =>
    obtain ⟨j, rfl, rfl, hj, HB⟩ := hrel
    by_cases hjl : j < ats.length
    · obtain ⟨b, o, rfl, hc, hblt, x1, x2⟩ := (hv0.below HB.out).at (List.getElem?_eq_getElem hjl)
      have hle1 := hle (j + 1)
      rw [HT.out j hjl] at hle1
      have HN := hideT (HT.out j hjl)
      generalize ats[j]'hjl = x at *
      obtain ⟨xn, xv⟩ := x
      simp only at x1 x2 hle1
      have RX := hideT (range_two x1 x2)
      have hb1 : Below wr.heap.size wr (wr.alloc (.cells #[.string (str xn), .string (str xv)] 67)) := (Below.refl _ _).alloc (Nat.le_refl _) _
      have HB1 : Hid (Below W0.heap.size W0 (wr.alloc (.cells #[.string (str xn), .string (str xv)] 67))) := HB.out.trans (hb1.mono HB.out.size)
      have z1 := str_size xn
      have z2 := str_size xv
      have HJ : Hid (j + 1 ≤ ats.length) := hjl
      clear hb1 x1 x2
      generalize hA : Tk.wt (ats.take j) = S at *
      go_wp2_with (refine wpList_load_A13 (by rfl) _ rfl b (o + j * 2) rfl _ _ RX.out ?_)
      go_roundw
      case rel => exact ⟨j + 1, by go_num, by rw [HN.out]; go_num, HJ.out, HB1⟩
      case measure => have := HJ.out; simp [intOf]; omega
    · have hje : j = ats.length := by omega
      subst hje
      rw [List.take_length]
      have HB1 : Hid (Below w.heap.size w wr) := bel HB0.out HB.out
      go_wp2
      go_ret
      exact ⟨rfl, HB1.out⟩
end Go.Proofs.YtiodaahncadodaaGreatDoor
/- The contract of a writer's text. -/
namespace Go.Proofs.YtiodaahncadodaaGreatDoor
open Go.RowKit
def rawText (ns : List Nd) (n : Nd) : List UInt8 := if Tre.rawB ns n = true then n.text else Rf.enc false n.text
/-- What a call of a writer leaves. -/
def WrPost (b : Nat) (nv : Value) (w : World) (acc x : List UInt8) (e : Ending) (w' : World) : Prop :=
  e = .returned (.bool (decide (acc.length + x.length ≤ 262144))) ∧ Wr13 b w w' ∧ (acc.length + x.length ≤ 262144 → WrAt b w' nv (acc ++ x))
set_option maxHeartbeats 4000000 in
set_option maxRecDepth 100000 in
theorem wtext_any {ns : List Nd} {b : Nat} {w w0 : World} {nv : Value} {acc : List UInt8} (n : Nd) (aa : Option Addr) (ac : Nat) (ka : Option Addr) (kc : Nat) (h : WrAt b w nv acc) (hns : ReadsN w0 nv ns) (hbel : Below w0.heap.size w0 w) (hup : 0 ≤ n.up ∧ n.up < (ns.length : Int)) (hnl : ns.length ≤ 4096) (hx : n.text.length ≤ 262144) (ha : acc.length ≤ 262144) :
    Calls Tryz.prog 66 #[.pointer (some ⟨b, 0, none⟩), nodeV n aa ac ka kc] w (WrPost b nv w acc (rawText ns n)) := by
  obtain ⟨kd, nm, ats, tx, up, ks⟩ := n
  simp only at hup hx
  obtain ⟨u, rfl⟩ : ∃ u : Nat, up = (u : Int) := ⟨up.toNat, by omega⟩
  have hul : u < ns.length := by omega
  have hbl := h.lt
  have hb0 : Below w.heap.size w (w.alloc (.cells #[.int .i64 kd, .string (str nm), .slice aa ats.length ac, .string (str tx), .int .i64 (u : Int), .slice ka ks.length kc] 43)) := (Below.refl _ w).alloc (Nat.le_refl _) _
  have hh := heap_new w (.cells #[.int .i64 kd, .string (str nm), .slice aa ats.length ac, .string (str tx), .int .i64 (u : Int), .slice ka ks.length kc] 43)
  obtain ⟨W0, hW0⟩ : ∃ W, w.alloc (.cells #[.int .i64 kd, .string (str nm), .slice aa ats.length ac, .string (str tx), .int .i64 (u : Int), .slice ka ks.length kc] 43) = W := ⟨_, rfl⟩
  rw [hW0] at hb0 hh
  have HW0 := hideT hW0
  have hA0 := h.below hb0
  obtain ⟨a0, c0, rfl⟩ := hns.form
  obtain ⟨g, o, xa, xc, xk, xd, rfl, hcc, hr⟩ := ((hns.below hbel).below hb0).at hul
  have t3 := Lib.cell_of_heap hh 3
  have t4 := Lib.cell_of_heap hh 4
  have HRW : Hid (rawText ns ⟨kd, nm, ats, tx, (u : Int), ks⟩ = if (Tre.ndAt ns u).name = Tre.script ∨ (Tre.ndAt ns u).name = Tre.style then tx else Rf.enc false tx) := by
    show _ = _
    unfold rawText Tre.rawB
    simp only [Int.toNat_natCast, Int.natCast_nonneg, decide_true, Bool.true_and, Bool.or_eq_true, beq_iff_eq]
  have cnm := hr.c1
  generalize (Tre.ndAt ns u).name = un at *
  obtain ⟨p, v, hbk, hp1, hown, hne⟩ := hA0
  have cb := Lib.cell_of_heap hbk 0
  have HA : Hid (∀ W, Below W0.heap.size W0 W → WrAt b W (.slice (some ⟨g, o, none⟩) ns.length c0) acc) := fun W hW => (h.below hb0).below hW
  have HB0 := hideT hb0
  have HBL := hideT (Nat.le_of_lt hbl)
  have hE : (Rf.enc false tx).length ≤ 6 * tx.length := Rf.enc_len false tx
  have hbe : Bears ⟨3, [], [], false, tx⟩ := ⟨Nat.zero_le _, (by show (60 :: (([] : List UInt8) ++ Tk.tailText [] false)).length ≤ _; decide), (fun a h => by cases h), by show tx.length ≤ _; omega, Nat.zero_le _⟩
  have HTag := hideT (fun W => Tag_any ⟨3, [], [], false, tx⟩ (.slice none 0 0) W (.inl ⟨none, 0, rfl, rfl⟩) hbe)
  have HTT : Hid (Tk.tagText ⟨3, [], [], false, tx⟩ = Rf.enc false tx) := rfl
  have HPut := hideT (fun W s (hW : WrAt b W (.slice (some ⟨g, o, none⟩) ns.length c0) acc) (hs : s.length ≤ 1000000000) => put13 s hW ha hs)
  clear h hns hbel hr hbk hp1 hown hne hb0 hh hW0 hbe
  obtain ⟨S, hS1⟩ : ∃ S : World → Prop, ∀ W, S W ↔ ∃ m, W = W0.drewN m := ⟨_, fun _ => Iff.rfl⟩
  have hB0 : ∀ m, Below W0.heap.size W0 (W0.drewN m) := fun m => bel_quiet ⟨m, rfl⟩
  obtain ⟨tb, htb⟩ : ∃ tb, w.heap.size = tb := ⟨_, rfl⟩
  rw [htb] at t3 t4 hbl
  have HTB := hideT htb
  have hfin : Hid (∀ m W2 s, rawText ns ⟨kd, nm, ats, tx, (u : Int), ks⟩ = s → ∀ W1, Below W0.heap.size W0 W1 → Wr13 b W1 W2 → (acc.length + s.length ≤ 262144 → WrAt b W2 (.slice (some ⟨g, o, none⟩) ns.length c0) (acc ++ s)) → m = 0 → WrPost b (.slice (some ⟨g, o, none⟩) ns.length c0) w acc (rawText ns ⟨kd, nm, ats, tx, (u : Int), ks⟩) (.returned (.bool (decide (acc.length + s.length ≤ 262144)))) W2) := fun m W2 s hs W1 h1 h2 h3 _ => by
    rw [hs]
    exact ⟨rfl, (Wr13.of (bel HB0.out h1) HBL.out).trans h2, h3⟩
  by_cases h1 : un = Tre.script
  · have q1 : ((str un).toList == [115, 99, 114, 105, 112, 116]) = true := lit13_yes h1
    have HR : Hid (rawText ns ⟨kd, nm, ats, tx, (u : Int), ks⟩ = tx) := by show _ = _; rw [HRW.out, if_pos (.inl h1)]
    clear h1 HRW
    go_enter Tryz.func66, Tryz.ntmps66
    go_upto_region 1 with fail
    rw [HW0.out]
    (try rw [HTB.out])
    refine wp_region_held_drew (S := S) (by kernel_rfl) ((hS1 _).2 ⟨1, rfl⟩) (fun hS => ?_)
    refine takeH12 0 6 (.pointer (some ⟨b, 0, none⟩)) rfl rfl (by kernel_rfl) (by kernel_rfl) (by kernel_rfl) (fun _ _ _ h => h) (Or.inl ⟨by kernel_rfl, fun W _ => by go_simp⟩) hS ?_
    simp only [Act.put, List.setIfInBounds_toArray, List.set_cons_zero, List.set_cons_succ]
    refine takeH12 1 7 (.pointer (some ⟨b, 0, none⟩)) rfl rfl (by kernel_rfl) (by kernel_rfl) (by kernel_rfl) (fun _ _ _ h => h) (Or.inl ⟨by kernel_rfl, fun W _ => by go_simp⟩) hS ?_
    simp only [Act.put, List.setIfInBounds_toArray, List.set_cons_zero, List.set_cons_succ]
    refine takeH12 2 8 (.pointer (some ⟨b, 0, none⟩)) rfl rfl (by kernel_rfl) (by kernel_rfl) (by kernel_rfl) (fun _ _ _ h => h) (Or.inl ⟨by kernel_rfl, fun W _ => by go_simp⟩) hS ?_
    simp only [Act.put, List.setIfInBounds_toArray, List.set_cons_zero, List.set_cons_succ]
    refine takeH12 3 9 (.slice (some ⟨g, o, none⟩) ns.length c0) rfl rfl (by kernel_rfl) (by kernel_rfl) (by kernel_rfl) (fun _ _ _ h => h) (Or.inl ⟨by kernel_rfl, fun W hW => by obtain ⟨m, rfl⟩ := (hS1 W).1 hW; go_simp⟩) hS ?_
    simp only [Act.put, List.setIfInBounds_toArray, List.set_cons_zero, List.set_cons_succ]
    refine takeH12 4 10 (.pointer (some ⟨tb, 4, none⟩)) rfl rfl (by kernel_rfl) (by kernel_rfl) (by kernel_rfl) (fun _ _ _ h => h) (Or.inl ⟨by kernel_rfl, fun W _ => by go_simp⟩) hS ?_
    simp only [Act.put, List.setIfInBounds_toArray, List.set_cons_zero, List.set_cons_succ]
    refine takeH12 5 11 (.int .i64 (u : Int)) rfl rfl (by kernel_rfl) (by kernel_rfl) (by kernel_rfl) (fun _ _ _ h => h) (Or.inl ⟨by kernel_rfl, fun W hW => by obtain ⟨m, rfl⟩ := (hS1 W).1 hW; go_simp⟩) hS ?_
    simp only [Act.put, List.setIfInBounds_toArray, List.set_cons_zero, List.set_cons_succ]
    refine takeH12 6 12 (.pointer (some ⟨g, o + u * 6, none⟩)) rfl rfl (by kernel_rfl) (by kernel_rfl) (by kernel_rfl) (fun _ _ _ h => h) (Or.inl ⟨by kernel_rfl, fun W _ => by go_simp⟩) hS ?_
    simp only [Act.put, List.setIfInBounds_toArray, List.set_cons_zero, List.set_cons_succ]
    refine takeH12 7 13 (.pointer (some ⟨g, o + u * 6 + 1, none⟩)) rfl rfl (by kernel_rfl) (by kernel_rfl) (by kernel_rfl) (fun _ _ _ h => h) (Or.inl ⟨by kernel_rfl, fun W _ => by go_simp⟩) hS ?_
    simp only [Act.put, List.setIfInBounds_toArray, List.set_cons_zero, List.set_cons_succ]
    refine takeH12 8 14 (.string (str un)) rfl rfl (by kernel_rfl) (by kernel_rfl) (by kernel_rfl) (fun _ _ _ h => h) (Or.inl ⟨by kernel_rfl, fun W hW => by obtain ⟨m, rfl⟩ := (hS1 W).1 hW; go_simp⟩) hS ?_
    simp only [Act.put, List.setIfInBounds_toArray, List.set_cons_zero, List.set_cons_succ]
    refine takeH12 9 5 (.string (str un)) rfl rfl (by kernel_rfl) (by kernel_rfl) (by kernel_rfl) (fun _ _ _ h => h) (Or.inl ⟨by kernel_rfl, fun W _ => by go_simp⟩) hS ?_
    simp only [Act.put, List.setIfInBounds_toArray, List.set_cons_zero, List.set_cons_succ]
    refine wpAnyH_done (by kernel_rfl) ?_ _
    obtain ⟨mm, hmm⟩ := (hS1 _).1 hS
    rw [hmm]
    clear hS hmm
    go_wp2_with (go_at_call 67; refine (HPut.out _ tx (HA.out _ (hB0 mm)) (by omega)).mono ?_; rintro e w2 ⟨rfl, b2, k2⟩; have HQ := hideT (hfin.out 0 w2 tx HR.out _ (hB0 mm) b2 k2 rfl); clear b2 k2)
    go_ret
    exact HQ.out
  · have q1 : ((str un).toList == [115, 99, 114, 105, 112, 116]) = false := lit13_no h1
    by_cases h2 : un = Tre.style
    · have q2 : ((str un).toList == [115, 116, 121, 108, 101]) = true := lit13_yes h2
      have HR : Hid (rawText ns ⟨kd, nm, ats, tx, (u : Int), ks⟩ = tx) := by show _ = _; rw [HRW.out, if_pos (.inr h2)]
      clear h1 h2 HRW
      go_enter Tryz.func66, Tryz.ntmps66
      go_upto_region 1 with fail
      rw [HW0.out]
      (try rw [HTB.out])
      refine wp_region_held_drew (S := S) (by kernel_rfl) ((hS1 _).2 ⟨1, rfl⟩) (fun hS => ?_)
      refine takeH12 0 6 (.pointer (some ⟨b, 0, none⟩)) rfl rfl (by kernel_rfl) (by kernel_rfl) (by kernel_rfl) (fun _ _ _ h => h) (Or.inl ⟨by kernel_rfl, fun W _ => by go_simp⟩) hS ?_
      simp only [Act.put, List.setIfInBounds_toArray, List.set_cons_zero, List.set_cons_succ]
      refine takeH12 1 7 (.pointer (some ⟨b, 0, none⟩)) rfl rfl (by kernel_rfl) (by kernel_rfl) (by kernel_rfl) (fun _ _ _ h => h) (Or.inl ⟨by kernel_rfl, fun W _ => by go_simp⟩) hS ?_
      simp only [Act.put, List.setIfInBounds_toArray, List.set_cons_zero, List.set_cons_succ]
      refine takeH12 2 8 (.pointer (some ⟨b, 0, none⟩)) rfl rfl (by kernel_rfl) (by kernel_rfl) (by kernel_rfl) (fun _ _ _ h => h) (Or.inl ⟨by kernel_rfl, fun W _ => by go_simp⟩) hS ?_
      simp only [Act.put, List.setIfInBounds_toArray, List.set_cons_zero, List.set_cons_succ]
      refine takeH12 3 9 (.slice (some ⟨g, o, none⟩) ns.length c0) rfl rfl (by kernel_rfl) (by kernel_rfl) (by kernel_rfl) (fun _ _ _ h => h) (Or.inl ⟨by kernel_rfl, fun W hW => by obtain ⟨m, rfl⟩ := (hS1 W).1 hW; go_simp⟩) hS ?_
      simp only [Act.put, List.setIfInBounds_toArray, List.set_cons_zero, List.set_cons_succ]
      refine takeH12 4 10 (.pointer (some ⟨tb, 4, none⟩)) rfl rfl (by kernel_rfl) (by kernel_rfl) (by kernel_rfl) (fun _ _ _ h => h) (Or.inl ⟨by kernel_rfl, fun W _ => by go_simp⟩) hS ?_
      simp only [Act.put, List.setIfInBounds_toArray, List.set_cons_zero, List.set_cons_succ]
      refine takeH12 5 11 (.int .i64 (u : Int)) rfl rfl (by kernel_rfl) (by kernel_rfl) (by kernel_rfl) (fun _ _ _ h => h) (Or.inl ⟨by kernel_rfl, fun W hW => by obtain ⟨m, rfl⟩ := (hS1 W).1 hW; go_simp⟩) hS ?_
      simp only [Act.put, List.setIfInBounds_toArray, List.set_cons_zero, List.set_cons_succ]
      refine takeH12 6 12 (.pointer (some ⟨g, o + u * 6, none⟩)) rfl rfl (by kernel_rfl) (by kernel_rfl) (by kernel_rfl) (fun _ _ _ h => h) (Or.inl ⟨by kernel_rfl, fun W _ => by go_simp⟩) hS ?_
      simp only [Act.put, List.setIfInBounds_toArray, List.set_cons_zero, List.set_cons_succ]
      refine takeH12 7 13 (.pointer (some ⟨g, o + u * 6 + 1, none⟩)) rfl rfl (by kernel_rfl) (by kernel_rfl) (by kernel_rfl) (fun _ _ _ h => h) (Or.inl ⟨by kernel_rfl, fun W _ => by go_simp⟩) hS ?_
      simp only [Act.put, List.setIfInBounds_toArray, List.set_cons_zero, List.set_cons_succ]
      refine takeH12 8 14 (.string (str un)) rfl rfl (by kernel_rfl) (by kernel_rfl) (by kernel_rfl) (fun _ _ _ h => h) (Or.inl ⟨by kernel_rfl, fun W hW => by obtain ⟨m, rfl⟩ := (hS1 W).1 hW; go_simp⟩) hS ?_
      simp only [Act.put, List.setIfInBounds_toArray, List.set_cons_zero, List.set_cons_succ]
      refine takeH12 9 5 (.string (str un)) rfl rfl (by kernel_rfl) (by kernel_rfl) (by kernel_rfl) (fun _ _ _ h => h) (Or.inl ⟨by kernel_rfl, fun W _ => by go_simp⟩) hS ?_
      simp only [Act.put, List.setIfInBounds_toArray, List.set_cons_zero, List.set_cons_succ]
      refine wpAnyH_done (by kernel_rfl) ?_ _
      obtain ⟨mm, hmm⟩ := (hS1 _).1 hS
      rw [hmm]
      clear hS hmm
      go_wp2_with (go_at_call 67; refine (HPut.out _ tx (HA.out _ (hB0 mm)) (by omega)).mono ?_; rintro e w2 ⟨rfl, b2, k2⟩; have HQ := hideT (hfin.out 0 w2 tx HR.out _ (hB0 mm) b2 k2 rfl); clear b2 k2)
      go_ret
      exact HQ.out
    · have q2 : ((str un).toList == [115, 116, 121, 108, 101]) = false := lit13_no h2
      have HR : Hid (rawText ns ⟨kd, nm, ats, tx, (u : Int), ks⟩ = Rf.enc false tx) := by show _ = _; rw [HRW.out, if_neg (fun h => h.elim h1 h2)]
      clear h1 h2 HRW
      go_enter Tryz.func66, Tryz.ntmps66
      go_upto_region 1 with fail
      rw [HW0.out]
      (try rw [HTB.out])
      refine wp_region_held_drew (S := S) (by kernel_rfl) ((hS1 _).2 ⟨1, rfl⟩) (fun hS => ?_)
      refine takeH12 0 6 (.pointer (some ⟨b, 0, none⟩)) rfl rfl (by kernel_rfl) (by kernel_rfl) (by kernel_rfl) (fun _ _ _ h => h) (Or.inl ⟨by kernel_rfl, fun W _ => by go_simp⟩) hS ?_
      simp only [Act.put, List.setIfInBounds_toArray, List.set_cons_zero, List.set_cons_succ]
      refine takeH12 1 7 (.pointer (some ⟨b, 0, none⟩)) rfl rfl (by kernel_rfl) (by kernel_rfl) (by kernel_rfl) (fun _ _ _ h => h) (Or.inl ⟨by kernel_rfl, fun W _ => by go_simp⟩) hS ?_
      simp only [Act.put, List.setIfInBounds_toArray, List.set_cons_zero, List.set_cons_succ]
      refine takeH12 2 8 (.pointer (some ⟨b, 0, none⟩)) rfl rfl (by kernel_rfl) (by kernel_rfl) (by kernel_rfl) (fun _ _ _ h => h) (Or.inl ⟨by kernel_rfl, fun W _ => by go_simp⟩) hS ?_
      simp only [Act.put, List.setIfInBounds_toArray, List.set_cons_zero, List.set_cons_succ]
      refine takeH12 3 9 (.slice (some ⟨g, o, none⟩) ns.length c0) rfl rfl (by kernel_rfl) (by kernel_rfl) (by kernel_rfl) (fun _ _ _ h => h) (Or.inl ⟨by kernel_rfl, fun W hW => by obtain ⟨m, rfl⟩ := (hS1 W).1 hW; go_simp⟩) hS ?_
      simp only [Act.put, List.setIfInBounds_toArray, List.set_cons_zero, List.set_cons_succ]
      refine takeH12 4 10 (.pointer (some ⟨tb, 4, none⟩)) rfl rfl (by kernel_rfl) (by kernel_rfl) (by kernel_rfl) (fun _ _ _ h => h) (Or.inl ⟨by kernel_rfl, fun W _ => by go_simp⟩) hS ?_
      simp only [Act.put, List.setIfInBounds_toArray, List.set_cons_zero, List.set_cons_succ]
      refine takeH12 5 11 (.int .i64 (u : Int)) rfl rfl (by kernel_rfl) (by kernel_rfl) (by kernel_rfl) (fun _ _ _ h => h) (Or.inl ⟨by kernel_rfl, fun W hW => by obtain ⟨m, rfl⟩ := (hS1 W).1 hW; go_simp⟩) hS ?_
      simp only [Act.put, List.setIfInBounds_toArray, List.set_cons_zero, List.set_cons_succ]
      refine takeH12 6 12 (.pointer (some ⟨g, o + u * 6, none⟩)) rfl rfl (by kernel_rfl) (by kernel_rfl) (by kernel_rfl) (fun _ _ _ h => h) (Or.inl ⟨by kernel_rfl, fun W _ => by go_simp⟩) hS ?_
      simp only [Act.put, List.setIfInBounds_toArray, List.set_cons_zero, List.set_cons_succ]
      refine takeH12 7 13 (.pointer (some ⟨g, o + u * 6 + 1, none⟩)) rfl rfl (by kernel_rfl) (by kernel_rfl) (by kernel_rfl) (fun _ _ _ h => h) (Or.inl ⟨by kernel_rfl, fun W _ => by go_simp⟩) hS ?_
      simp only [Act.put, List.setIfInBounds_toArray, List.set_cons_zero, List.set_cons_succ]
      refine takeH12 8 14 (.string (str un)) rfl rfl (by kernel_rfl) (by kernel_rfl) (by kernel_rfl) (fun _ _ _ h => h) (Or.inl ⟨by kernel_rfl, fun W hW => by obtain ⟨m, rfl⟩ := (hS1 W).1 hW; go_simp⟩) hS ?_
      simp only [Act.put, List.setIfInBounds_toArray, List.set_cons_zero, List.set_cons_succ]
      refine takeH12 9 5 (.string (str un)) rfl rfl (by kernel_rfl) (by kernel_rfl) (by kernel_rfl) (fun _ _ _ h => h) (Or.inl ⟨by kernel_rfl, fun W _ => by go_simp⟩) hS ?_
      simp only [Act.put, List.setIfInBounds_toArray, List.set_cons_zero, List.set_cons_succ]
      refine wpAnyH_done (by kernel_rfl) ?_ _
      obtain ⟨mm, hmm⟩ := (hS1 _).1 hS
      rw [hmm]
      clear hS hmm
      go_wp2_with (first
        | (go_at_call 68; refine (HTag.out _).mono ?_; rintro e w1 ⟨rfl, b1⟩; have hb1 := (hB0 mm).trans (b1.mono (Nat.le_refl _)); rw [HTT.out])
        | (go_at_call 67; refine (HPut.out _ (Rf.enc false tx) (HA.out _ hb1) (by omega)).mono ?_; rintro e w2 ⟨rfl, b2, k2⟩; have HQ := hideT (hfin.out 0 w2 _ HR.out _ hb1 b2 k2 rfl); clear b2 k2))
      go_ret
      exact HQ.out
end Go.Proofs.YtiodaahncadodaaGreatDoor
