/- The contract of Start. -/
import Derived.Test.YtnnlmnjbmbflpaaDkJ
set_option linter.unusedVariables false
set_option linter.unusedSimpArgs false
namespace Go.Proofs.Ytnnlmnjbmbflpaa
open Go.RowKit
theorem lose_any {w : World} {b o : Nat} {X : Array Value} {c : Dk.Cn} {nv gv : Value} (h : Ct w b o X c nv gv) (hf : c.Fine) (k : Int) (hk : -9223372036854775808 ≤ k ∧ k ≤ 9223372036854775807) (cut : Bool) :
    Calls Try.prog 62 #[ptr b o, .int .i64 k, .bool cut] w fun e w' => e = .returned (.tuple #[]) ∧ CtPost w b o X nv gv (c.lose k cut) w' := by
  by_cases hg : c.gone = []
  · exact lose_stay h hf k hk cut (.inl hg)
  · cases cut with
    | true => exact lose_stay h hf k hk true (.inr rfl)
    | false => exact lose_back h hf k hg
abbrev lossV (k0 k1 : Int) (c0 c1 : Bool) : Value := .agg #[.int .i64 k0, .int .i64 k1, .bool c0, .bool c1]
abbrev lossX (k0 k1 : Int) (c0 c1 : Bool) : Array Value := #[.int .i64 k0, .int .i64 k1, .bool c0, .bool c1]
theorem more_more {T : Nat → Prop} {w w1 w2 : World} {b : Nat} {d : Dk.D} (h : DskE w2 (More (More T w w1) w1 w2) b d) (h1 : w.heap.size ≤ w1.heap.size) (h2 : w1.heap.size ≤ w2.heap.size) : DskE w2 (More T w w2) b d := h.mono (fun k hk => by
  rcases hk with (hk | hk) | hk
  · exact .inl hk
  · exact .inr ⟨hk.1, by omega⟩
  · exact .inr ⟨by omega, hk.2⟩) (fun k hk => by
  rcases hk with hk | hk
  · exact h.low k (.inl (.inl hk))
  · exact hk.2)
theorem own_more {T : Nat → Prop} {w w1 w2 : World} (h : Own T w w1) (h2 : Own (More T w w1) w1 w2) : Own T w w2 := h.trans h2 (fun k hk => by
  rcases hk with hk | hk
  · exact .inl hk
  · exact .inr hk.1)
set_option maxHeartbeats 2000000 in
set_option maxRecDepth 100000 in
theorem Start_no {w : World} {v : Value} (h : Made w v false) (k0 k1 : Int) (c0 c1 : Bool) :
    Calls Try.prog 31 #[v, lossV k0 k1 c0 c1] w fun e w' => e = .returned (.int .i64 2) ∧ Below w.heap.size w w' := by
  have hB : Below w.heap.size w (w.alloc (.cells (lossX k0 k1 c0 c1) 70)) := (Below.refl _ w).alloc (Nat.le_refl _) _
  have H := isMade_any (h.below hB)
  have HB : Hid (Below w.heap.size w (w.alloc (.cells (lossX k0 k1 c0 c1) 70))) := hB
  clear h hB
  go_enter Try.func31, Try.ntmps31
  go_wp2_with (go_at_call 52; refine H.mono ?_; rintro e w2 ⟨rfl, he⟩; subst he)
  go_ret
  exact ⟨rfl, HB.out⟩
set_option maxHeartbeats 4000000 in
set_option maxRecDepth 100000 in
theorem Start_yes {w : World} {T : Nat → Prop} {b : Nat} {d : Dk.D} {n0 g0 n1 g1 : Value} (h : Dsk w T b d n0 g0 n1 g1) (k0 k1 : Int) (c0 c1 : Bool) (hk0 : -9223372036854775808 ≤ k0 ∧ k0 ≤ 9223372036854775807) (hk1 : -9223372036854775808 ≤ k1 ∧ k1 ≤ 9223372036854775807) :
    Calls Try.prog 31 #[ptr b 0, lossV k0 k1 c0 c1] w (ActPost w T b (d.start k0 k1 c0 c1)) := by
  have hB : Below w.heap.size w (w.alloc (.cells (lossX k0 k1 c0 c1) 70)) := (Below.refl _ w).alloc (Nat.le_refl _) _
  have hL := heap_new w (.cells (lossX k0 k1 c0 c1) 70)
  have h1 := h.below hB
  have H := isMade_any h1.made
  have hon : (w.alloc (.cells (lossX k0 k1 c0 c1) 70)).cell? ⟨b, 1, none⟩ = some (.bool d.on) := h1.dat.cell 1
  have hT : ¬ T w.heap.size := fun hx => absurd (h.low _ hx) (Nat.lt_irrefl _)
  have hs1 : (w.alloc (.cells (lossX k0 k1 c0 c1) 70)).heap.size = w.heap.size + 1 := size_alloc _ _
  have HS1 : Hid ((w.alloc (.cells (lossX k0 k1 c0 c1) 70)).heap.size = w.heap.size + 1) := hs1
  clear hs1
  cases hd : d.on with
  | true =>
    rw [hd] at hon
    have HP : Hid (ActPost w T b (d.start k0 k1 c0 c1) (.returned (.int .i64 13)) (w.alloc (.cells (lossX k0 k1 c0 c1) 70))) := by
      show ActPost _ _ _ _ _ _
      unfold Dk.D.start
      rw [if_pos hd]
      exact ⟨rfl, DskE.more (w := w) ⟨_, _, _, _, h1⟩ w, Own.of hB⟩
    clear h h1 hB hL hd
    go_enter Try.func31, Try.ntmps31
    go_wp2_with (go_at_call 52; refine H.mono ?_; rintro e w2 ⟨rfl, he⟩; subst he)
    go_ret
    exact HP.out
  | false =>
    rw [hd] at hon
    have HD : Hid (d.start k0 k1 c0 c1 = (0, { d with a := d.a.lose k0 c0, b := d.b.lose k1 c1, on := true, fuse := -1 })) := by
      show d.start k0 k1 c0 c1 = _
      unfold Dk.D.start
      rw [if_neg (by rw [hd]; decide)]
    have HB : Hid (Below w.heap.size w (w.alloc (.cells (lossX k0 k1 c0 c1) 70))) := hB
    have HH : Hid (Dsk (w.alloc (.cells (lossX k0 k1 c0 c1) 70)) T b d n0 g0 n1 g1) := h1
    have HT : Hid (¬ T w.heap.size) := hT
    have HL : Hid ((w.alloc (.cells (lossX k0 k1 c0 c1) 70)).heap[w.heap.size]? = some (.cells (lossX k0 k1 c0 c1) 70 (0, 0))) := hL
    clear h h1 hB hT hL hd
    go_enter Try.func31, Try.ntmps31
    go_wp2_with (go_at_call 52; refine H.mono ?_; rintro e w2 ⟨rfl, he⟩; subst he)
    generalize hW : w.alloc (.cells (lossX k0 k1 c0 c1) 70) = W at *
    clear hon H
    go_loopw [13] (fun i wr => ((i = .int .i64 0 ∧ DskE wr (More T W wr) b d) ∨ (i = .int .i64 1 ∧ DskE wr (More T W wr) b { d with a := d.a.lose k0 c0 }) ∨ (i = .int .i64 2 ∧ DskE wr (More T W wr) b { d with a := d.a.lose k0 c0, b := d.b.lose k1 c1 })) ∧ Own T W wr ∧ wr.heap[w.heap.size]? = some (.cells (lossX k0 k1 c0 c1) 70 (0, 0))) (fun i _ => 2 - (intOf i).toNat)
    case atStart => exact ⟨.inl ⟨rfl, DskE.more (w := W) ⟨_, _, _, _, HH.out⟩ W⟩, Own.refl _ _, HL.out⟩
    case round =>
      obtain ⟨h1, hO, hl⟩ := hrel
      have l0 : wr.cell? ⟨w.heap.size, 0, none⟩ = some (.int .i64 k0) := Lib.cell_of_heap hl 0
      have l1 : wr.cell? ⟨w.heap.size, 1, none⟩ = some (.int .i64 k1) := Lib.cell_of_heap hl 1
      have l2 : wr.cell? ⟨w.heap.size, 2, none⟩ = some (.bool c0) := Lib.cell_of_heap hl 2
      have l3 : wr.cell? ⟨w.heap.size, 3, none⟩ = some (.bool c1) := Lib.cell_of_heap hl 3
      have HLL : Hid (wr.heap[w.heap.size]? = some (.cells (lossX k0 k1 c0 c1) 70 (0, 0))) := hl
      clear hl
      rcases h1 with ⟨rfl, hE⟩ | ⟨rfl, hE⟩ | ⟨rfl, hE⟩
      · obtain ⟨m0, q0, m1, q1, hD⟩ := hE
        have hD2 := hD.below ((Below.refl _ wr).drew)
        have HC := lose_any hD2.ct0 hD2.fine.a k0 hk0 c0
        have HF : Hid (∀ w', CtPost wr.drew b 4 (xD d m0 q0 m1 q1) m0 q0 (d.a.lose k0 c0) w' → DskE w' (More (More T W wr) wr.drew w') b { d with a := d.a.lose k0 c0 } ∧ Own (More T W wr) wr.drew w') := fun w' hp => hD2.lift0 hp (hD2.fine.a.lose k0 c0)
        clear hD hD2
        go_wp2
        go_region_with (go_at_call 62; refine HC.mono ?_; rintro e w2 ⟨rfl, hp⟩)
        all_goals (
          obtain ⟨hE2, hO2⟩ := HF.out w2 hp
          have hsz : wr.heap.size ≤ w2.heap.size := hO2.size
          have hE3 := more_more (w := W) hE2 hO.size hsz
          have hO3 := own_more hO (w2 := w2) ⟨hO2.os, hO2.tape, hO2.output, hO2.size, hO2.block⟩
          have hl2 : w2.heap[w.heap.size]? = some (.cells (lossX k0 k1 c0 c1) 70 (0, 0)) := (hO2.block w.heap.size (Array.getElem?_eq_some_iff.1 HLL.out).1 (fun hx => by
            rcases hx with hx | hx
            · exact HT.out hx
            · have := HS1.out
              omega)).trans HLL.out
          clear hp hE2 hO2 HF HC
          go_wp2
          exact ⟨⟨.inr (.inl ⟨rfl, hE3⟩), hO3, hl2⟩, by simp [intOf]⟩)
      · obtain ⟨m0, q0, m1, q1, hD⟩ := hE
        have hD2 := hD.below ((Below.refl _ wr).drew)
        have HC : Calls _ _ _ _ _ := lose_any hD2.ct1 hD2.fine.b k1 hk1 c1
        have HF : Hid (∀ w', CtPost wr.drew b 7 (xD { d with a := d.a.lose k0 c0 } m0 q0 m1 q1) m1 q1 (d.b.lose k1 c1) w' → DskE w' (More (More T W wr) wr.drew w') b { d with a := d.a.lose k0 c0, b := d.b.lose k1 c1 } ∧ Own (More T W wr) wr.drew w') := fun w' hp => hD2.lift1 hp (hD2.fine.b.lose k1 c1)
        clear hD hD2
        go_wp2
        go_region_with (go_at_call 62; refine HC.mono ?_; rintro e w2 ⟨rfl, hp⟩)
        all_goals (
          obtain ⟨hE2, hO2⟩ := HF.out w2 hp
          have hsz : wr.heap.size ≤ w2.heap.size := hO2.size
          have hE3 := more_more (w := W) hE2 hO.size hsz
          have hO3 := own_more hO (w2 := w2) ⟨hO2.os, hO2.tape, hO2.output, hO2.size, hO2.block⟩
          have hl2 : w2.heap[w.heap.size]? = some (.cells (lossX k0 k1 c0 c1) 70 (0, 0)) := (hO2.block w.heap.size (Array.getElem?_eq_some_iff.1 HLL.out).1 (fun hx => by
            rcases hx with hx | hx
            · exact HT.out hx
            · have := HS1.out
              omega)).trans HLL.out
          clear hp hE2 hO2 HF HC
          go_wp2
          exact ⟨⟨.inr (.inr ⟨rfl, hE3⟩), hO3, hl2⟩, by simp [intOf]⟩)
      · obtain ⟨m0, q0, m1, q1, hD⟩ := hE
        have s1 : wr.cell? ⟨b, 1, none⟩ = some (.bool d.on) := hD.dat.cell 1
        have s2 : wr.cell? ⟨b, 10, none⟩ = some (.int .i64 d.fuse) := hD.dat.cell 10
        have f1 := hD.dat.free 1
        have f2 := hD.dat.free 10
        have e1 := post_set (i := 1) (v := .bool true) (d' := { d with a := d.a.lose k0 c0, b := d.b.lose k1 c1, on := true }) hO.size ⟨_, _, _, _, hD⟩ hO (fun _ _ _ _ => rfl) rfl rfl (fun hf => ⟨hf.a, hf.b, hf.room, hf.least, hf.root, hf.fuse⟩)
        have e2 := post_set (i := 10) (v := .int .i64 (-1)) (d' := { d with a := d.a.lose k0 c0, b := d.b.lose k1 c1, on := true, fuse := -1 }) e1.2.size e1.1 e1.2 (fun _ _ _ _ => rfl) rfl rfl (fun hf => ⟨hf.a, hf.b, hf.room, hf.least, hf.root, ⟨by simp, by simp⟩⟩)
        have HE : Hid (DskE ((wr.setCell ⟨b, 1, none⟩ (.bool true)).setCell ⟨b, 10, none⟩ (.int .i64 (-1))) (More T W ((wr.setCell ⟨b, 1, none⟩ (.bool true)).setCell ⟨b, 10, none⟩ (.int .i64 (-1)))) b { d with a := d.a.lose k0 c0, b := d.b.lose k1 c1, on := true, fuse := -1 } ∧ Own T W ((wr.setCell ⟨b, 1, none⟩ (.bool true)).setCell ⟨b, 10, none⟩ (.int .i64 (-1)))) := e2
        clear e1 e2 hD
        go_wp2
        go_ret
        rw [HD.out]
        exact ActPost.ahead ⟨rfl, HE.out⟩ HB.out
end Go.Proofs.Ytnnlmnjbmbflpaa
