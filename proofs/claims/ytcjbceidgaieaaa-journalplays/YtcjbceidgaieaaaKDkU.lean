/- The contracts of the document's Sync and Append. -/
import Derived.Test.YtcjbceidgaieaaaKDkT
set_option linter.unusedVariables false
set_option linter.unusedSimpArgs false
namespace Go.Proofs.Ytcjbceidgaieaaa
open Go.RowKit
theorem RQ.drew {W : World} {P : Nat → Prop} {rb : Nat} {v : Value} {l : List UInt8} (h : RQ W P rb v l) : RB W.drew v l := h.rd.keep (fun _ _ _ => rfl)
theorem below_grown {w w' : World} (h : w.grownBy w' none) : Below w.heap.size w w' := ⟨h.os, h.tape, h.output, h.size, fun k hk => h.block k hk (by simp)⟩
theorem own_twoR {w5 : World} {v1 v2 : Value} {l : List UInt8} {n m : Nat} (h : OwnsBytes w5 0 v2 l) (h1 : v2.ownBlock = v1.ownBlock ∨ v2.ownBlock = some m) (h2 : v1.ownBlock = none ∨ v1.ownBlock = some n) (hn : n ≤ m) : OwnsBytes w5 n v2 l := h.base (fun k e => by
  rcases h1 with e3 | e3
  · rw [e3] at e
    rcases h2 with e4 | e4
    · rw [e4] at e; cases e
    · rw [e4] at e; cases e; exact Nat.le_refl _
  · rw [e3] at e; cases e; exact hn)
/-- A file of the document's disk is longer. -/
theorem RAt.app0 {W w3 : World} {P : Nat → Prop} {rb : Nat} {d : Dk.D} {fv : Int} {b0 s0 b1 s1 v : Value} {l : List UInt8} (h : RAt W P rb d fv b0 s0 b1 s1) (hP : ∀ k, W.heap.size ≤ k → P k) (hB : Below W.heap.size W w3) (hv : OwnsBytes w3 W.heap.size v (d.a.now ++ l)) (hl : d.a.now.length + l.length ≤ 1048576) : RAt (w3.setCell ⟨rb, 0, none⟩ v) P rb { d with a := d.a.app l } fv v s0 b1 s1 := by
  have h3 := h.below hB
  have hk : ∀ k, k < w3.heap.size → P k → k ≠ rb → (w3.setCell ⟨rb, 0, none⟩ v).heap[k]? = w3.heap[k]? := fun k _ _ hk => Below.heap_setCell _ _ _ _ hk
  have hs : w3.heap.size ≤ (w3.setCell ⟨rb, 0, none⟩ v).heap.size := by rw [setCell_size]; exact Nat.le_refl _
  have hfa := h.fine.a
  have hlt := h.lt
  refine ⟨heap_set h3.blk v, ⟨(hv.keep (fun k e _ => Below.heap_setCell _ _ _ _ (fun e2 => by have e3 : k = rb := e2; have := (hv.lt e).1; omega))).reads, fun k e => ⟨hP k (hv.lt e).1, by have := (hv.lt e).1; omega, by rw [setCell_size]; exact (hv.lt e).2⟩⟩, ?_, h3.q2.keep hs hk, h3.q3.keep hs hk, ⟨⟨by have := hfa.whole; show d.a.whole ≤ (d.a.now ++ l).length; simp; omega, by show (d.a.now ++ l).length ≤ _; simp; omega, hfa.gone⟩, h.fine.b, h.fine.room, h.fine.least, h.fine.root, h.fine.fuse⟩, h.fz, h.fb⟩
  rw [show ({ d with a := d.a.app l } : Dk.D).a.sure = d.a.sure from Dk.sure_app _ hfa l]
  exact h3.q1.keep hs hk
theorem RAt.app1 {W w3 : World} {P : Nat → Prop} {rb : Nat} {d : Dk.D} {fv : Int} {b0 s0 b1 s1 v : Value} {l : List UInt8} (h : RAt W P rb d fv b0 s0 b1 s1) (hP : ∀ k, W.heap.size ≤ k → P k) (hB : Below W.heap.size W w3) (hv : OwnsBytes w3 W.heap.size v (d.b.now ++ l)) (hl : d.b.now.length + l.length ≤ 1048576) : RAt (w3.setCell ⟨rb, 3, none⟩ v) P rb { d with b := d.b.app l } fv b0 s0 v s1 := by
  have h3 := h.below hB
  have hk : ∀ k, k < w3.heap.size → P k → k ≠ rb → (w3.setCell ⟨rb, 3, none⟩ v).heap[k]? = w3.heap[k]? := fun k _ _ hk => Below.heap_setCell _ _ _ _ hk
  have hs : w3.heap.size ≤ (w3.setCell ⟨rb, 3, none⟩ v).heap.size := by rw [setCell_size]; exact Nat.le_refl _
  have hfa := h.fine.b
  have hlt := h.lt
  refine ⟨heap_set h3.blk v, h3.q0.keep hs hk, h3.q1.keep hs hk, ⟨(hv.keep (fun k e _ => Below.heap_setCell _ _ _ _ (fun e2 => by have e3 : k = rb := e2; have := (hv.lt e).1; omega))).reads, fun k e => ⟨hP k (hv.lt e).1, by have := (hv.lt e).1; omega, by rw [setCell_size]; exact (hv.lt e).2⟩⟩, ?_, ⟨h.fine.a, ⟨by have := hfa.whole; show d.b.whole ≤ (d.b.now ++ l).length; simp; omega, by show (d.b.now ++ l).length ≤ _; simp; omega, hfa.gone⟩, h.fine.room, h.fine.least, h.fine.root, h.fine.fuse⟩, h.fz, h.fb⟩
  rw [show ({ d with b := d.b.app l } : Dk.D).b.sure = d.b.sure from Dk.sure_app _ hfa l]
  exact h3.q3.keep hs hk
set_option maxHeartbeats 4000000 in
set_option maxRecDepth 100000 in
theorem RSync_any {W : World} {P : Nat → Prop} {rb : Nat} {d : Dk.D} (h : RE W P rb d) (hP : ∀ k, W.heap.size ≤ k → P k) (f : Int)  :
    Calls Try.prog 47 #[ptr rb 0, .int .i64 f] W (RPost W P rb (d.sync f)) := by
  obtain ⟨fv, b0, s0, b1, s1, h⟩ := h
  have hA := Rask_any h f
  by_cases hw : d.why f = 0
  · have hB := Rburns_any h (Dk.D.why_file hw).2
    have hff := (Dk.D.why_file hw).1
    have HD : Hid (d.sync f = (d.burns.2, if d.burns.1 = true then d.burnt.put f (d.burnt.at f).settle else d.burnt)) := act_burn hw (fun x => by unfold Dk.D.put Dk.D.at; split <;> rfl) ⟨Dk.put_fuse _ _ _, Dk.put_on _ _ _⟩
    rw [HD.out]
    rw [hw] at hA
    clear h hw hP
    generalize d.burns.2 = q at *
    generalize d.burnt = e at *
    cases hb : d.burns.1 with
    | true =>
      rw [hb] at hB
      simp only [if_true]
      rcases hff with rfl | rfl
      · unfold RPost
        go_enter Try.func47, Try.ntmps47
        go_wp2_with (first
          | (go_at_call 71; refine hA.mono ?_; rintro e w2 ⟨rfl, he⟩; replace he := he.symm; subst he)
          | (go_at_call 72; refine hB.mono ?_; rintro e1 w3 ⟨rfl, ⟨fv', h3⟩, hO3⟩; obtain ⟨xa, xc, hxf⟩ := h3.q0.rd.form; have HE : Hid (RE ((w3.setCell ⟨rb, 1, none⟩ b0).setCell ⟨rb, 2, none⟩ (.int .i64 (-1))) P rb { e with a := e.a.settle } ∧ Own (fun k => k = rb) W ((w3.setCell ⟨rb, 1, none⟩ b0).setCell ⟨rb, 2, none⟩ (.int .i64 (-1)))) := ⟨⟨_, _, _, _, _, h3.settle0⟩, (hO3.trans (Own.set (T := fun k => k = rb) rfl w3 1 _) (fun k hk => .inl hk)).trans (Own.set (T := fun k => k = rb) rfl _ 2 _) (fun k hk => .inl hk)⟩; rw [hxf] at HE; have c0 : w3.cell? ⟨rb, 0, none⟩ = some (.slice xa e.a.now.length xc) := by { rw [← hxf]; exact h3.cell 0 }; have c1 : ∃ v, w3.cell? ⟨rb, 1, none⟩ = some v := ⟨_, h3.cell 1⟩; obtain ⟨vz, c1⟩ := c1; have c2 : w3.cell? ⟨rb, 2, none⟩ = some (.int .i64 e.a.cutv) := h3.cell 2; have f1 := h3.free 1; have f2 := h3.free 2; clear h3 hO3 hxf))
        go_region
        generalize (w3.setCell ⟨rb, 1, none⟩ (.slice xa e.a.now.length xc)).setCell ⟨rb, 2, none⟩ (.int .i64 (-1)) = wn at *
        go_wp2
        go_ret
        exact ⟨rfl, HE.out.1.below ((Below.refl _ _).drew), HE.out.2.trans (Own.of (T := fun k => k = rb) ((Below.refl _ wn).drew)) (fun k hk => .inl hk)⟩
      · unfold RPost
        go_enter Try.func47, Try.ntmps47
        go_wp2_with (first
          | (go_at_call 71; refine hA.mono ?_; rintro e w2 ⟨rfl, he⟩; replace he := he.symm; subst he)
          | (go_at_call 72; refine hB.mono ?_; rintro e1 w3 ⟨rfl, ⟨fv', h3⟩, hO3⟩; obtain ⟨xa, xc, hxf⟩ := h3.q2.rd.form; have HE : Hid (RE ((w3.setCell ⟨rb, 4, none⟩ b1).setCell ⟨rb, 5, none⟩ (.int .i64 (-1))) P rb { e with b := e.b.settle } ∧ Own (fun k => k = rb) W ((w3.setCell ⟨rb, 4, none⟩ b1).setCell ⟨rb, 5, none⟩ (.int .i64 (-1)))) := ⟨⟨_, _, _, _, _, h3.settle1⟩, (hO3.trans (Own.set (T := fun k => k = rb) rfl w3 4 _) (fun k hk => .inl hk)).trans (Own.set (T := fun k => k = rb) rfl _ 5 _) (fun k hk => .inl hk)⟩; rw [hxf] at HE; have c0 : w3.cell? ⟨rb, 3, none⟩ = some (.slice xa e.b.now.length xc) := by { rw [← hxf]; exact h3.cell 3 }; have c1 : ∃ v, w3.cell? ⟨rb, 4, none⟩ = some v := ⟨_, h3.cell 4⟩; obtain ⟨vz, c1⟩ := c1; have c2 : w3.cell? ⟨rb, 5, none⟩ = some (.int .i64 e.b.cutv) := h3.cell 5; have f1 := h3.free 4; have f2 := h3.free 5; clear h3 hO3 hxf))
        go_region
        generalize (w3.setCell ⟨rb, 4, none⟩ (.slice xa e.b.now.length xc)).setCell ⟨rb, 5, none⟩ (.int .i64 (-1)) = wn at *
        go_wp2
        go_ret
        exact ⟨rfl, HE.out.1.below ((Below.refl _ _).drew), HE.out.2.trans (Own.of (T := fun k => k = rb) ((Below.refl _ wn).drew)) (fun k hk => .inl hk)⟩
    | false =>
      rw [hb] at hB
      simp only [Bool.false_eq_true, if_false]
      unfold RPost
      go_enter Try.func47, Try.ntmps47
      go_wp2_with (first
        | (go_at_call 71; refine hA.mono ?_; rintro e w2 ⟨rfl, he⟩; replace he := he.symm; subst he)
        | (go_at_call 72; refine hB.mono ?_; rintro e1 w3 ⟨rfl, ⟨fv', h3⟩, hO3⟩; have HE : Hid (RE w3 P rb e ∧ Own (fun k => k = rb) W w3) := ⟨⟨_, _, _, _, _, h3⟩, hO3⟩; clear h3 hO3))
      go_ret
      exact ⟨rfl, HE.out⟩
  · have HE : Hid (RPost W P rb (d.sync f) (.returned (.int .i64 (d.why f))) W) := by
      show RPost _ _ _ _ _ _
      unfold Dk.D.sync
      rw [act_why hw]
      exact ⟨rfl, ⟨_, _, _, _, _, h⟩, Own.refl _ _⟩
    have hyb : (d.why f == 0) = false := by simpa using hw
    clear h
    generalize d.why f = y at *
    go_enter Try.func47, Try.ntmps47
    go_wp2_with (go_at_call 71; refine hA.mono ?_; rintro e w2 ⟨rfl, he⟩; replace he := he.symm; subst he)
    go_ret
    exact HE.out
set_option maxHeartbeats 4000000 in
set_option maxRecDepth 100000 in
theorem RAppend_any {W : World} {P : Nat → Prop} {rb : Nat} {d : Dk.D} (h : RE W P rb d) (hP : ∀ k, W.heap.size ≤ k → P k) (f : Int) (y : Value) (l : List UInt8) (hy : RB W y l) (hyk : ∀ w', Own (fun k => k = rb) W w' → RB w' y l) (hl : l.length ≤ maxLen) :
    Calls Try.prog 70 #[ptr rb 0, .int .i64 f, y] W (RPost W P rb (d.append f l)) := by
  obtain ⟨fv, b0, s0, b1, s1, h⟩ := h
  have hA := Rask_any h f
  obtain ⟨ya, yc, rfl⟩ := hy.form
  unfold maxLen at hl
  by_cases hw : d.why f = 0
  · have hLf := RLeft_any h
    have HH := hide9 h
    have HW := hide9 hw
    have HYK : Hid (∀ w', Own (fun k => k = rb) W w' → RB w' (.slice ya l.length yc) l) := fun w' hO => hyk w' hO
    have hff := (Dk.D.why_file hw).1
    rw [hw] at hA
    clear h hw hy
    by_cases hlf : d.left < l.length
    · have HE : Hid (∀ w', Below W.heap.size W w' → RPost W P rb (d.append f l) (.returned (.int .i64 11)) w') := fun w' hB => by
        unfold Dk.D.append
        rw [if_pos hlf, act_ask HW.out (by decide)]
        exact ⟨rfl, ⟨_, _, _, _, _, HH.out.below hB⟩, Own.of hB⟩
      generalize d.left = left at *
      go_enter Try.func70, Try.ntmps70
      go_wp2_with (first
        | (go_at_call 71; refine hA.mono ?_; rintro e w2 ⟨rfl, he⟩; replace he := he.symm; subst he)
        | (go_at_call 28; refine hLf.mono ?_; rintro e w2 ⟨rfl, hB2⟩))
      go_ret
      exact HE.out _ hB2
    · have HD : Hid (d.append f l = (d.burns.2, if d.burns.1 = true then d.burnt.put f ((d.burnt.at f).app l) else d.burnt)) := by
        show d.append f l = _
        unfold Dk.D.append
        rw [if_neg hlf]
        exact act_burn HW.out (fun x => by unfold Dk.D.put Dk.D.at; split <;> rfl) ⟨Dk.put_fuse _ _ _, Dk.put_on _ _ _⟩
      rw [HD.out]
      have HLN : Hid ((d.burnt.at f).now.length + l.length ≤ 1048576) := by
        show (d.burnt.at f).now.length + l.length ≤ 1048576
        rw [at_burnt]
        have h4 := HH.out.fine.room
        have h5 : ((d.at f).now.length : Int) ≤ d.room - d.left := by unfold Dk.D.left Dk.D.at; split <;> omega
        omega
      have HB : Hid (∀ W', Below W.heap.size W W' → Calls Try.prog 72 #[ptr rb 0] W' fun e w' => e = .returned (.tuple #[.bool d.burns.1, .int .i64 d.burns.2]) ∧ (∃ fv', RAt w' P rb d.burnt fv' b0 s0 b1 s1) ∧ Own (fun k => k = rb) W' w') := fun W' hB' => Rburns_any (HH.out.below hB') (Dk.D.why_file HW.out).2
      clear HH HW
      generalize d.left = left at *
      generalize d.burns.2 = q at *
      generalize d.burnt = e at *
      cases hb : d.burns.1 with
      | true =>
        rw [hb] at HB
        simp only [if_true]
        rcases hff with rfl | rfl
        · unfold RPost
          go_enter Try.func70, Try.ntmps70
          go_wp2_with (first
            | (go_at_call 71; refine hA.mono ?_; rintro e w2 ⟨rfl, he⟩; replace he := he.symm; subst he)
            | (go_at_call 28; refine hLf.mono ?_; rintro e0 w2 ⟨rfl, hB2⟩; have hBn := HB.out w2 hB2)
            | (go_at_call 72; refine hBn.mono ?_; rintro e1 w3 ⟨rfl, ⟨fv', h3⟩, hO3⟩; obtain ⟨xa, xc, hxf⟩ := h3.q0.rd.form; have H3 := hide9 h3; have HO3 := hide9 hO3; have c0 : w3.cell? ⟨rb, 0, none⟩ = some (.slice xa e.a.now.length xc) := by { rw [← hxf]; exact h3.cell 0 }; have hx3 := h3.q0.drew; rw [hxf] at hx3; have hO2 : Own (fun k => k = rb) W w3 := (Own.of hB2).trans hO3 (fun k hk => .inl hk); have HO2 := hide9 hO2; clear h3 hO3 hBn hO2))
          have hyw : RB w3 (.slice ya l.length yc) l := HYK.out w3 HO2.out
          have HP3 : Hid (∀ k, w3.heap.size ≤ k → P k) := fun k hk => hP k (Nat.le_trans HO2.out.size hk)
          have hll : e.a.now.length + l.length ≤ 1048576 := HLN.out
          have hl1 : ([] : List UInt8).length + e.a.now.length ≤ 1000000000 := by simp; omega
          have hl2 : e.a.now.length + l.length ≤ 1000000000 := by omega
          have hyd : RB w3.drew (.slice ya l.length yc) l := hyw.keep (fun _ _ _ => rfl)
          have HYD := hide9 hyd
          have hrl : rb < w3.heap.size := H3.out.lt
          clear hyd hyw
          go_region_law (first
            | (refine step_append_RB rfl (.const (.slice none 0 0)) (.tmp 35) rfl (.slice none 0 0) [] rfl (OwnsBytes.nil _ 0) (.slice xa e.a.now.length xc) _ rfl hx3 hl1 ?_; intro v1 w4 g1 g2 g3; have hB4 := below_grown g2; have hy4 := HYD.out.below hB4; have c04 := (hB4.cell (p := ⟨rb, 0, none⟩) hrl).trans c0; have f04 := (hB4.frozen (p := ⟨rb, 0, none⟩) hrl).trans (H3.out.free 0); have g1' : OwnsBytes w4 0 v1 e.a.now := g1; obtain ⟨va, vc, hvf⟩ := g1'.form; subst hvf; have G1 : Hid (OwnsBytes w4 0 (.slice va e.a.now.length vc) e.a.now) := g1'; have G3 : Hid ((Value.slice va e.a.now.length vc).ownBlock = none ∨ (Value.slice va e.a.now.length vc).ownBlock = some w3.heap.size) := g3; clear g2 g1 g3 g1')
            | (refine step_append_RB rfl (.tmp 36) (.tmp 37) rfl (.slice va e.a.now.length vc) _ rfl G1.out (.slice ya l.length yc) _ rfl hy4 hl2 ?_; intro v2 w5 g4 g5 g6; obtain ⟨va2, vc2, hvf2⟩ := g4.form1; have hB5 : Below w3.heap.size w3 w5 := (bel ((Below.refl _ w3).drew) hB4).trans ⟨g5.os, g5.tape, g5.output, g5.size, fun k hk => g5.block k (Nat.lt_of_lt_of_le hk hB4.size) (fun e2 => by rcases G3.out with e3 | e3 <;> rw [e3] at e2 <;> cases e2; exact Nat.lt_irrefl _ hk)⟩; have c05 := (hB5.cell (p := ⟨rb, 0, none⟩) hrl).trans c0; have f05 := (hB5.frozen (p := ⟨rb, 0, none⟩) hrl).trans (H3.out.free 0); have hv2 : OwnsBytes w5 w3.heap.size v2 (e.a.now ++ l) := own_twoR g4 g6 G3.out hB4.size; have HE : Hid (RE (w5.setCell ⟨rb, 0, none⟩ v2) P rb { e with a := e.a.app l } ∧ Own (fun k => k = rb) W (w5.setCell ⟨rb, 0, none⟩ v2)) := ⟨⟨_, _, _, _, _, H3.out.app0 HP3.out hB5 hv2 hll⟩, (HO2.out.trans (Own.of (T := fun k => k = rb) hB5) (fun k hk => .inl hk)).trans (Own.set (T := fun k => k = rb) rfl w5 0 _) (fun k hk => .inl hk)⟩; subst hvf2))
          all_goals (
            generalize w5.setCell ⟨rb, 0, none⟩ _ = wn at *
            go_wp2
            go_ret
            exact ⟨rfl, HE.out⟩)
        · unfold RPost
          go_enter Try.func70, Try.ntmps70
          go_wp2_with (first
            | (go_at_call 71; refine hA.mono ?_; rintro e w2 ⟨rfl, he⟩; replace he := he.symm; subst he)
            | (go_at_call 28; refine hLf.mono ?_; rintro e0 w2 ⟨rfl, hB2⟩; have hBn := HB.out w2 hB2)
            | (go_at_call 72; refine hBn.mono ?_; rintro e1 w3 ⟨rfl, ⟨fv', h3⟩, hO3⟩; obtain ⟨xa, xc, hxf⟩ := h3.q2.rd.form; have H3 := hide9 h3; have HO3 := hide9 hO3; have c0 : w3.cell? ⟨rb, 3, none⟩ = some (.slice xa e.b.now.length xc) := by { rw [← hxf]; exact h3.cell 3 }; have hx3 := h3.q2.drew; rw [hxf] at hx3; have hO2 : Own (fun k => k = rb) W w3 := (Own.of hB2).trans hO3 (fun k hk => .inl hk); have HO2 := hide9 hO2; clear h3 hO3 hBn hO2))
          have hyw : RB w3 (.slice ya l.length yc) l := HYK.out w3 HO2.out
          have HP3 : Hid (∀ k, w3.heap.size ≤ k → P k) := fun k hk => hP k (Nat.le_trans HO2.out.size hk)
          have hll : e.b.now.length + l.length ≤ 1048576 := HLN.out
          have hl1 : ([] : List UInt8).length + e.b.now.length ≤ 1000000000 := by simp; omega
          have hl2 : e.b.now.length + l.length ≤ 1000000000 := by omega
          have hyd : RB w3.drew (.slice ya l.length yc) l := hyw.keep (fun _ _ _ => rfl)
          have HYD := hide9 hyd
          have hrl : rb < w3.heap.size := H3.out.lt
          clear hyd hyw
          go_region_law (first
            | (refine step_append_RB rfl (.const (.slice none 0 0)) (.tmp 35) rfl (.slice none 0 0) [] rfl (OwnsBytes.nil _ 0) (.slice xa e.b.now.length xc) _ rfl hx3 hl1 ?_; intro v1 w4 g1 g2 g3; have hB4 := below_grown g2; have hy4 := HYD.out.below hB4; have c04 := (hB4.cell (p := ⟨rb, 3, none⟩) hrl).trans c0; have f04 := (hB4.frozen (p := ⟨rb, 3, none⟩) hrl).trans (H3.out.free 3); have g1' : OwnsBytes w4 0 v1 e.b.now := g1; obtain ⟨va, vc, hvf⟩ := g1'.form; subst hvf; have G1 : Hid (OwnsBytes w4 0 (.slice va e.b.now.length vc) e.b.now) := g1'; have G3 : Hid ((Value.slice va e.b.now.length vc).ownBlock = none ∨ (Value.slice va e.b.now.length vc).ownBlock = some w3.heap.size) := g3; clear g2 g1 g3 g1')
            | (refine step_append_RB rfl (.tmp 36) (.tmp 37) rfl (.slice va e.b.now.length vc) _ rfl G1.out (.slice ya l.length yc) _ rfl hy4 hl2 ?_; intro v2 w5 g4 g5 g6; obtain ⟨va2, vc2, hvf2⟩ := g4.form1; have hB5 : Below w3.heap.size w3 w5 := (bel ((Below.refl _ w3).drew) hB4).trans ⟨g5.os, g5.tape, g5.output, g5.size, fun k hk => g5.block k (Nat.lt_of_lt_of_le hk hB4.size) (fun e2 => by rcases G3.out with e3 | e3 <;> rw [e3] at e2 <;> cases e2; exact Nat.lt_irrefl _ hk)⟩; have c05 := (hB5.cell (p := ⟨rb, 3, none⟩) hrl).trans c0; have f05 := (hB5.frozen (p := ⟨rb, 3, none⟩) hrl).trans (H3.out.free 3); have hv2 : OwnsBytes w5 w3.heap.size v2 (e.b.now ++ l) := own_twoR g4 g6 G3.out hB4.size; have HE : Hid (RE (w5.setCell ⟨rb, 3, none⟩ v2) P rb { e with b := e.b.app l } ∧ Own (fun k => k = rb) W (w5.setCell ⟨rb, 3, none⟩ v2)) := ⟨⟨_, _, _, _, _, H3.out.app1 HP3.out hB5 hv2 hll⟩, (HO2.out.trans (Own.of (T := fun k => k = rb) hB5) (fun k hk => .inl hk)).trans (Own.set (T := fun k => k = rb) rfl w5 3 _) (fun k hk => .inl hk)⟩; subst hvf2))
          all_goals (
            generalize w5.setCell ⟨rb, 3, none⟩ _ = wn at *
            go_wp2
            go_ret
            exact ⟨rfl, HE.out⟩)
      | false =>
        rw [hb] at HB
        simp only [Bool.false_eq_true, if_false]
        unfold RPost
        go_enter Try.func70, Try.ntmps70
        go_wp2_with (first
          | (go_at_call 71; refine hA.mono ?_; rintro e w2 ⟨rfl, he⟩; replace he := he.symm; subst he)
          | (go_at_call 28; refine hLf.mono ?_; rintro e0 w2 ⟨rfl, hB2⟩; have hBn := HB.out w2 hB2)
          | (go_at_call 72; refine hBn.mono ?_; rintro e1 w3 ⟨rfl, ⟨fv', h3⟩, hO3⟩; have HE : Hid (RE w3 P rb e ∧ Own (fun k => k = rb) W w3) := ⟨⟨_, _, _, _, _, h3⟩, (Own.of hB2).trans hO3 (fun k hk => .inl hk)⟩; clear h3 hO3))
        go_ret
        exact ⟨rfl, HE.out⟩
  · have HE : Hid (RPost W P rb (d.append f l) (.returned (.int .i64 (d.why f))) W) := by
      show RPost _ _ _ _ _ _
      unfold Dk.D.append
      rw [act_why hw]
      exact ⟨rfl, ⟨_, _, _, _, _, h⟩, Own.refl _ _⟩
    have hyb : (d.why f == 0) = false := by simpa using hw
    clear h
    generalize d.why f = y at *
    go_enter Try.func70, Try.ntmps70
    go_wp2_with (go_at_call 71; refine hA.mono ?_; rintro e w2 ⟨rfl, he⟩; replace he := he.symm; subst he)
    go_ret
    exact HE.out
end Go.Proofs.Ytcjbceidgaieaaa
