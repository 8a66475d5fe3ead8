/- The contract of the document's Truncate. -/
import Derived.Test.YtcjbceidgaieaaaKDkU
import Derived.Test.YtcjbceidgaieaaaKDkR2
set_option linter.unusedVariables false
set_option linter.unusedSimpArgs false
namespace Go.Proofs.Ytcjbceidgaieaaa
open Go.RowKit
/-- A file of the document's disk is written. -/
theorem RAt.file0 {W : World} {P : Nat → Prop} {rb : Nat} {d : Dk.D} {fv : Int} {b0 s0 b1 s1 v s : Value} {c : Dk.Cn} (h : RAt W P rb d fv b0 s0 b1 s1) (hv : RQ W P rb v c.now) (hs9 : RQ W P rb s c.sure) (hc : c.Fine) : RAt (((W.setCell ⟨rb, 0, none⟩ v).setCell ⟨rb, 1, none⟩ s).setCell ⟨rb, 2, none⟩ (.int .i64 c.cutv)) P rb { d with a := c } fv v s b1 s1 := by
  have hk : ∀ k, k < W.heap.size → P k → k ≠ rb → (((W.setCell ⟨rb, 0, none⟩ v).setCell ⟨rb, 1, none⟩ s).setCell ⟨rb, 2, none⟩ (.int .i64 c.cutv)).heap[k]? = W.heap[k]? := fun k _ _ hk => ((Below.heap_setCell _ _ _ _ hk).trans (Below.heap_setCell _ _ _ _ hk)).trans (Below.heap_setCell _ _ _ _ hk)
  have hs : W.heap.size ≤ (((W.setCell ⟨rb, 0, none⟩ v).setCell ⟨rb, 1, none⟩ s).setCell ⟨rb, 2, none⟩ (.int .i64 c.cutv)).heap.size := by rw [setCell_size, setCell_size, setCell_size]; exact Nat.le_refl _
  exact ⟨heap_set (heap_set (heap_set h.blk v) s) _, hv.keep hs hk, hs9.keep hs hk, h.q2.keep hs hk, h.q3.keep hs hk, ⟨hc, h.fine.b, h.fine.room, h.fine.least, h.fine.root, h.fine.fuse⟩, h.fz, h.fb⟩
theorem RAt.file1 {W : World} {P : Nat → Prop} {rb : Nat} {d : Dk.D} {fv : Int} {b0 s0 b1 s1 v s : Value} {c : Dk.Cn} (h : RAt W P rb d fv b0 s0 b1 s1) (hv : RQ W P rb v c.now) (hs9 : RQ W P rb s c.sure) (hc : c.Fine) : RAt (((W.setCell ⟨rb, 3, none⟩ v).setCell ⟨rb, 4, none⟩ s).setCell ⟨rb, 5, none⟩ (.int .i64 c.cutv)) P rb { d with b := c } fv b0 s0 v s := by
  have hk : ∀ k, k < W.heap.size → P k → k ≠ rb → (((W.setCell ⟨rb, 3, none⟩ v).setCell ⟨rb, 4, none⟩ s).setCell ⟨rb, 5, none⟩ (.int .i64 c.cutv)).heap[k]? = W.heap[k]? := fun k _ _ hk => ((Below.heap_setCell _ _ _ _ hk).trans (Below.heap_setCell _ _ _ _ hk)).trans (Below.heap_setCell _ _ _ _ hk)
  have hs : W.heap.size ≤ (((W.setCell ⟨rb, 3, none⟩ v).setCell ⟨rb, 4, none⟩ s).setCell ⟨rb, 5, none⟩ (.int .i64 c.cutv)).heap.size := by rw [setCell_size, setCell_size, setCell_size]; exact Nat.le_refl _
  exact ⟨heap_set (heap_set (heap_set h.blk v) s) _, h.q0.keep hs hk, h.q1.keep hs hk, hv.keep hs hk, hs9.keep hs hk, ⟨h.fine.a, hc, h.fine.room, h.fine.least, h.fine.root, h.fine.fuse⟩, h.fz, h.fb⟩
theorem own_three {rb i j k : Nat} {x y z : Value} (W : World) : Own (fun k => k = rb) W (((W.setCell ⟨rb, i, none⟩ x).setCell ⟨rb, j, none⟩ y).setCell ⟨rb, k, none⟩ z) := ((Own.set (T := fun k => k = rb) rfl W i x).trans (Own.set (T := fun k => k = rb) rfl _ j y) (fun k hk => .inl hk)).trans (Own.set (T := fun k => k = rb) rfl _ k z) (fun k hk => .inl hk)
theorem RQ.take {W : World} {P : Nat → Prop} {rb n c : Nat} {a : Option Addr} {l : List UInt8} (h : RQ W P rb (.slice a n c) l) (k : Nat) (hk : k ≤ l.length) : RQ W P rb (.slice a k c) (l.take k) := ⟨h.rd.take k hk, fun q e => h.bl q ((own_len a _ _ _ _).trans e)⟩
theorem RQ.below {W W' : World} {P : Nat → Prop} {rb : Nat} {v : Value} {l : List UInt8} (h : RQ W P rb v l) (hB : Below W.heap.size W W') : RQ W' P rb v l := h.keep hB.size (fun k hk _ _ => hB.block k hk)
theorem trunc_cut (c : Dk.Cn) (h : c.Fine) (n : Nat) : (c.trunc n).cutv = if n < c.whole then (n : Int) else c.cutv := by
  have h1 := h.whole
  unfold Dk.Cn.cutv Dk.Cn.trunc
  show (if c.gone ++ ((c.now.take c.whole).drop n).reverse = [] then (-1 : Int) else ((min c.whole n : Nat) : Int)) = _
  by_cases hn : n < c.whole
  · rw [if_pos hn, if_neg]
    · omega
    · intro e
      have := congrArg List.length e
      simp at this
      omega
  · rw [if_neg hn]
    have e : ((c.now.take c.whole).drop n).reverse = [] := by rw [List.drop_eq_nil_of_le (by simp; omega)]; rfl
    rw [e, List.append_nil]
    congr 1
    omega
theorem sure_length (c : Dk.Cn) (h : c.Fine) : c.sure.length = c.whole + c.gone.length := by
  have := h.whole
  unfold Dk.Cn.sure
  simp
  omega
set_option maxHeartbeats 4000000 in
set_option maxRecDepth 100000 in
theorem RTruncate_any {W : World} {P : Nat → Prop} {rb : Nat} {d : Dk.D} (h : RE W P rb d) (f n : Int) :
    Calls Try.prog 46 #[ptr rb 0, .int .i64 f, .int .i64 n] W (RPost W P rb (d.trunc f n)) := by
  obtain ⟨fv, b0, s0, b1, s1, h⟩ := h
  have hA := Rask_any h f
  by_cases hw : d.why f = 0
  · have hff := (Dk.D.why_file hw).1
    rw [hw] at hA
    by_cases hn : n < 0 ∨ ((d.at f).now.length : Int) < n
    · have HE : Hid (RPost W P rb (d.trunc f n) (.returned (.int .i64 1)) W) := by
        show RPost _ _ _ _ _ _
        unfold Dk.D.trunc
        rw [if_pos hn, act_ask hw (by decide)]
        exact ⟨rfl, ⟨_, _, _, _, _, h⟩, Own.refl _ _⟩
      rcases hff with rfl | rfl
      · obtain ⟨xa, xc, hxf⟩ := h.q0.rd.form
        subst hxf
        have c0 : W.cell? ⟨rb, 0, none⟩ = some (.slice xa d.a.now.length xc) := h.cell 0
        change n < 0 ∨ (d.a.now.length : Int) < n at hn
        clear h hw
        by_cases hn0 : n < 0
        · clear hn
          go_enter Try.func46, Try.ntmps46
          go_wp2_with (go_at_call 71; refine hA.mono ?_; rintro e w2 ⟨rfl, he⟩; replace he := he.symm; subst he)
          go_ret
          exact HE.out
        · have hn1 : (d.a.now.length : Int) < n := by omega
          clear hn
          go_enter Try.func46, Try.ntmps46
          go_wp2_with (go_at_call 71; refine hA.mono ?_; rintro e w2 ⟨rfl, he⟩; replace he := he.symm; subst he)
          go_ret
          exact HE.out
      · obtain ⟨xa, xc, hxf⟩ := h.q2.rd.form
        subst hxf
        have c0 : W.cell? ⟨rb, 3, none⟩ = some (.slice xa d.b.now.length xc) := h.cell 3
        change n < 0 ∨ (d.b.now.length : Int) < n at hn
        clear h hw
        by_cases hn0 : n < 0
        · clear hn
          go_enter Try.func46, Try.ntmps46
          go_wp2_with (go_at_call 71; refine hA.mono ?_; rintro e w2 ⟨rfl, he⟩; replace he := he.symm; subst he)
          go_ret
          exact HE.out
        · have hn1 : (d.b.now.length : Int) < n := by omega
          clear hn
          go_enter Try.func46, Try.ntmps46
          go_wp2_with (go_at_call 71; refine hA.mono ?_; rintro e w2 ⟨rfl, he⟩; replace he := he.symm; subst he)
          go_ret
          exact HE.out
    · obtain ⟨m, rfl⟩ : ∃ m : Nat, n = (m : Int) := ⟨n.toNat, by omega⟩
      have hm : m ≤ (d.at f).now.length := by omega
      have HD : Hid (d.trunc f (m : Int) = (d.burns.2, if d.burns.1 = true then d.burnt.put f ((d.burnt.at f).trunc m) else d.burnt)) := by
        show d.trunc f (m : Int) = _
        unfold Dk.D.trunc
        rw [if_neg hn]
        exact act_burn hw (fun x => by unfold Dk.D.put Dk.D.at; split <;> rfl) ⟨Dk.put_fuse _ _ _, Dk.put_on _ _ _⟩
      rw [HD.out]
      have hB := Rburns_any h (Dk.D.why_file hw).2
      have h0m : ¬ (m : Int) < 0 := by omega
      rw [← at_burnt] at hm
      have HN0 : Hid (d.at f = d.burnt.at f) := (at_burnt d f).symm
      obtain ⟨xa9, xc9, hx9⟩ := h.q0.rd.form
      obtain ⟨za9, zc9, hz9⟩ := h.q2.rd.form
      subst hx9
      subst hz9
      have cc0 : W.cell? ⟨rb, 0, none⟩ = some (.slice xa9 d.a.now.length xc9) := h.cell 0
      have cc3 : W.cell? ⟨rb, 3, none⟩ = some (.slice za9 d.b.now.length zc9) := h.cell 3
      have hda : d.burnt.a = d.a := (burnt_same d).1
      have hdb : d.burnt.b = d.b := (burnt_same d).2.1
      rw [← hda] at cc0
      rw [← hdb] at cc3
      have HDA := hide9 hda
      have HDB := hide9 hdb
      clear h hw hn hda hdb HD HN0
      generalize d.burns.2 = q at *
      generalize d.burnt = e at *
      cases hb : d.burns.1 with
      | true =>
        rw [hb] at hB
        simp only [if_true]
        rcases hff with rfl | rfl
        · change m ≤ e.a.now.length at hm
          have hmm : ¬ (e.a.now.length : Int) < (m : Int) := by omega
          have HB := hide9 hB
          clear hB
          unfold RPost
          go_enter Try.func46, Try.ntmps46
          go_wp2_with (go_at_call 71; refine hA.mono ?_; rintro e w2 ⟨rfl, he⟩; replace he := he.symm; subst he)
          refine HB.out.mono ?_
          rintro e1 w3 ⟨rfl, ⟨fv', h3⟩, hO3⟩
          obtain ⟨xs, xt, hxs⟩ := h3.q1.rd.form
          subst hxs
          have H3 := hide9 h3
          have HO3 := hide9 hO3
          have c0 : w3.cell? ⟨rb, 0, none⟩ = some (.slice xa9 d.a.now.length xc9) := h3.cell 0
          have c1 : w3.cell? ⟨rb, 1, none⟩ = some (.slice xs e.a.sure.length xt) := h3.cell 1
          have c2 : w3.cell? ⟨rb, 2, none⟩ = some (.int .i64 e.a.cutv) := h3.cell 2
          have hde : d.a.now.length = e.a.now.length := by rw [HDA.out]
          rw [hde] at c0
          have HX : Hid (RAt w3 P rb e fv' (.slice xa9 e.a.now.length xc9) (.slice xs e.a.sure.length xt) (.slice za9 d.b.now.length zc9) s1) := by rw [← hde]; exact h3
          have f0 := h3.free 0
          have f1 := h3.free 1
          have f2 := h3.free 2
          have hfa := h3.fine.a
          have hwl := hfa.whole
          have hsl := sure_length _ hfa
          have hcp : e.a.now.length ≤ xc9 := by have := h3.q0.rd.cap; exact this
          have HFA := hide9 hfa
          have HTC := hide9 (trunc_cut e.a hfa m)
          have hrl : rb < w3.heap.size := h3.lt
          clear h3 hO3 hfa hde
          have hmc : m ≤ xc9 := by omega
          by_cases hmw : m < e.a.whole
          · have hms : (m : Int) < (e.a.sure.length : Int) := by omega
            rw [if_pos hmw] at HTC
            by_cases hg : e.a.gone = []
            · have hcv : e.a.cutv = -1 := by unfold Dk.Cn.cutv; rw [if_pos hg]
              rw [hcv] at c2
              clear hcv hsl hg
              go_wp2
              have HB4 := hide9 (alloc1 w3 (.cells #[.slice xa9 m xc9, .slice xs e.a.sure.length xt, .int .i64 (m : Int)] 29))
              have d0 := (HB4.out.cell (p := ⟨rb, 0, none⟩) hrl).trans c0
              have d1 := (HB4.out.cell (p := ⟨rb, 1, none⟩) hrl).trans c1
              have d2 := (HB4.out.cell (p := ⟨rb, 2, none⟩) hrl).trans c2
              have g0 := (HB4.out.frozen (p := ⟨rb, 0, none⟩) hrl).trans f0
              have g1 := (HB4.out.frozen (p := ⟨rb, 1, none⟩) hrl).trans f1
              have g2 := (HB4.out.frozen (p := ⟨rb, 2, none⟩) hrl).trans f2
              have HE : Hid (RE (((w3.setCell ⟨rb, 0, none⟩ (.slice xa9 m xc9)).setCell ⟨rb, 1, none⟩ (.slice xs e.a.sure.length xt)).setCell ⟨rb, 2, none⟩ (.int .i64 (m : Int))) P rb { e with a := e.a.trunc m } ∧ Own (fun k => k = rb) W (((w3.setCell ⟨rb, 0, none⟩ (.slice xa9 m xc9)).setCell ⟨rb, 1, none⟩ (.slice xs e.a.sure.length xt)).setCell ⟨rb, 2, none⟩ (.int .i64 (m : Int)))) := by
                have h4 := HX.out
                have e4 := h4.file0 (c := e.a.trunc m) (RQ.take h4.q0 m hm) (by rw [Dk.sure_trunc _ HFA.out]; exact h4.q1) (HFA.out.trunc m)
                rw [HTC.out] at e4
                exact ⟨⟨_, _, _, _, _, e4⟩, HO3.out.trans (own_three _) (fun k hk => .inl hk)⟩
              go_region
              go_wp2
              go_ret
              exact ⟨rfl, HE.out.1.below (bel (alloc1 _ _) ((Below.refl _ _).drew)), HE.out.2.trans (Own.of (T := fun k => k = rb) (bel (alloc1 _ _) ((Below.refl _ _).drew))) (fun k hk => .inl hk)⟩
            · have hcv : e.a.cutv = (e.a.whole : Int) := by unfold Dk.Cn.cutv; rw [if_neg hg]
              rw [hcv] at c2
              have hmi : (m : Int) < (e.a.whole : Int) := by omega
              have hwn : ¬ (e.a.whole : Int) < 0 := by omega
              clear hcv hsl hg
              go_wp2
              have HB4 := hide9 (alloc1 w3 (.cells #[.slice xa9 m xc9, .slice xs e.a.sure.length xt, .int .i64 (m : Int)] 29))
              have d0 := (HB4.out.cell (p := ⟨rb, 0, none⟩) hrl).trans c0
              have d1 := (HB4.out.cell (p := ⟨rb, 1, none⟩) hrl).trans c1
              have d2 := (HB4.out.cell (p := ⟨rb, 2, none⟩) hrl).trans c2
              have g0 := (HB4.out.frozen (p := ⟨rb, 0, none⟩) hrl).trans f0
              have g1 := (HB4.out.frozen (p := ⟨rb, 1, none⟩) hrl).trans f1
              have g2 := (HB4.out.frozen (p := ⟨rb, 2, none⟩) hrl).trans f2
              have HE : Hid (RE (((w3.setCell ⟨rb, 0, none⟩ (.slice xa9 m xc9)).setCell ⟨rb, 1, none⟩ (.slice xs e.a.sure.length xt)).setCell ⟨rb, 2, none⟩ (.int .i64 (m : Int))) P rb { e with a := e.a.trunc m } ∧ Own (fun k => k = rb) W (((w3.setCell ⟨rb, 0, none⟩ (.slice xa9 m xc9)).setCell ⟨rb, 1, none⟩ (.slice xs e.a.sure.length xt)).setCell ⟨rb, 2, none⟩ (.int .i64 (m : Int)))) := by
                have h4 := HX.out
                have e4 := h4.file0 (c := e.a.trunc m) (RQ.take h4.q0 m hm) (by rw [Dk.sure_trunc _ HFA.out]; exact h4.q1) (HFA.out.trunc m)
                rw [HTC.out] at e4
                exact ⟨⟨_, _, _, _, _, e4⟩, HO3.out.trans (own_three _) (fun k hk => .inl hk)⟩
              go_region
              go_wp2
              go_ret
              exact ⟨rfl, HE.out.1.below (bel (alloc1 _ _) ((Below.refl _ _).drew)), HE.out.2.trans (Own.of (T := fun k => k = rb) (bel (alloc1 _ _) ((Below.refl _ _).drew))) (fun k hk => .inl hk)⟩
          · rw [if_neg hmw] at HTC
            have hmi : ¬ (m : Int) < (e.a.whole : Int) := by omega
            by_cases hg : e.a.gone = []
            · have hcv : e.a.cutv = -1 := by unfold Dk.Cn.cutv; rw [if_pos hg]
              have hgl : e.a.gone.length = 0 := by rw [hg]; rfl
              have hms : ¬ (m : Int) < (e.a.sure.length : Int) := by omega
              clear hcv hsl hg hgl
              go_wp2
              have HB4 := hide9 (alloc1 w3 (.cells #[.slice xa9 m xc9, .slice xs e.a.sure.length xt, .int .i64 e.a.cutv] 29))
              have d0 := (HB4.out.cell (p := ⟨rb, 0, none⟩) hrl).trans c0
              have d1 := (HB4.out.cell (p := ⟨rb, 1, none⟩) hrl).trans c1
              have d2 := (HB4.out.cell (p := ⟨rb, 2, none⟩) hrl).trans c2
              have g0 := (HB4.out.frozen (p := ⟨rb, 0, none⟩) hrl).trans f0
              have g1 := (HB4.out.frozen (p := ⟨rb, 1, none⟩) hrl).trans f1
              have g2 := (HB4.out.frozen (p := ⟨rb, 2, none⟩) hrl).trans f2
              have HE : Hid (RE (((w3.setCell ⟨rb, 0, none⟩ (.slice xa9 m xc9)).setCell ⟨rb, 1, none⟩ (.slice xs e.a.sure.length xt)).setCell ⟨rb, 2, none⟩ (.int .i64 e.a.cutv)) P rb { e with a := e.a.trunc m } ∧ Own (fun k => k = rb) W (((w3.setCell ⟨rb, 0, none⟩ (.slice xa9 m xc9)).setCell ⟨rb, 1, none⟩ (.slice xs e.a.sure.length xt)).setCell ⟨rb, 2, none⟩ (.int .i64 e.a.cutv))) := by
                have h4 := HX.out
                have e4 := h4.file0 (c := e.a.trunc m) (RQ.take h4.q0 m hm) (by rw [Dk.sure_trunc _ HFA.out]; exact h4.q1) (HFA.out.trunc m)
                rw [HTC.out] at e4
                exact ⟨⟨_, _, _, _, _, e4⟩, HO3.out.trans (own_three _) (fun k hk => .inl hk)⟩
              go_region
              go_wp2
              go_ret
              exact ⟨rfl, HE.out.1.below (bel (alloc1 _ _) ((Below.refl _ _).drew)), HE.out.2.trans (Own.of (T := fun k => k = rb) (bel (alloc1 _ _) ((Below.refl _ _).drew))) (fun k hk => .inl hk)⟩
            · have hcv : e.a.cutv = (e.a.whole : Int) := by unfold Dk.Cn.cutv; rw [if_neg hg]
              rw [hcv] at c2 HTC
              have hwn : ¬ (e.a.whole : Int) < 0 := by omega
              clear hcv hsl hg
              by_cases hms : (m : Int) < (e.a.sure.length : Int)
              · go_wp2
                have HB4 := hide9 (alloc1 w3 (.cells #[.slice xa9 m xc9, .slice xs e.a.sure.length xt, .int .i64 (e.a.whole : Int)] 29))
                have d0 := (HB4.out.cell (p := ⟨rb, 0, none⟩) hrl).trans c0
                have d1 := (HB4.out.cell (p := ⟨rb, 1, none⟩) hrl).trans c1
                have d2 := (HB4.out.cell (p := ⟨rb, 2, none⟩) hrl).trans c2
                have g0 := (HB4.out.frozen (p := ⟨rb, 0, none⟩) hrl).trans f0
                have g1 := (HB4.out.frozen (p := ⟨rb, 1, none⟩) hrl).trans f1
                have g2 := (HB4.out.frozen (p := ⟨rb, 2, none⟩) hrl).trans f2
                have HE : Hid (RE (((w3.setCell ⟨rb, 0, none⟩ (.slice xa9 m xc9)).setCell ⟨rb, 1, none⟩ (.slice xs e.a.sure.length xt)).setCell ⟨rb, 2, none⟩ (.int .i64 (e.a.whole : Int))) P rb { e with a := e.a.trunc m } ∧ Own (fun k => k = rb) W (((w3.setCell ⟨rb, 0, none⟩ (.slice xa9 m xc9)).setCell ⟨rb, 1, none⟩ (.slice xs e.a.sure.length xt)).setCell ⟨rb, 2, none⟩ (.int .i64 (e.a.whole : Int)))) := by
                  have h4 := HX.out
                  have e4 := h4.file0 (c := e.a.trunc m) (RQ.take h4.q0 m hm) (by rw [Dk.sure_trunc _ HFA.out]; exact h4.q1) (HFA.out.trunc m)
                  rw [HTC.out] at e4
                  exact ⟨⟨_, _, _, _, _, e4⟩, HO3.out.trans (own_three _) (fun k hk => .inl hk)⟩
                go_region
                go_wp2
                go_ret
                exact ⟨rfl, HE.out.1.below (bel (alloc1 _ _) ((Below.refl _ _).drew)), HE.out.2.trans (Own.of (T := fun k => k = rb) (bel (alloc1 _ _) ((Below.refl _ _).drew))) (fun k hk => .inl hk)⟩
              · go_wp2
                have HB4 := hide9 (alloc1 w3 (.cells #[.slice xa9 m xc9, .slice xs e.a.sure.length xt, .int .i64 (e.a.whole : Int)] 29))
                have d0 := (HB4.out.cell (p := ⟨rb, 0, none⟩) hrl).trans c0
                have d1 := (HB4.out.cell (p := ⟨rb, 1, none⟩) hrl).trans c1
                have d2 := (HB4.out.cell (p := ⟨rb, 2, none⟩) hrl).trans c2
                have g0 := (HB4.out.frozen (p := ⟨rb, 0, none⟩) hrl).trans f0
                have g1 := (HB4.out.frozen (p := ⟨rb, 1, none⟩) hrl).trans f1
                have g2 := (HB4.out.frozen (p := ⟨rb, 2, none⟩) hrl).trans f2
                have HE : Hid (RE (((w3.setCell ⟨rb, 0, none⟩ (.slice xa9 m xc9)).setCell ⟨rb, 1, none⟩ (.slice xs e.a.sure.length xt)).setCell ⟨rb, 2, none⟩ (.int .i64 (e.a.whole : Int))) P rb { e with a := e.a.trunc m } ∧ Own (fun k => k = rb) W (((w3.setCell ⟨rb, 0, none⟩ (.slice xa9 m xc9)).setCell ⟨rb, 1, none⟩ (.slice xs e.a.sure.length xt)).setCell ⟨rb, 2, none⟩ (.int .i64 (e.a.whole : Int)))) := by
                  have h4 := HX.out
                  have e4 := h4.file0 (c := e.a.trunc m) (RQ.take h4.q0 m hm) (by rw [Dk.sure_trunc _ HFA.out]; exact h4.q1) (HFA.out.trunc m)
                  rw [HTC.out] at e4
                  exact ⟨⟨_, _, _, _, _, e4⟩, HO3.out.trans (own_three _) (fun k hk => .inl hk)⟩
                go_region
                go_wp2
                go_ret
                exact ⟨rfl, HE.out.1.below (bel (alloc1 _ _) ((Below.refl _ _).drew)), HE.out.2.trans (Own.of (T := fun k => k = rb) (bel (alloc1 _ _) ((Below.refl _ _).drew))) (fun k hk => .inl hk)⟩
        · change m ≤ e.b.now.length at hm
          have hmm : ¬ (e.b.now.length : Int) < (m : Int) := by omega
          have HB := hide9 hB
          clear hB
          unfold RPost
          go_enter Try.func46, Try.ntmps46
          go_wp2_with (go_at_call 71; refine hA.mono ?_; rintro e w2 ⟨rfl, he⟩; replace he := he.symm; subst he)
          refine HB.out.mono ?_
          rintro e1 w3 ⟨rfl, ⟨fv', h3⟩, hO3⟩
          obtain ⟨xs, xt, hxs⟩ := h3.q3.rd.form
          subst hxs
          have H3 := hide9 h3
          have HO3 := hide9 hO3
          have c0 : w3.cell? ⟨rb, 3, none⟩ = some (.slice za9 d.b.now.length zc9) := h3.cell 3
          have c1 : w3.cell? ⟨rb, 4, none⟩ = some (.slice xs e.b.sure.length xt) := h3.cell 4
          have c2 : w3.cell? ⟨rb, 5, none⟩ = some (.int .i64 e.b.cutv) := h3.cell 5
          have hde : d.b.now.length = e.b.now.length := by rw [HDB.out]
          rw [hde] at c0
          have HX : Hid (RAt w3 P rb e fv' (.slice xa9 d.a.now.length xc9) s0 (.slice za9 e.b.now.length zc9) (.slice xs e.b.sure.length xt)) := by rw [← hde]; exact h3
          have f0 := h3.free 3
          have f1 := h3.free 4
          have f2 := h3.free 5
          have hfa := h3.fine.b
          have hwl := hfa.whole
          have hsl := sure_length _ hfa
          have hcp : e.b.now.length ≤ zc9 := by have := h3.q2.rd.cap; exact this
          have HFA := hide9 hfa
          have HTC := hide9 (trunc_cut e.b hfa m)
          have hrl : rb < w3.heap.size := h3.lt
          clear h3 hO3 hfa hde
          have hmc : m ≤ zc9 := by omega
          by_cases hmw : m < e.b.whole
          · have hms : (m : Int) < (e.b.sure.length : Int) := by omega
            rw [if_pos hmw] at HTC
            by_cases hg : e.b.gone = []
            · have hcv : e.b.cutv = -1 := by unfold Dk.Cn.cutv; rw [if_pos hg]
              rw [hcv] at c2
              clear hcv hsl hg
              go_wp2
              have HB4 := hide9 (alloc1 w3 (.cells #[.slice za9 m zc9, .slice xs e.b.sure.length xt, .int .i64 (m : Int)] 29))
              have d0 := (HB4.out.cell (p := ⟨rb, 3, none⟩) hrl).trans c0
              have d1 := (HB4.out.cell (p := ⟨rb, 4, none⟩) hrl).trans c1
              have d2 := (HB4.out.cell (p := ⟨rb, 5, none⟩) hrl).trans c2
              have g0 := (HB4.out.frozen (p := ⟨rb, 3, none⟩) hrl).trans f0
              have g1 := (HB4.out.frozen (p := ⟨rb, 4, none⟩) hrl).trans f1
              have g2 := (HB4.out.frozen (p := ⟨rb, 5, none⟩) hrl).trans f2
              have HE : Hid (RE (((w3.setCell ⟨rb, 3, none⟩ (.slice za9 m zc9)).setCell ⟨rb, 4, none⟩ (.slice xs e.b.sure.length xt)).setCell ⟨rb, 5, none⟩ (.int .i64 (m : Int))) P rb { e with b := e.b.trunc m } ∧ Own (fun k => k = rb) W (((w3.setCell ⟨rb, 3, none⟩ (.slice za9 m zc9)).setCell ⟨rb, 4, none⟩ (.slice xs e.b.sure.length xt)).setCell ⟨rb, 5, none⟩ (.int .i64 (m : Int)))) := by
                have h4 := HX.out
                have e4 := h4.file1 (c := e.b.trunc m) (RQ.take h4.q2 m hm) (by rw [Dk.sure_trunc _ HFA.out]; exact h4.q3) (HFA.out.trunc m)
                rw [HTC.out] at e4
                exact ⟨⟨_, _, _, _, _, e4⟩, HO3.out.trans (own_three _) (fun k hk => .inl hk)⟩
              go_region
              go_wp2
              go_ret
              exact ⟨rfl, HE.out.1.below (bel (alloc1 _ _) ((Below.refl _ _).drew)), HE.out.2.trans (Own.of (T := fun k => k = rb) (bel (alloc1 _ _) ((Below.refl _ _).drew))) (fun k hk => .inl hk)⟩
            · have hcv : e.b.cutv = (e.b.whole : Int) := by unfold Dk.Cn.cutv; rw [if_neg hg]
              rw [hcv] at c2
              have hmi : (m : Int) < (e.b.whole : Int) := by omega
              have hwn : ¬ (e.b.whole : Int) < 0 := by omega
              clear hcv hsl hg
              go_wp2
              have HB4 := hide9 (alloc1 w3 (.cells #[.slice za9 m zc9, .slice xs e.b.sure.length xt, .int .i64 (m : Int)] 29))
              have d0 := (HB4.out.cell (p := ⟨rb, 3, none⟩) hrl).trans c0
              have d1 := (HB4.out.cell (p := ⟨rb, 4, none⟩) hrl).trans c1
              have d2 := (HB4.out.cell (p := ⟨rb, 5, none⟩) hrl).trans c2
              have g0 := (HB4.out.frozen (p := ⟨rb, 3, none⟩) hrl).trans f0
              have g1 := (HB4.out.frozen (p := ⟨rb, 4, none⟩) hrl).trans f1
              have g2 := (HB4.out.frozen (p := ⟨rb, 5, none⟩) hrl).trans f2
              have HE : Hid (RE (((w3.setCell ⟨rb, 3, none⟩ (.slice za9 m zc9)).setCell ⟨rb, 4, none⟩ (.slice xs e.b.sure.length xt)).setCell ⟨rb, 5, none⟩ (.int .i64 (m : Int))) P rb { e with b := e.b.trunc m } ∧ Own (fun k => k = rb) W (((w3.setCell ⟨rb, 3, none⟩ (.slice za9 m zc9)).setCell ⟨rb, 4, none⟩ (.slice xs e.b.sure.length xt)).setCell ⟨rb, 5, none⟩ (.int .i64 (m : Int)))) := by
                have h4 := HX.out
                have e4 := h4.file1 (c := e.b.trunc m) (RQ.take h4.q2 m hm) (by rw [Dk.sure_trunc _ HFA.out]; exact h4.q3) (HFA.out.trunc m)
                rw [HTC.out] at e4
                exact ⟨⟨_, _, _, _, _, e4⟩, HO3.out.trans (own_three _) (fun k hk => .inl hk)⟩
              go_region
              go_wp2
              go_ret
              exact ⟨rfl, HE.out.1.below (bel (alloc1 _ _) ((Below.refl _ _).drew)), HE.out.2.trans (Own.of (T := fun k => k = rb) (bel (alloc1 _ _) ((Below.refl _ _).drew))) (fun k hk => .inl hk)⟩
          · rw [if_neg hmw] at HTC
            have hmi : ¬ (m : Int) < (e.b.whole : Int) := by omega
            by_cases hg : e.b.gone = []
            · have hcv : e.b.cutv = -1 := by unfold Dk.Cn.cutv; rw [if_pos hg]
              have hgl : e.b.gone.length = 0 := by rw [hg]; rfl
              have hms : ¬ (m : Int) < (e.b.sure.length : Int) := by omega
              clear hcv hsl hg hgl
              go_wp2
              have HB4 := hide9 (alloc1 w3 (.cells #[.slice za9 m zc9, .slice xs e.b.sure.length xt, .int .i64 e.b.cutv] 29))
              have d0 := (HB4.out.cell (p := ⟨rb, 3, none⟩) hrl).trans c0
              have d1 := (HB4.out.cell (p := ⟨rb, 4, none⟩) hrl).trans c1
              have d2 := (HB4.out.cell (p := ⟨rb, 5, none⟩) hrl).trans c2
              have g0 := (HB4.out.frozen (p := ⟨rb, 3, none⟩) hrl).trans f0
              have g1 := (HB4.out.frozen (p := ⟨rb, 4, none⟩) hrl).trans f1
              have g2 := (HB4.out.frozen (p := ⟨rb, 5, none⟩) hrl).trans f2
              have HE : Hid (RE (((w3.setCell ⟨rb, 3, none⟩ (.slice za9 m zc9)).setCell ⟨rb, 4, none⟩ (.slice xs e.b.sure.length xt)).setCell ⟨rb, 5, none⟩ (.int .i64 e.b.cutv)) P rb { e with b := e.b.trunc m } ∧ Own (fun k => k = rb) W (((w3.setCell ⟨rb, 3, none⟩ (.slice za9 m zc9)).setCell ⟨rb, 4, none⟩ (.slice xs e.b.sure.length xt)).setCell ⟨rb, 5, none⟩ (.int .i64 e.b.cutv))) := by
                have h4 := HX.out
                have e4 := h4.file1 (c := e.b.trunc m) (RQ.take h4.q2 m hm) (by rw [Dk.sure_trunc _ HFA.out]; exact h4.q3) (HFA.out.trunc m)
                rw [HTC.out] at e4
                exact ⟨⟨_, _, _, _, _, e4⟩, HO3.out.trans (own_three _) (fun k hk => .inl hk)⟩
              go_region
              go_wp2
              go_ret
              exact ⟨rfl, HE.out.1.below (bel (alloc1 _ _) ((Below.refl _ _).drew)), HE.out.2.trans (Own.of (T := fun k => k = rb) (bel (alloc1 _ _) ((Below.refl _ _).drew))) (fun k hk => .inl hk)⟩
            · have hcv : e.b.cutv = (e.b.whole : Int) := by unfold Dk.Cn.cutv; rw [if_neg hg]
              rw [hcv] at c2 HTC
              have hwn : ¬ (e.b.whole : Int) < 0 := by omega
              clear hcv hsl hg
              by_cases hms : (m : Int) < (e.b.sure.length : Int)
              · go_wp2
                have HB4 := hide9 (alloc1 w3 (.cells #[.slice za9 m zc9, .slice xs e.b.sure.length xt, .int .i64 (e.b.whole : Int)] 29))
                have d0 := (HB4.out.cell (p := ⟨rb, 3, none⟩) hrl).trans c0
                have d1 := (HB4.out.cell (p := ⟨rb, 4, none⟩) hrl).trans c1
                have d2 := (HB4.out.cell (p := ⟨rb, 5, none⟩) hrl).trans c2
                have g0 := (HB4.out.frozen (p := ⟨rb, 3, none⟩) hrl).trans f0
                have g1 := (HB4.out.frozen (p := ⟨rb, 4, none⟩) hrl).trans f1
                have g2 := (HB4.out.frozen (p := ⟨rb, 5, none⟩) hrl).trans f2
                have HE : Hid (RE (((w3.setCell ⟨rb, 3, none⟩ (.slice za9 m zc9)).setCell ⟨rb, 4, none⟩ (.slice xs e.b.sure.length xt)).setCell ⟨rb, 5, none⟩ (.int .i64 (e.b.whole : Int))) P rb { e with b := e.b.trunc m } ∧ Own (fun k => k = rb) W (((w3.setCell ⟨rb, 3, none⟩ (.slice za9 m zc9)).setCell ⟨rb, 4, none⟩ (.slice xs e.b.sure.length xt)).setCell ⟨rb, 5, none⟩ (.int .i64 (e.b.whole : Int)))) := by
                  have h4 := HX.out
                  have e4 := h4.file1 (c := e.b.trunc m) (RQ.take h4.q2 m hm) (by rw [Dk.sure_trunc _ HFA.out]; exact h4.q3) (HFA.out.trunc m)
                  rw [HTC.out] at e4
                  exact ⟨⟨_, _, _, _, _, e4⟩, HO3.out.trans (own_three _) (fun k hk => .inl hk)⟩
                go_region
                go_wp2
                go_ret
                exact ⟨rfl, HE.out.1.below (bel (alloc1 _ _) ((Below.refl _ _).drew)), HE.out.2.trans (Own.of (T := fun k => k = rb) (bel (alloc1 _ _) ((Below.refl _ _).drew))) (fun k hk => .inl hk)⟩
              · go_wp2
                have HB4 := hide9 (alloc1 w3 (.cells #[.slice za9 m zc9, .slice xs e.b.sure.length xt, .int .i64 (e.b.whole : Int)] 29))
                have d0 := (HB4.out.cell (p := ⟨rb, 3, none⟩) hrl).trans c0
                have d1 := (HB4.out.cell (p := ⟨rb, 4, none⟩) hrl).trans c1
                have d2 := (HB4.out.cell (p := ⟨rb, 5, none⟩) hrl).trans c2
                have g0 := (HB4.out.frozen (p := ⟨rb, 3, none⟩) hrl).trans f0
                have g1 := (HB4.out.frozen (p := ⟨rb, 4, none⟩) hrl).trans f1
                have g2 := (HB4.out.frozen (p := ⟨rb, 5, none⟩) hrl).trans f2
                have HE : Hid (RE (((w3.setCell ⟨rb, 3, none⟩ (.slice za9 m zc9)).setCell ⟨rb, 4, none⟩ (.slice xs e.b.sure.length xt)).setCell ⟨rb, 5, none⟩ (.int .i64 (e.b.whole : Int))) P rb { e with b := e.b.trunc m } ∧ Own (fun k => k = rb) W (((w3.setCell ⟨rb, 3, none⟩ (.slice za9 m zc9)).setCell ⟨rb, 4, none⟩ (.slice xs e.b.sure.length xt)).setCell ⟨rb, 5, none⟩ (.int .i64 (e.b.whole : Int)))) := by
                  have h4 := HX.out
                  have e4 := h4.file1 (c := e.b.trunc m) (RQ.take h4.q2 m hm) (by rw [Dk.sure_trunc _ HFA.out]; exact h4.q3) (HFA.out.trunc m)
                  rw [HTC.out] at e4
                  exact ⟨⟨_, _, _, _, _, e4⟩, HO3.out.trans (own_three _) (fun k hk => .inl hk)⟩
                go_region
                go_wp2
                go_ret
                exact ⟨rfl, HE.out.1.below (bel (alloc1 _ _) ((Below.refl _ _).drew)), HE.out.2.trans (Own.of (T := fun k => k = rb) (bel (alloc1 _ _) ((Below.refl _ _).drew))) (fun k hk => .inl hk)⟩
      | false =>
        rw [hb] at hB
        simp only [Bool.false_eq_true, if_false]
        unfold RPost
        rcases hff with rfl | rfl
        · change m ≤ e.a.now.length at hm
          have hmm : ¬ (e.a.now.length : Int) < (m : Int) := by omega
          go_enter Try.func46, Try.ntmps46
          go_wp2_with (first
            | (go_at_call 71; refine hA.mono ?_; rintro e w2 ⟨rfl, he⟩; replace he := he.symm; subst he)
            | (go_at_call 72; refine hB.mono ?_; rintro e1 w3 ⟨rfl, ⟨fv', h3⟩, hO3⟩; have HE : Hid (RE w3 P rb e ∧ Own (fun k => k = rb) W w3) := ⟨⟨_, _, _, _, _, h3⟩, hO3⟩; clear h3 hO3))
          go_ret
          exact ⟨rfl, HE.out⟩
        · change m ≤ e.b.now.length at hm
          have hmm : ¬ (e.b.now.length : Int) < (m : Int) := by omega
          go_enter Try.func46, Try.ntmps46
          go_wp2_with (first
            | (go_at_call 71; refine hA.mono ?_; rintro e w2 ⟨rfl, he⟩; replace he := he.symm; subst he)
            | (go_at_call 72; refine hB.mono ?_; rintro e1 w3 ⟨rfl, ⟨fv', h3⟩, hO3⟩; have HE : Hid (RE w3 P rb e ∧ Own (fun k => k = rb) W w3) := ⟨⟨_, _, _, _, _, h3⟩, hO3⟩; clear h3 hO3))
          go_ret
          exact ⟨rfl, HE.out⟩
  · have HE : Hid (RPost W P rb (d.trunc f n) (.returned (.int .i64 (d.why f))) W) := by
      show RPost _ _ _ _ _ _
      unfold Dk.D.trunc
      rw [act_why hw]
      exact ⟨rfl, ⟨_, _, _, _, _, h⟩, Own.refl _ _⟩
    have hyb : (d.why f == 0) = false := by simpa using hw
    clear h
    generalize d.why f = y at *
    go_enter Try.func46, Try.ntmps46
    go_wp2_with (go_at_call 71; refine hA.mono ?_; rintro e w2 ⟨rfl, he⟩; replace he := he.symm; subst he)
    go_ret
    exact HE.out
end Go.Proofs.Ytcjbceidgaieaaa
