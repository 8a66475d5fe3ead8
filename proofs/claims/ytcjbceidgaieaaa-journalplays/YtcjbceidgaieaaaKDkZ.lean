/- The contract of the document's Start. -/
import Derived.Test.YtcjbceidgaieaaaKDkWY
import Derived.Deep.RegionWith
import Derived.Deep.RegionHeld3
import Derived.WalkMore
set_option linter.unusedVariables false
set_option linter.unusedSimpArgs false
namespace Go.Proofs.Ytcjbceidgaieaaa
open Go.RowKit
theorem takeH9 {md : Region.Mode} {ops : Array Oper} {Q : Exit → Act → World → Prop} {S : World → Prop} {fuel : Nat} {listed : Array Bool} {a : Act} {w : World} (i d : Nat) (v : Value) {oi : Oper} (hi : ops[i]? = some oi) (hd : oi.dst = some d)
    (hs : Region.noSelect ops = true) (hf : Region.free md ops listed i = true) (hr : (Region.ready md ops listed).contains i = true)
    (hQ : ∀ c a w, Q (.panic c) (a.put (some d) v) w → Q (.panic c) a w) (hy : YieldsIf Try.prog ops S oi v a) (hS : S w)
    (h : wpAnyH Try.prog md ops Q S fuel (listed.setIfInBounds i true) (a.put (some d) v) w) : wpAnyH Try.prog md ops Q S (fuel + 1) listed a w :=
  wpAnyH_take hi hs hf hr (by rw [hd]; exact hQ) hy hS (by rw [hd]; exact h)
theorem yi_min {ops : Array Oper} {S : World → Prop} {o : Oper} {a : Act} (hw : Region.wanted o (yielded ops a.tmps) = true) (s x : Operand) (ho : o.op = .call { callee := .builtin .min, args := #[s, x], argTypes := #[3, 3] }) (p q r : Int) (hs : a.eval s = .int .i64 p) (hx : a.eval x = .int .i64 q) (hr : (if q < p then q else p) = r) : YieldsIf Try.prog ops S o (.int .i64 r) a :=
  .inl ⟨hw, fun w _ => by
    unfold execOp
    simp only [ho, resolve, invoke, builtin, Sem.run_bind, Sem.run_pure, Result.andThen_ok, List.map_toArray, List.map_cons, List.map_nil, hs, hx, run_min_int2, hr]⟩
theorem yi_max {ops : Array Oper} {S : World → Prop} {o : Oper} {a : Act} (hw : Region.wanted o (yielded ops a.tmps) = true) (s x : Operand) (ho : o.op = .call { callee := .builtin .max, args := #[s, x], argTypes := #[3, 3] }) (p q r : Int) (hs : a.eval s = .int .i64 p) (hx : a.eval x = .int .i64 q) (hr : (if q > p then q else p) = r) : YieldsIf Try.prog ops S o (.int .i64 r) a :=
  .inl ⟨hw, fun w _ => by
    unfold execOp
    simp only [ho, resolve, invoke, builtin, Sem.run_bind, Sem.run_pure, Result.andThen_ok, List.map_toArray, List.map_cons, List.map_nil, hs, hx, run_max_int2, hr]⟩
theorem yi_cut {ops : Array Oper} {S : World → Prop} {o : Oper} {a : Act} (hw : Region.wanted o (yielded ops a.tmps) = true) (s x y : Operand) (ho : o.op = .slice 27 s (some x) (some y) none) (u v : Value) (p q : Int) (hs : a.eval s = u) (hx : a.eval x = .int .i64 p) (hy : a.eval y = .int .i64 q) (hr : ∀ W, (Instr.slice 27 u (some (.int .i64 p)) (some (.int .i64 q)) none).run Try.prog W = .ok v W) : YieldsIf Try.prog ops S o v a :=
  .inl ⟨hw, fun w _ => by
    unfold execOp
    simp only [ho, hs, hx, hy, Option.map_some, Option.map_none, run_sliceAt_slice (P := Try.prog) (h := under_bs), hr w, Sem.run_bind, Sem.run_pure, Result.andThen]⟩
theorem OwnsBytes.gen9 {w : World} {B : Nat} {v : Value} {l : List UInt8} (h : OwnsBytes w B v l) : ∃ L a c, Hid (L = l) ∧ v = .slice a L.length c ∧ OwnsBytes w B v L := by
  obtain ⟨a, c, e⟩ := h.form
  exact ⟨l, a, c, (rfl : l = l), e, h⟩
theorem max_kept (k : Int) : (if (0 : Int) > k then (0 : Int) else k) = max k 0 := by omega
theorem min_kept (c : Dk.Cn) (k : Int) (h : c.whole ≤ c.now.length) : (if ((c.now.length : Int) - (c.whole : Int)) < max k 0 then ((c.now.length : Int) - (c.whole : Int)) else max k 0) = (c.kept k : Int) := by
  unfold Dk.Cn.kept
  split <;> omega
set_option maxHeartbeats 60000000 in
set_option maxRecDepth 100000 in
theorem RStart_any {W : World} {P : Nat → Prop} {rb : Nat} {d : Dk.D} (h : RE W P rb d) (hP : ∀ k, W.heap.size ≤ k → P k) (k0 k1 : Int) (c0 c1 : Bool) (hk0 : -9223372036854775808 ≤ k0 ∧ k0 ≤ 9223372036854775807) (hk1 : -9223372036854775808 ≤ k1 ∧ k1 ≤ 9223372036854775807) :
    Calls Try.prog 23 #[ptr rb 0, lossV k0 k1 c0 c1] W (RPost W P rb (d.start k0 k1 c0 c1)) := by
  obtain ⟨fv, b0, s0, b1, s1, h⟩ := h
  have hB := alloc1 W (.cells (lossX k0 k1 c0 c1) 60)
  have hL := heap_new W (.cells (lossX k0 k1 c0 c1) 60)
  have h1 := h.below hB
  have hrl := h.lt
  have hon : (W.alloc (.cells (lossX k0 k1 c0 c1) 60)).cell? ⟨rb, 8, none⟩ = some (.bool (!d.on)) := h1.cell 8
  cases hd : d.on with
  | true =>
    rw [hd] at hon
    have HP : Hid (RPost W P rb (d.start k0 k1 c0 c1) (.returned (.int .i64 13)) (W.alloc (.cells (lossX k0 k1 c0 c1) 60))) := by
      show RPost _ _ _ _ _ _
      unfold Dk.D.start
      rw [if_pos hd]
      exact ⟨rfl, ⟨_, _, _, _, _, h1⟩, Own.of hB⟩
    clear h h1 hB hL hd
    go_enter Try.func23, Try.ntmps23
    go_wp2
    go_ret
    exact HP.out
  | false =>
    rw [hd] at hon
    have HD : Hid (d.start k0 k1 c0 c1 = (0, { d with a := d.a.lose k0 c0, b := d.b.lose k1 c1, on := true, fuse := -1 })) := by
      show d.start k0 k1 c0 c1 = _
      unfold Dk.D.start
      rw [if_neg (by rw [hd]; decide)]
    have h9 : (W.alloc (.cells (lossX k0 k1 c0 c1) 60)).cell? ⟨rb, 9, none⟩ = some (.int .i64 fv) := h1.cell 9
    have f8 := h1.free 8
    have f9 := h1.free 9
    have HH := hide9 h
    have HLL := hide9 hL
    have HRL := hide9 hrl
    have HW1 : Hid (RAt (((W.alloc (.cells (lossX k0 k1 c0 c1) 60)).setCell ⟨rb, 8, none⟩ (.bool false)).setCell ⟨rb, 9, none⟩ (.int .i64 (-1))) P rb { d with on := true, fuse := -1 } (-1) b0 s0 b1 s1) := h1.on9
    clear h h1 hB hL hd hrl
    go_enter Try.func23, Try.ntmps23
    go_wp2
    have HOW : Hid (Own (fun k => k = rb) W (((W.alloc (.cells (lossX k0 k1 c0 c1) 60)).setCell ⟨rb, 8, none⟩ (.bool false)).setCell ⟨rb, 9, none⟩ (.int .i64 (-1)))) := ((Own.of (T := fun k => k = rb) (alloc1 W _)).trans (Own.set (T := fun k => k = rb) rfl _ 8 _) (fun k hk => .inl hk)).trans (Own.set (T := fun k => k = rb) rfl _ 9 _) (fun k hk => .inl hk)
    have HLW : Hid ((((W.alloc (.cells (lossX k0 k1 c0 c1) 60)).setCell ⟨rb, 8, none⟩ (.bool false)).setCell ⟨rb, 9, none⟩ (.int .i64 (-1))).heap[W.heap.size]? = some (.cells (lossX k0 k1 c0 c1) 60 (0, 0))) := ((Below.heap_setCell _ _ _ _ (by have := HRL.out; show W.heap.size ≠ rb; omega)).trans (Below.heap_setCell _ _ _ _ (by have := HRL.out; show W.heap.size ≠ rb; omega))).trans HLL.out
    generalize ((W.alloc (.cells (lossX k0 k1 c0 c1) 60)).setCell ⟨rb, 8, none⟩ (.bool false)).setCell ⟨rb, 9, none⟩ (.int .i64 (-1)) = W1 at *
    clear HLL HH hon h9 f8 f9
    go_loopw [5] (fun i wr => ((i = .int .i64 0 ∧ RE wr P rb { d with on := true, fuse := -1 }) ∨ (i = .int .i64 1 ∧ RE wr P rb { d with on := true, fuse := -1, a := d.a.lose k0 c0 }) ∨ (i = .int .i64 2 ∧ RE wr P rb { d with on := true, fuse := -1, a := d.a.lose k0 c0, b := d.b.lose k1 c1 })) ∧ Own (fun k => k = rb) W wr ∧ wr.heap[W.heap.size]? = some (.cells (lossX k0 k1 c0 c1) 60 (0, 0))) (fun i _ => 2 - (intOf i).toNat)
    case atStart => exact ⟨.inl ⟨rfl, ⟨_, _, _, _, _, HW1.out⟩⟩, HOW.out, HLW.out⟩
    case round =>
      obtain ⟨hcs, hO, hl⟩ := hrel
      clear HW1 HOW HLW
      have l0 : wr.cell? ⟨W.heap.size, 0, none⟩ = some (.int .i64 k0) := Lib.cell_of_heap hl 0
      have l1 : wr.cell? ⟨W.heap.size, 1, none⟩ = some (.int .i64 k1) := Lib.cell_of_heap hl 1
      have l2 : wr.cell? ⟨W.heap.size, 2, none⟩ = some (.bool c0) := Lib.cell_of_heap hl 2
      have l3 : wr.cell? ⟨W.heap.size, 3, none⟩ = some (.bool c1) := Lib.cell_of_heap hl 3
      have HLL := hide9 hl
      have HO := hide9 hO
      clear hl hO
      rcases hcs with ⟨rfl, hE⟩ | ⟨rfl, hE⟩ | ⟨rfl, hE⟩
      · obtain ⟨gv, bb0, ss0, bb1, ss1, h3⟩ := hE
        have hfa : d.a.Fine := h3.fine.a
        obtain ⟨xs, xt, hxs⟩ := h3.q1.rd.form
        subst hxs
        have hqb : RQ wr P rb bb0 d.a.now := h3.q0
        have HX := hide9 h3
        have y1 : wr.cell? ⟨rb, 1, none⟩ = some (.slice xs d.a.sure.length xt) := h3.cell 1
        have y2 : wr.cell? ⟨rb, 2, none⟩ = some (.int .i64 d.a.cutv) := h3.cell 2
        have y0 : wr.cell? ⟨rb, 0, none⟩ = some bb0 := h3.cell 0
        have fr0 := h3.free 0
        have fr1 := h3.free 1
        have fr2 := h3.free 2
        have HRW := hide9 h3.lt
        have HSR : Hid (RB wr (.slice xs d.a.sure.length xt) d.a.sure) := h3.q1.rd
        have hsc := HSR.out.cap
        have hsl := sure_length _ hfa
        have hwl := hfa.whole
        have HFA := hide9 hfa
        clear h3 hfa
        obtain ⟨ba, bc, hbf⟩ := hqb.rd.form
        subst hbf
        have HBR : Hid (RB wr (.slice ba d.a.now.length bc) d.a.now) := hqb.rd
        have hbc := HBR.out.cap
        clear hqb
        by_cases hg : d.a.gone = []
        · have hcv : d.a.cutv = -1 := by unfold Dk.Cn.cutv; rw [if_pos hg]
          have hgl : d.a.gone.length = 0 := by rw [hg]; rfl
          rw [hcv] at y2
          have HG : Hid (d.a.gone = [] ∨ c0 = true) := .inl hg
          clear hg hcv
          have HSLN := hide9 hsl
          have hnow := HFA.out.now
          have hls : IntKind.i64.wrap ((d.a.now.length : Int) - (d.a.whole : Int)) = (d.a.now.length : Int) - (d.a.whole : Int) := w64 rfl (by have := HSLN.out; omega) (by have := HSLN.out; omega)
          have hsum : IntKind.i64.wrap ((d.a.whole : Int) + (d.a.kept k0 : Int)) = (d.a.whole : Int) + (d.a.kept k0 : Int) := w64 rfl (by have := HSLN.out; omega) (by have : d.a.kept k0 ≤ d.a.now.length - d.a.whole := (by unfold Dk.Cn.kept; omega); omega)
          have HKP : Hid (d.a.kept k0 ≤ d.a.now.length - d.a.whole) := by show d.a.kept k0 ≤ _; unfold Dk.Cn.kept; omega
          have HB5 := hide9 (alloc1 wr (.cells #[.slice ba d.a.now.length bc, .slice xs d.a.whole xt, .int .i64 (-1)] 29))
          have lk0 := (HB5.out.cell (p := ⟨W.heap.size, 0, none⟩) (cell_lt l0)).trans l0
          have lc0 := (HB5.out.cell (p := ⟨W.heap.size, 2, none⟩) (cell_lt l2)).trans l2
          have xb0 : (wr.alloc (.cells #[.slice ba d.a.now.length bc, .slice xs d.a.whole xt, .int .i64 (-1)] 29)).cell? ⟨wr.heap.size, 0, none⟩ = some (.slice ba d.a.now.length bc) := Lib.cell_of_heap (heap_new wr _) 0
          obtain ⟨ma, mc, hms', hmr⟩ := cut_mid HBR.out d.a.whole (d.a.whole + d.a.kept k0) (by have := HSLN.out; omega) (by have := HKP.out; omega)
          rw [Nat.add_sub_cancel_left] at hmr
          have hms : ∀ W', (Instr.slice 27 (.slice ba d.a.now.length bc) (some (.int .i64 (d.a.whole : Int))) (some (.int .i64 ((d.a.whole : Int) + (d.a.kept k0 : Int)))) none).run Try.prog W' = .ok (.slice ma (d.a.kept k0) mc) W' := fun W' => by
            have := hms' W'
            rw [Nat.add_sub_cancel_left] at this
            exact this
          have HMS := hide9 hms
          have HMR := hide9 hmr
          clear hmr hms hms'
          go_wp2
          obtain ⟨S, hS1⟩ : ∃ S : World → Prop, ∀ W', S W' ↔ (W'.cell? ⟨wr.heap.size, 0, none⟩ = some (.slice ba d.a.now.length bc) ∧ W'.cell? ⟨W.heap.size, 0, none⟩ = some (.int .i64 k0)) := ⟨_, fun _ => Iff.rfl⟩
          refine wp_region_held_drew (S := S) (by kernel_rfl) ((hS1 _).2 ⟨xb0, lk0⟩) (fun hS => ?_)
          refine takeH9 0 55 (.int .i64 0) rfl rfl (by kernel_rfl) (by kernel_rfl) (by kernel_rfl) (fun _ _ _ h => h) (Or.inl ⟨by kernel_rfl, fun W _ => by go_simp⟩) hS ?_
          simp only [Act.put, List.setIfInBounds_toArray, List.set_cons_zero, List.set_cons_succ]
          refine takeH9 1 56 (.pointer (some ⟨W.heap.size, 0, none⟩)) rfl rfl (by kernel_rfl) (by kernel_rfl) (by kernel_rfl) (fun _ _ _ h => h) (Or.inl ⟨by kernel_rfl, fun W _ => by go_simp⟩) hS ?_
          simp only [Act.put, List.setIfInBounds_toArray, List.set_cons_zero, List.set_cons_succ]
          refine takeH9 2 57 (.pointer (some ⟨W.heap.size, 0, none⟩)) rfl rfl (by kernel_rfl) (by kernel_rfl) (by kernel_rfl) (fun _ _ _ h => h) (Or.inl ⟨by kernel_rfl, fun W _ => by go_simp⟩) hS ?_
          simp only [Act.put, List.setIfInBounds_toArray, List.set_cons_zero, List.set_cons_succ]
          refine takeH9 3 58 (.int .i64 k0) rfl rfl (by kernel_rfl) (by kernel_rfl) (by kernel_rfl) (fun _ _ _ h => h) (Or.inl ⟨by kernel_rfl, fun W h => by have h' := (hS1 W).1 h; obtain ⟨e1, e2⟩ := h'; go_simp⟩) hS ?_
          simp only [Act.put, List.setIfInBounds_toArray, List.set_cons_zero, List.set_cons_succ]
          refine takeH9 4 59 (.int .i64 (max k0 0)) rfl rfl (by kernel_rfl) (by kernel_rfl) (by kernel_rfl) (fun _ _ _ h => h) (yi_max (by kernel_rfl) (.tmp 58) (.const (.int .i64 0)) rfl k0 0 _ (by kernel_rfl) (by kernel_rfl) (max_kept k0)) hS ?_
          simp only [Act.put, List.setIfInBounds_toArray, List.set_cons_zero, List.set_cons_succ]
          refine takeH9 5 60 (.pointer (some ⟨wr.heap.size, 0, none⟩)) rfl rfl (by kernel_rfl) (by kernel_rfl) (by kernel_rfl) (fun _ _ _ h => h) (Or.inl ⟨by kernel_rfl, fun W _ => by go_simp⟩) hS ?_
          simp only [Act.put, List.setIfInBounds_toArray, List.set_cons_zero, List.set_cons_succ]
          refine takeH9 6 61 (.slice ba d.a.now.length bc) rfl rfl (by kernel_rfl) (by kernel_rfl) (by kernel_rfl) (fun _ _ _ h => h) (Or.inl ⟨by kernel_rfl, fun W h => by have h' := (hS1 W).1 h; obtain ⟨e1, e2⟩ := h'; go_simp⟩) hS ?_
          simp only [Act.put, List.setIfInBounds_toArray, List.set_cons_zero, List.set_cons_succ]
          refine takeH9 7 62 (.int .i64 (d.a.now.length : Int)) rfl rfl (by kernel_rfl) (by kernel_rfl) (by kernel_rfl) (fun _ _ _ h => h) (Or.inl ⟨by kernel_rfl, fun W _ => by go_simp⟩) hS ?_
          simp only [Act.put, List.setIfInBounds_toArray, List.set_cons_zero, List.set_cons_succ]
          refine takeH9 8 63 (.slice xs d.a.whole xt) rfl rfl (by kernel_rfl) (by kernel_rfl) (by kernel_rfl) (fun _ _ _ h => h) (Or.inl ⟨by kernel_rfl, fun W _ => by go_simp⟩) hS ?_
          simp only [Act.put, List.setIfInBounds_toArray, List.set_cons_zero, List.set_cons_succ]
          refine takeH9 9 64 (.int .i64 (d.a.whole : Int)) rfl rfl (by kernel_rfl) (by kernel_rfl) (by kernel_rfl) (fun _ _ _ h => h) (Or.inl ⟨by kernel_rfl, fun W _ => by go_simp⟩) hS ?_
          simp only [Act.put, List.setIfInBounds_toArray, List.set_cons_zero, List.set_cons_succ]
          refine takeH9 10 65 (.int .i64 ((d.a.now.length : Int) - (d.a.whole : Int))) rfl rfl (by kernel_rfl) (by kernel_rfl) (by kernel_rfl) (fun _ _ _ h => h) (Or.inl ⟨by kernel_rfl, fun W _ => by go_simp⟩) hS ?_
          simp only [Act.put, List.setIfInBounds_toArray, List.set_cons_zero, List.set_cons_succ]
          refine takeH9 11 66 (.int .i64 (d.a.kept k0 : Int)) rfl rfl (by kernel_rfl) (by kernel_rfl) (by kernel_rfl) (fun _ _ _ h => h) (yi_min (by kernel_rfl) (.tmp 59) (.tmp 65) rfl (max k0 0) _ _ (by kernel_rfl) (by kernel_rfl) (min_kept d.a k0 hwl)) hS ?_
          simp only [Act.put, List.setIfInBounds_toArray, List.set_cons_zero, List.set_cons_succ]
          refine takeH9 12 8 (.int .i64 (d.a.kept k0 : Int)) rfl rfl (by kernel_rfl) (by kernel_rfl) (by kernel_rfl) (fun _ _ _ h => h) (Or.inl ⟨by kernel_rfl, fun W _ => by go_simp⟩) hS ?_
          simp only [Act.put, List.setIfInBounds_toArray, List.set_cons_zero, List.set_cons_succ]
          refine wpAnyH_done (by kernel_rfl) ?_ _
          clear hS hS1 lk0
          have HBD : Hid (Below wr.heap.size wr ((wr.alloc (.cells #[.slice ba d.a.now.length bc, .slice xs d.a.whole xt, .int .i64 (-1)] 29)).drew)) := HB5.out.drew
          have hbase : RB ((wr.alloc (.cells #[.slice ba d.a.now.length bc, .slice xs d.a.whole xt, .int .i64 (-1)] 29)).drew).drew (.slice xs d.a.whole xt) (d.a.sure.take d.a.whole) := ((HSR.out.below HBD.out).take d.a.whole (by have := HSLN.out; omega)).keep (fun _ _ _ => rfl)
          have HMID : Hid (RB ((wr.alloc (.cells #[.slice ba d.a.now.length bc, .slice xs d.a.whole xt, .int .i64 (-1)] 29)).drew).drew (.slice ma (d.a.kept k0) mc) ((d.a.now.drop (d.a.whole)).take (d.a.kept k0))) := (HMR.out.below HBD.out).keep (fun _ _ _ => rfl)
          have xb0 : ((wr.alloc (.cells #[.slice ba d.a.now.length bc, .slice xs d.a.whole xt, .int .i64 (-1)] 29)).drew).cell? ⟨wr.heap.size, 0, none⟩ = some (.slice ba d.a.now.length bc) := xb0
          go_wp2
          generalize (wr.alloc (.cells #[.slice ba d.a.now.length bc, .slice xs d.a.whole xt, .int .i64 (-1)] 29)).drew = w5 at *
          have hxl := cell_lt xb0
          have hmin : (if (d.a.now.length : Int) < (d.a.whole : Int) then (d.a.now.length : Int) else (d.a.whole : Int)) = (d.a.whole : Int) := if_neg (by have := HSLN.out; omega)
          have hmaxk : (if (0 : Int) > (d.a.kept k0 : Int) then (0 : Int) else (d.a.kept k0 : Int)) = (d.a.kept k0 : Int) := if_neg (by have := HSLN.out; omega)
          have hl1 : ([] : List UInt8).length + (d.a.sure.take d.a.whole).length ≤ 1000000000 := by have := HSLN.out; simp; omega
          have hl2 : (d.a.sure.take d.a.whole).length + ((d.a.now.drop (d.a.whole)).take (d.a.kept k0)).length ≤ 1000000000 := by have := HSLN.out; simp; omega
          have HLB : Hid ((d.a.sure.take d.a.whole).length = d.a.whole) := by show (d.a.sure.take d.a.whole).length = _; have := HSLN.out; simp; omega
          have hms := HMS.out
          obtain ⟨S2, hS1⟩ : ∃ S : World → Prop, ∀ W', S W' ↔ (W'.cell? ⟨wr.heap.size, 0, none⟩ = some (.slice ba d.a.now.length bc) ∧ True) := ⟨_, fun _ => Iff.rfl⟩
          refine wp_region_held_drew (S := S2) (by kernel_rfl) ((hS1 _).2 ⟨xb0, trivial⟩) (fun hS => ?_)
          refine takeH9 0 67 (.slice xs d.a.whole xt) rfl rfl (by kernel_rfl) (by kernel_rfl) (by kernel_rfl) (fun _ _ _ h => h) (Or.inl ⟨by kernel_rfl, fun W _ => by go_simp⟩) hS ?_
          simp only [Act.put, List.setIfInBounds_toArray, List.set_cons_zero, List.set_cons_succ]
          refine takeH9 2 69 (.pointer (some ⟨wr.heap.size, 0, none⟩)) rfl rfl (by kernel_rfl) (by kernel_rfl) (by kernel_rfl) (fun _ _ _ h => h) (Or.inl ⟨by kernel_rfl, fun W _ => by go_simp⟩) hS ?_
          simp only [Act.put, List.setIfInBounds_toArray, List.set_cons_zero, List.set_cons_succ]
          refine takeH9 3 70 (.slice ba d.a.now.length bc) rfl rfl (by kernel_rfl) (by kernel_rfl) (by kernel_rfl) (fun _ _ _ h => h) (Or.inl ⟨by kernel_rfl, fun W h => by have h' := (hS1 W).1 h; obtain ⟨e1, e2⟩ := h'; go_simp⟩) hS ?_
          simp only [Act.put, List.setIfInBounds_toArray, List.set_cons_zero, List.set_cons_succ]
          refine takeH9 4 71 (.slice xs d.a.whole xt) rfl rfl (by kernel_rfl) (by kernel_rfl) (by kernel_rfl) (fun _ _ _ h => h) (Or.inl ⟨by kernel_rfl, fun W _ => by go_simp⟩) hS ?_
          simp only [Act.put, List.setIfInBounds_toArray, List.set_cons_zero, List.set_cons_succ]
          refine takeH9 5 72 (.int .i64 (d.a.whole : Int)) rfl rfl (by kernel_rfl) (by kernel_rfl) (by kernel_rfl) (fun _ _ _ h => h) (Or.inl ⟨by kernel_rfl, fun W _ => by go_simp⟩) hS ?_
          simp only [Act.put, List.setIfInBounds_toArray, List.set_cons_zero, List.set_cons_succ]
          refine takeH9 6 73 (.pointer (some ⟨wr.heap.size, 0, none⟩)) rfl rfl (by kernel_rfl) (by kernel_rfl) (by kernel_rfl) (fun _ _ _ h => h) (Or.inl ⟨by kernel_rfl, fun W _ => by go_simp⟩) hS ?_
          simp only [Act.put, List.setIfInBounds_toArray, List.set_cons_zero, List.set_cons_succ]
          refine takeH9 7 74 (.slice ba d.a.now.length bc) rfl rfl (by kernel_rfl) (by kernel_rfl) (by kernel_rfl) (fun _ _ _ h => h) (Or.inl ⟨by kernel_rfl, fun W h => by have h' := (hS1 W).1 h; obtain ⟨e1, e2⟩ := h'; go_simp⟩) hS ?_
          simp only [Act.put, List.setIfInBounds_toArray, List.set_cons_zero, List.set_cons_succ]
          refine takeH9 8 75 (.int .i64 (d.a.now.length : Int)) rfl rfl (by kernel_rfl) (by kernel_rfl) (by kernel_rfl) (fun _ _ _ h => h) (Or.inl ⟨by kernel_rfl, fun W _ => by go_simp⟩) hS ?_
          simp only [Act.put, List.setIfInBounds_toArray, List.set_cons_zero, List.set_cons_succ]
          refine takeH9 9 76 (.int .i64 (d.a.whole : Int)) rfl rfl (by kernel_rfl) (by kernel_rfl) (by kernel_rfl) (fun _ _ _ h => h) (yi_min (by kernel_rfl) (.tmp 72) (.tmp 75) rfl _ _ _ (by kernel_rfl) (by kernel_rfl) hmin) hS ?_
          simp only [Act.put, List.setIfInBounds_toArray, List.set_cons_zero, List.set_cons_succ]
          refine takeH9 10 77 (.slice xs d.a.whole xt) rfl rfl (by kernel_rfl) (by kernel_rfl) (by kernel_rfl) (fun _ _ _ h => h) (Or.inl ⟨by kernel_rfl, fun W _ => by go_simp⟩) hS ?_
          simp only [Act.put, List.setIfInBounds_toArray, List.set_cons_zero, List.set_cons_succ]
          refine takeH9 11 78 (.int .i64 (d.a.whole : Int)) rfl rfl (by kernel_rfl) (by kernel_rfl) (by kernel_rfl) (fun _ _ _ h => h) (Or.inl ⟨by kernel_rfl, fun W _ => by go_simp⟩) hS ?_
          simp only [Act.put, List.setIfInBounds_toArray, List.set_cons_zero, List.set_cons_succ]
          refine takeH9 12 79 (.pointer (some ⟨wr.heap.size, 0, none⟩)) rfl rfl (by kernel_rfl) (by kernel_rfl) (by kernel_rfl) (fun _ _ _ h => h) (Or.inl ⟨by kernel_rfl, fun W _ => by go_simp⟩) hS ?_
          simp only [Act.put, List.setIfInBounds_toArray, List.set_cons_zero, List.set_cons_succ]
          refine takeH9 13 80 (.slice ba d.a.now.length bc) rfl rfl (by kernel_rfl) (by kernel_rfl) (by kernel_rfl) (fun _ _ _ h => h) (Or.inl ⟨by kernel_rfl, fun W h => by have h' := (hS1 W).1 h; obtain ⟨e1, e2⟩ := h'; go_simp⟩) hS ?_
          simp only [Act.put, List.setIfInBounds_toArray, List.set_cons_zero, List.set_cons_succ]
          refine takeH9 14 81 (.int .i64 (d.a.now.length : Int)) rfl rfl (by kernel_rfl) (by kernel_rfl) (by kernel_rfl) (fun _ _ _ h => h) (Or.inl ⟨by kernel_rfl, fun W _ => by go_simp⟩) hS ?_
          simp only [Act.put, List.setIfInBounds_toArray, List.set_cons_zero, List.set_cons_succ]
          refine takeH9 15 82 (.int .i64 (d.a.whole : Int)) rfl rfl (by kernel_rfl) (by kernel_rfl) (by kernel_rfl) (fun _ _ _ h => h) (yi_min (by kernel_rfl) (.tmp 78) (.tmp 81) rfl _ _ _ (by kernel_rfl) (by kernel_rfl) hmin) hS ?_
          simp only [Act.put, List.setIfInBounds_toArray, List.set_cons_zero, List.set_cons_succ]
          refine takeH9 16 83 (.int .i64 (d.a.kept k0 : Int)) rfl rfl (by kernel_rfl) (by kernel_rfl) (by kernel_rfl) (fun _ _ _ h => h) (Or.inl ⟨by kernel_rfl, fun W _ => by go_simp⟩) hS ?_
          simp only [Act.put, List.setIfInBounds_toArray, List.set_cons_zero, List.set_cons_succ]
          refine takeH9 17 84 (.int .i64 (d.a.kept k0 : Int)) rfl rfl (by kernel_rfl) (by kernel_rfl) (by kernel_rfl) (fun _ _ _ h => h) (yi_max (by kernel_rfl) (.tmp 83) (.const (.int .i64 0)) rfl _ _ _ (by kernel_rfl) (by kernel_rfl) hmaxk) hS ?_
          simp only [Act.put, List.setIfInBounds_toArray, List.set_cons_zero, List.set_cons_succ]
          refine takeH9 18 85 (.int .i64 ((d.a.whole : Int) + (d.a.kept k0 : Int))) rfl rfl (by kernel_rfl) (by kernel_rfl) (by kernel_rfl) (fun _ _ _ h => h) (Or.inl ⟨by kernel_rfl, fun W _ => by go_simp⟩) hS ?_
          simp only [Act.put, List.setIfInBounds_toArray, List.set_cons_zero, List.set_cons_succ]
          refine takeH9 19 86 (.slice ma (d.a.kept k0) mc) rfl rfl (by kernel_rfl) (by kernel_rfl) (by kernel_rfl) (fun _ _ _ h => h) (yi_cut (by kernel_rfl) (.tmp 70) (.tmp 76) (.tmp 85) rfl (.slice ba d.a.now.length bc) _ _ _ (by kernel_rfl) (by kernel_rfl) (by kernel_rfl) hms) hS ?_
          simp only [Act.put, List.setIfInBounds_toArray, List.set_cons_zero, List.set_cons_succ]
          refine wpAnyH_ready (rs := [1]) (by kernel_rfl) (by simp) ?_
          refine AllReadyH.cons rfl (fun K hK => ?_) AllReadyH.nil
          refine step_append_RB rfl (.const (.slice none 0 0)) (.tmp 67) rfl (.slice none 0 0) [] rfl (OwnsBytes.nil _ 0) (.slice xs d.a.whole xt) (d.a.sure.take d.a.whole) (by kernel_rfl) hbase hl1 ?_
          intro v1 w6 g1 g2 g3
          have hB6 := below_grown g2
          have hm6 := HMID.out.below hB6
          have xb6 := (hB6.cell (p := ⟨wr.heap.size, 0, none⟩) hxl).trans xb0
          have g1' : OwnsBytes w6 0 v1 (d.a.sure.take d.a.whole) := g1
          obtain ⟨va, vc, hvf⟩ := g1'.form
          rw [HLB.out] at hvf
          subst hvf
          have G1 := hide9 g1'
          have G3 : Hid ((Value.slice va (d.a.whole) vc).ownBlock = none ∨ (Value.slice va (d.a.whole) vc).ownBlock = some w5.heap.size) := g3
          clear g1 g2 g3 g1'
          refine hK.out _ _ ((hS1 _).2 ⟨xb6, trivial⟩) (fun hS => ?_)
          clear hK K
          simp only [Act.put, List.setIfInBounds_toArray, List.set_cons_zero, List.set_cons_succ]
          refine wpAnyH_ready (rs := [20]) (by kernel_rfl) (by simp) ?_
          refine AllReadyH.cons rfl (fun K hK => ?_) AllReadyH.nil
          refine step_append_RB rfl (.tmp 68) (.tmp 86) rfl (.slice va (d.a.whole) vc) _ (by kernel_rfl) G1.out (.slice ma (d.a.kept k0) mc) _ (by kernel_rfl) hm6 hl2 ?_
          intro v2 w7 g4 g5 g6
          have hB7 : Below w5.heap.size w5 w7 := (bel ((Below.refl _ w5).drew) hB6).trans ⟨g5.os, g5.tape, g5.output, g5.size, fun k hk => g5.block k (Nat.lt_of_lt_of_le hk hB6.size) (fun e2 => by rcases G3.out with e3 | e3 <;> rw [e3] at e2 <;> cases e2; exact Nat.lt_irrefl _ hk)⟩
          have hv2 : OwnsBytes w7 w5.heap.size v2 (d.a.sure.take d.a.whole ++ (d.a.now.drop (d.a.whole)).take (d.a.kept k0)) := g4.base (fun k hk => by
            rcases g6 with e | e
            · rw [e] at hk
              rcases G3.out with e3 | e3 <;> rw [e3] at hk <;> cases hk
              exact Nat.le_refl _
            · rw [e] at hk
              cases hk
              exact hB6.size)
          have xb7 := (hB7.cell (p := ⟨wr.heap.size, 0, none⟩) hxl).trans xb0
          have HB7 := hide9 hB7
          obtain ⟨L2, wa, wc, HL2, hvf2, hv2'⟩ := hv2.gen9
          have HV2 := hide9 hv2'
          clear g4 g5 g6 hB7 hv2 hv2'
          refine hK.out _ _ ((hS1 _).2 ⟨xb7, trivial⟩) (fun hS => ?_)
          clear hK K
          simp only [Act.put, List.setIfInBounds_toArray, List.set_cons_zero, List.set_cons_succ]
          refine takeH9 21 9 (v2) rfl rfl (by kernel_rfl) (by kernel_rfl) (by kernel_rfl) (fun _ _ _ h => h) (Or.inl ⟨by kernel_rfl, fun W _ => by go_simp⟩) hS ?_
          simp only [Act.put, List.setIfInBounds_toArray, List.set_cons_zero, List.set_cons_succ]
          refine wpAnyH_done (by kernel_rfl) ?_ _
          subst hvf2
          have HBw := hide9 (bel HBD.out HB7.out)
          have h7 := HX.out.below HBw.out
          have y0 := h7.cell 0
          have y1 := h7.cell 1
          have y2 := h7.cell 2
          have fr0 := h7.free 0
          have fr1 := h7.free 1
          have fr2 := h7.free 2
          have H7 := hide9 h7
          clear h7 hS hS1 xb7 xb6 hxl xb0 hbase hm6
          go_wp2
          have hleft : d.a.left k0 c0 = L2 := by rw [HL2.out]; exact left_stay d.a HFA.out c0 HG.out k0
          have hq : RQ w7 P rb (.slice wa L2.length wc) L2 := ⟨HV2.out.reads, fun k e => by
            have h1 := (HV2.out.lt e).1
            have h2 := HBD.out.size
            have h3 := HO.out.size
            have h4 := HRW.out
            exact ⟨hP k (by have := HSLN.out; omega), by omega, (HV2.out.lt e).2⟩⟩
          have e4 := H7.out.file0 (c := d.a.lose k0 c0) (v := .slice wa L2.length wc) (s := .slice wa L2.length wc) (by show RQ w7 P rb _ (d.a.left k0 c0); rw [hleft]; exact hq) (by rw [lose_sure, hleft]; exact hq) (HFA.out.lose k0 c0)
          have hll := (Array.getElem?_eq_some_iff.1 HLL.out).1
          have hll9 := HLL.out
          have hne : W.heap.size ≠ rb := by have := HRL.out; omega
          refine ⟨⟨.inr (.inl ⟨rfl, ⟨_, _, _, _, _, e4⟩⟩), (HO.out.trans (Own.of (T := fun k => k = rb) HBw.out) (fun k hk => .inl hk)).trans (own_three w7) (fun k hk => .inl hk), ?_⟩, by simp [intOf]⟩
          exact (((Below.heap_setCell _ _ _ _ hne).trans (Below.heap_setCell _ _ _ _ hne)).trans (Below.heap_setCell _ _ _ _ hne)).trans ((HBw.out.block _ hll).trans hll9)
        · have hcv : d.a.cutv = (d.a.whole : Int) := by unfold Dk.Cn.cutv; rw [if_neg hg]
          rw [hcv] at y2
          have hwnn : (0 : Int) ≤ (d.a.whole : Int) := by omega
          have hwnn2 : ¬ (d.a.whole : Int) < 0 := by omega
          have HGN := hide9 hg
          clear hg hcv
          cases hcut : c0 with
          | true =>
            rw [hcut] at l2
            have HG : Hid (d.a.gone = [] ∨ c0 = true) := .inr hcut
            clear hcut
            have HSLN := hide9 hsl
            clear hsl
            have hct := (cut_to HSR.out d.a.whole (by have := HSLN.out; omega)).1
            have hnow := HFA.out.now
            have hls : IntKind.i64.wrap ((d.a.now.length : Int) - (d.a.whole : Int)) = (d.a.now.length : Int) - (d.a.whole : Int) := w64 rfl (by have := HSLN.out; omega) (by have := HSLN.out; omega)
            have hsum : IntKind.i64.wrap ((d.a.whole : Int) + (d.a.kept k0 : Int)) = (d.a.whole : Int) + (d.a.kept k0 : Int) := w64 rfl (by have := HSLN.out; omega) (by have : d.a.kept k0 ≤ d.a.now.length - d.a.whole := (by unfold Dk.Cn.kept; omega); omega)
            have HKP : Hid (d.a.kept k0 ≤ d.a.now.length - d.a.whole) := by show d.a.kept k0 ≤ _; unfold Dk.Cn.kept; omega
            have HB5 := hide9 (alloc1 wr (.cells #[.slice ba d.a.now.length bc, .slice xs d.a.sure.length xt, .int .i64 (d.a.whole : Int)] 29))
            have lk0 := (HB5.out.cell (p := ⟨W.heap.size, 0, none⟩) (cell_lt l0)).trans l0
            have lc0 := (HB5.out.cell (p := ⟨W.heap.size, 2, none⟩) (cell_lt l2)).trans l2
            have xb0 : (wr.alloc (.cells #[.slice ba d.a.now.length bc, .slice xs d.a.sure.length xt, .int .i64 (d.a.whole : Int)] 29)).cell? ⟨wr.heap.size, 0, none⟩ = some (.slice ba d.a.now.length bc) := Lib.cell_of_heap (heap_new wr _) 0
            obtain ⟨ma, mc, hms', hmr⟩ := cut_mid HBR.out d.a.whole (d.a.whole + d.a.kept k0) (by have := HSLN.out; omega) (by have := HKP.out; omega)
            rw [Nat.add_sub_cancel_left] at hmr
            have hms : ∀ W', (Instr.slice 27 (.slice ba d.a.now.length bc) (some (.int .i64 (d.a.whole : Int))) (some (.int .i64 ((d.a.whole : Int) + (d.a.kept k0 : Int)))) none).run Try.prog W' = .ok (.slice ma (d.a.kept k0) mc) W' := fun W' => by
              have := hms' W'
              rw [Nat.add_sub_cancel_left] at this
              exact this
            have HMS := hide9 hms
            have HMR := hide9 hmr
            clear hmr hms hms'
            go_wp2
            obtain ⟨S, hS1⟩ : ∃ S : World → Prop, ∀ W', S W' ↔ (W'.cell? ⟨wr.heap.size, 0, none⟩ = some (.slice ba d.a.now.length bc) ∧ W'.cell? ⟨W.heap.size, 0, none⟩ = some (.int .i64 k0)) := ⟨_, fun _ => Iff.rfl⟩
            refine wp_region_held_drew (S := S) (by kernel_rfl) ((hS1 _).2 ⟨xb0, lk0⟩) (fun hS => ?_)
            refine takeH9 0 55 (.int .i64 0) rfl rfl (by kernel_rfl) (by kernel_rfl) (by kernel_rfl) (fun _ _ _ h => h) (Or.inl ⟨by kernel_rfl, fun W _ => by go_simp⟩) hS ?_
            simp only [Act.put, List.setIfInBounds_toArray, List.set_cons_zero, List.set_cons_succ]
            refine takeH9 1 56 (.pointer (some ⟨W.heap.size, 0, none⟩)) rfl rfl (by kernel_rfl) (by kernel_rfl) (by kernel_rfl) (fun _ _ _ h => h) (Or.inl ⟨by kernel_rfl, fun W _ => by go_simp⟩) hS ?_
            simp only [Act.put, List.setIfInBounds_toArray, List.set_cons_zero, List.set_cons_succ]
            refine takeH9 2 57 (.pointer (some ⟨W.heap.size, 0, none⟩)) rfl rfl (by kernel_rfl) (by kernel_rfl) (by kernel_rfl) (fun _ _ _ h => h) (Or.inl ⟨by kernel_rfl, fun W _ => by go_simp⟩) hS ?_
            simp only [Act.put, List.setIfInBounds_toArray, List.set_cons_zero, List.set_cons_succ]
            refine takeH9 3 58 (.int .i64 k0) rfl rfl (by kernel_rfl) (by kernel_rfl) (by kernel_rfl) (fun _ _ _ h => h) (Or.inl ⟨by kernel_rfl, fun W h => by have h' := (hS1 W).1 h; obtain ⟨e1, e2⟩ := h'; go_simp⟩) hS ?_
            simp only [Act.put, List.setIfInBounds_toArray, List.set_cons_zero, List.set_cons_succ]
            refine takeH9 4 59 (.int .i64 (max k0 0)) rfl rfl (by kernel_rfl) (by kernel_rfl) (by kernel_rfl) (fun _ _ _ h => h) (yi_max (by kernel_rfl) (.tmp 58) (.const (.int .i64 0)) rfl k0 0 _ (by kernel_rfl) (by kernel_rfl) (max_kept k0)) hS ?_
            simp only [Act.put, List.setIfInBounds_toArray, List.set_cons_zero, List.set_cons_succ]
            refine takeH9 5 60 (.pointer (some ⟨wr.heap.size, 0, none⟩)) rfl rfl (by kernel_rfl) (by kernel_rfl) (by kernel_rfl) (fun _ _ _ h => h) (Or.inl ⟨by kernel_rfl, fun W _ => by go_simp⟩) hS ?_
            simp only [Act.put, List.setIfInBounds_toArray, List.set_cons_zero, List.set_cons_succ]
            refine takeH9 6 61 (.slice ba d.a.now.length bc) rfl rfl (by kernel_rfl) (by kernel_rfl) (by kernel_rfl) (fun _ _ _ h => h) (Or.inl ⟨by kernel_rfl, fun W h => by have h' := (hS1 W).1 h; obtain ⟨e1, e2⟩ := h'; go_simp⟩) hS ?_
            simp only [Act.put, List.setIfInBounds_toArray, List.set_cons_zero, List.set_cons_succ]
            refine takeH9 7 62 (.int .i64 (d.a.now.length : Int)) rfl rfl (by kernel_rfl) (by kernel_rfl) (by kernel_rfl) (fun _ _ _ h => h) (Or.inl ⟨by kernel_rfl, fun W _ => by go_simp⟩) hS ?_
            simp only [Act.put, List.setIfInBounds_toArray, List.set_cons_zero, List.set_cons_succ]
            refine takeH9 8 63 (.slice xs d.a.whole xt) rfl rfl (by kernel_rfl) (by kernel_rfl) (by kernel_rfl) (fun _ _ _ h => h) (Or.inl ⟨by kernel_rfl, fun W _ => by go_simp⟩) hS ?_
            simp only [Act.put, List.setIfInBounds_toArray, List.set_cons_zero, List.set_cons_succ]
            refine takeH9 9 64 (.int .i64 (d.a.whole : Int)) rfl rfl (by kernel_rfl) (by kernel_rfl) (by kernel_rfl) (fun _ _ _ h => h) (Or.inl ⟨by kernel_rfl, fun W _ => by go_simp⟩) hS ?_
            simp only [Act.put, List.setIfInBounds_toArray, List.set_cons_zero, List.set_cons_succ]
            refine takeH9 10 65 (.int .i64 ((d.a.now.length : Int) - (d.a.whole : Int))) rfl rfl (by kernel_rfl) (by kernel_rfl) (by kernel_rfl) (fun _ _ _ h => h) (Or.inl ⟨by kernel_rfl, fun W _ => by go_simp⟩) hS ?_
            simp only [Act.put, List.setIfInBounds_toArray, List.set_cons_zero, List.set_cons_succ]
            refine takeH9 11 66 (.int .i64 (d.a.kept k0 : Int)) rfl rfl (by kernel_rfl) (by kernel_rfl) (by kernel_rfl) (fun _ _ _ h => h) (yi_min (by kernel_rfl) (.tmp 59) (.tmp 65) rfl (max k0 0) _ _ (by kernel_rfl) (by kernel_rfl) (min_kept d.a k0 hwl)) hS ?_
            simp only [Act.put, List.setIfInBounds_toArray, List.set_cons_zero, List.set_cons_succ]
            refine takeH9 12 8 (.int .i64 (d.a.kept k0 : Int)) rfl rfl (by kernel_rfl) (by kernel_rfl) (by kernel_rfl) (fun _ _ _ h => h) (Or.inl ⟨by kernel_rfl, fun W _ => by go_simp⟩) hS ?_
            simp only [Act.put, List.setIfInBounds_toArray, List.set_cons_zero, List.set_cons_succ]
            refine wpAnyH_done (by kernel_rfl) ?_ _
            clear hS hS1 lk0
            have HBD : Hid (Below wr.heap.size wr ((wr.alloc (.cells #[.slice ba d.a.now.length bc, .slice xs d.a.sure.length xt, .int .i64 (d.a.whole : Int)] 29)).drew)) := HB5.out.drew
            have hbase : RB ((wr.alloc (.cells #[.slice ba d.a.now.length bc, .slice xs d.a.sure.length xt, .int .i64 (d.a.whole : Int)] 29)).drew).drew (.slice xs d.a.whole xt) (d.a.sure.take d.a.whole) := ((HSR.out.below HBD.out).take d.a.whole (by have := HSLN.out; omega)).keep (fun _ _ _ => rfl)
            have HMID : Hid (RB ((wr.alloc (.cells #[.slice ba d.a.now.length bc, .slice xs d.a.sure.length xt, .int .i64 (d.a.whole : Int)] 29)).drew).drew (.slice ma (d.a.kept k0) mc) ((d.a.now.drop (d.a.whole)).take (d.a.kept k0))) := (HMR.out.below HBD.out).keep (fun _ _ _ => rfl)
            have xb0 : ((wr.alloc (.cells #[.slice ba d.a.now.length bc, .slice xs d.a.sure.length xt, .int .i64 (d.a.whole : Int)] 29)).drew).cell? ⟨wr.heap.size, 0, none⟩ = some (.slice ba d.a.now.length bc) := xb0
            go_wp2
            generalize (wr.alloc (.cells #[.slice ba d.a.now.length bc, .slice xs d.a.sure.length xt, .int .i64 (d.a.whole : Int)] 29)).drew = w5 at *
            have hxl := cell_lt xb0
            have hmin : (if (d.a.now.length : Int) < (d.a.whole : Int) then (d.a.now.length : Int) else (d.a.whole : Int)) = (d.a.whole : Int) := if_neg (by have := HSLN.out; omega)
            have hmaxk : (if (0 : Int) > (d.a.kept k0 : Int) then (0 : Int) else (d.a.kept k0 : Int)) = (d.a.kept k0 : Int) := if_neg (by have := HSLN.out; omega)
            have hl1 : ([] : List UInt8).length + (d.a.sure.take d.a.whole).length ≤ 1000000000 := by have := HSLN.out; simp; omega
            have hl2 : (d.a.sure.take d.a.whole).length + ((d.a.now.drop (d.a.whole)).take (d.a.kept k0)).length ≤ 1000000000 := by have := HSLN.out; simp; omega
            have HLB : Hid ((d.a.sure.take d.a.whole).length = d.a.whole) := by show (d.a.sure.take d.a.whole).length = _; have := HSLN.out; simp; omega
            have hms := HMS.out
            obtain ⟨S2, hS1⟩ : ∃ S : World → Prop, ∀ W', S W' ↔ (W'.cell? ⟨wr.heap.size, 0, none⟩ = some (.slice ba d.a.now.length bc) ∧ True) := ⟨_, fun _ => Iff.rfl⟩
            refine wp_region_held_drew (S := S2) (by kernel_rfl) ((hS1 _).2 ⟨xb0, trivial⟩) (fun hS => ?_)
            refine takeH9 0 67 (.slice xs d.a.whole xt) rfl rfl (by kernel_rfl) (by kernel_rfl) (by kernel_rfl) (fun _ _ _ h => h) (Or.inl ⟨by kernel_rfl, fun W _ => by go_simp⟩) hS ?_
            simp only [Act.put, List.setIfInBounds_toArray, List.set_cons_zero, List.set_cons_succ]
            refine takeH9 2 69 (.pointer (some ⟨wr.heap.size, 0, none⟩)) rfl rfl (by kernel_rfl) (by kernel_rfl) (by kernel_rfl) (fun _ _ _ h => h) (Or.inl ⟨by kernel_rfl, fun W _ => by go_simp⟩) hS ?_
            simp only [Act.put, List.setIfInBounds_toArray, List.set_cons_zero, List.set_cons_succ]
            refine takeH9 3 70 (.slice ba d.a.now.length bc) rfl rfl (by kernel_rfl) (by kernel_rfl) (by kernel_rfl) (fun _ _ _ h => h) (Or.inl ⟨by kernel_rfl, fun W h => by have h' := (hS1 W).1 h; obtain ⟨e1, e2⟩ := h'; go_simp⟩) hS ?_
            simp only [Act.put, List.setIfInBounds_toArray, List.set_cons_zero, List.set_cons_succ]
            refine takeH9 4 71 (.slice xs d.a.whole xt) rfl rfl (by kernel_rfl) (by kernel_rfl) (by kernel_rfl) (fun _ _ _ h => h) (Or.inl ⟨by kernel_rfl, fun W _ => by go_simp⟩) hS ?_
            simp only [Act.put, List.setIfInBounds_toArray, List.set_cons_zero, List.set_cons_succ]
            refine takeH9 5 72 (.int .i64 (d.a.whole : Int)) rfl rfl (by kernel_rfl) (by kernel_rfl) (by kernel_rfl) (fun _ _ _ h => h) (Or.inl ⟨by kernel_rfl, fun W _ => by go_simp⟩) hS ?_
            simp only [Act.put, List.setIfInBounds_toArray, List.set_cons_zero, List.set_cons_succ]
            refine takeH9 6 73 (.pointer (some ⟨wr.heap.size, 0, none⟩)) rfl rfl (by kernel_rfl) (by kernel_rfl) (by kernel_rfl) (fun _ _ _ h => h) (Or.inl ⟨by kernel_rfl, fun W _ => by go_simp⟩) hS ?_
            simp only [Act.put, List.setIfInBounds_toArray, List.set_cons_zero, List.set_cons_succ]
            refine takeH9 7 74 (.slice ba d.a.now.length bc) rfl rfl (by kernel_rfl) (by kernel_rfl) (by kernel_rfl) (fun _ _ _ h => h) (Or.inl ⟨by kernel_rfl, fun W h => by have h' := (hS1 W).1 h; obtain ⟨e1, e2⟩ := h'; go_simp⟩) hS ?_
            simp only [Act.put, List.setIfInBounds_toArray, List.set_cons_zero, List.set_cons_succ]
            refine takeH9 8 75 (.int .i64 (d.a.now.length : Int)) rfl rfl (by kernel_rfl) (by kernel_rfl) (by kernel_rfl) (fun _ _ _ h => h) (Or.inl ⟨by kernel_rfl, fun W _ => by go_simp⟩) hS ?_
            simp only [Act.put, List.setIfInBounds_toArray, List.set_cons_zero, List.set_cons_succ]
            refine takeH9 9 76 (.int .i64 (d.a.whole : Int)) rfl rfl (by kernel_rfl) (by kernel_rfl) (by kernel_rfl) (fun _ _ _ h => h) (yi_min (by kernel_rfl) (.tmp 72) (.tmp 75) rfl _ _ _ (by kernel_rfl) (by kernel_rfl) hmin) hS ?_
            simp only [Act.put, List.setIfInBounds_toArray, List.set_cons_zero, List.set_cons_succ]
            refine takeH9 10 77 (.slice xs d.a.whole xt) rfl rfl (by kernel_rfl) (by kernel_rfl) (by kernel_rfl) (fun _ _ _ h => h) (Or.inl ⟨by kernel_rfl, fun W _ => by go_simp⟩) hS ?_
            simp only [Act.put, List.setIfInBounds_toArray, List.set_cons_zero, List.set_cons_succ]
            refine takeH9 11 78 (.int .i64 (d.a.whole : Int)) rfl rfl (by kernel_rfl) (by kernel_rfl) (by kernel_rfl) (fun _ _ _ h => h) (Or.inl ⟨by kernel_rfl, fun W _ => by go_simp⟩) hS ?_
            simp only [Act.put, List.setIfInBounds_toArray, List.set_cons_zero, List.set_cons_succ]
            refine takeH9 12 79 (.pointer (some ⟨wr.heap.size, 0, none⟩)) rfl rfl (by kernel_rfl) (by kernel_rfl) (by kernel_rfl) (fun _ _ _ h => h) (Or.inl ⟨by kernel_rfl, fun W _ => by go_simp⟩) hS ?_
            simp only [Act.put, List.setIfInBounds_toArray, List.set_cons_zero, List.set_cons_succ]
            refine takeH9 13 80 (.slice ba d.a.now.length bc) rfl rfl (by kernel_rfl) (by kernel_rfl) (by kernel_rfl) (fun _ _ _ h => h) (Or.inl ⟨by kernel_rfl, fun W h => by have h' := (hS1 W).1 h; obtain ⟨e1, e2⟩ := h'; go_simp⟩) hS ?_
            simp only [Act.put, List.setIfInBounds_toArray, List.set_cons_zero, List.set_cons_succ]
            refine takeH9 14 81 (.int .i64 (d.a.now.length : Int)) rfl rfl (by kernel_rfl) (by kernel_rfl) (by kernel_rfl) (fun _ _ _ h => h) (Or.inl ⟨by kernel_rfl, fun W _ => by go_simp⟩) hS ?_
            simp only [Act.put, List.setIfInBounds_toArray, List.set_cons_zero, List.set_cons_succ]
            refine takeH9 15 82 (.int .i64 (d.a.whole : Int)) rfl rfl (by kernel_rfl) (by kernel_rfl) (by kernel_rfl) (fun _ _ _ h => h) (yi_min (by kernel_rfl) (.tmp 78) (.tmp 81) rfl _ _ _ (by kernel_rfl) (by kernel_rfl) hmin) hS ?_
            simp only [Act.put, List.setIfInBounds_toArray, List.set_cons_zero, List.set_cons_succ]
            refine takeH9 16 83 (.int .i64 (d.a.kept k0 : Int)) rfl rfl (by kernel_rfl) (by kernel_rfl) (by kernel_rfl) (fun _ _ _ h => h) (Or.inl ⟨by kernel_rfl, fun W _ => by go_simp⟩) hS ?_
            simp only [Act.put, List.setIfInBounds_toArray, List.set_cons_zero, List.set_cons_succ]
            refine takeH9 17 84 (.int .i64 (d.a.kept k0 : Int)) rfl rfl (by kernel_rfl) (by kernel_rfl) (by kernel_rfl) (fun _ _ _ h => h) (yi_max (by kernel_rfl) (.tmp 83) (.const (.int .i64 0)) rfl _ _ _ (by kernel_rfl) (by kernel_rfl) hmaxk) hS ?_
            simp only [Act.put, List.setIfInBounds_toArray, List.set_cons_zero, List.set_cons_succ]
            refine takeH9 18 85 (.int .i64 ((d.a.whole : Int) + (d.a.kept k0 : Int))) rfl rfl (by kernel_rfl) (by kernel_rfl) (by kernel_rfl) (fun _ _ _ h => h) (Or.inl ⟨by kernel_rfl, fun W _ => by go_simp⟩) hS ?_
            simp only [Act.put, List.setIfInBounds_toArray, List.set_cons_zero, List.set_cons_succ]
            refine takeH9 19 86 (.slice ma (d.a.kept k0) mc) rfl rfl (by kernel_rfl) (by kernel_rfl) (by kernel_rfl) (fun _ _ _ h => h) (yi_cut (by kernel_rfl) (.tmp 70) (.tmp 76) (.tmp 85) rfl (.slice ba d.a.now.length bc) _ _ _ (by kernel_rfl) (by kernel_rfl) (by kernel_rfl) hms) hS ?_
            simp only [Act.put, List.setIfInBounds_toArray, List.set_cons_zero, List.set_cons_succ]
            refine wpAnyH_ready (rs := [1]) (by kernel_rfl) (by simp) ?_
            refine AllReadyH.cons rfl (fun K hK => ?_) AllReadyH.nil
            refine step_append_RB rfl (.const (.slice none 0 0)) (.tmp 67) rfl (.slice none 0 0) [] rfl (OwnsBytes.nil _ 0) (.slice xs d.a.whole xt) (d.a.sure.take d.a.whole) (by kernel_rfl) hbase hl1 ?_
            intro v1 w6 g1 g2 g3
            have hB6 := below_grown g2
            have hm6 := HMID.out.below hB6
            have xb6 := (hB6.cell (p := ⟨wr.heap.size, 0, none⟩) hxl).trans xb0
            have g1' : OwnsBytes w6 0 v1 (d.a.sure.take d.a.whole) := g1
            obtain ⟨va, vc, hvf⟩ := g1'.form
            rw [HLB.out] at hvf
            subst hvf
            have G1 := hide9 g1'
            have G3 : Hid ((Value.slice va (d.a.whole) vc).ownBlock = none ∨ (Value.slice va (d.a.whole) vc).ownBlock = some w5.heap.size) := g3
            clear g1 g2 g3 g1'
            refine hK.out _ _ ((hS1 _).2 ⟨xb6, trivial⟩) (fun hS => ?_)
            clear hK K
            simp only [Act.put, List.setIfInBounds_toArray, List.set_cons_zero, List.set_cons_succ]
            refine wpAnyH_ready (rs := [20]) (by kernel_rfl) (by simp) ?_
            refine AllReadyH.cons rfl (fun K hK => ?_) AllReadyH.nil
            refine step_append_RB rfl (.tmp 68) (.tmp 86) rfl (.slice va (d.a.whole) vc) _ (by kernel_rfl) G1.out (.slice ma (d.a.kept k0) mc) _ (by kernel_rfl) hm6 hl2 ?_
            intro v2 w7 g4 g5 g6
            have hB7 : Below w5.heap.size w5 w7 := (bel ((Below.refl _ w5).drew) hB6).trans ⟨g5.os, g5.tape, g5.output, g5.size, fun k hk => g5.block k (Nat.lt_of_lt_of_le hk hB6.size) (fun e2 => by rcases G3.out with e3 | e3 <;> rw [e3] at e2 <;> cases e2; exact Nat.lt_irrefl _ hk)⟩
            have hv2 : OwnsBytes w7 w5.heap.size v2 (d.a.sure.take d.a.whole ++ (d.a.now.drop (d.a.whole)).take (d.a.kept k0)) := g4.base (fun k hk => by
              rcases g6 with e | e
              · rw [e] at hk
                rcases G3.out with e3 | e3 <;> rw [e3] at hk <;> cases hk
                exact Nat.le_refl _
              · rw [e] at hk
                cases hk
                exact hB6.size)
            have xb7 := (hB7.cell (p := ⟨wr.heap.size, 0, none⟩) hxl).trans xb0
            have HB7 := hide9 hB7
            obtain ⟨L2, wa, wc, HL2, hvf2, hv2'⟩ := hv2.gen9
            have HV2 := hide9 hv2'
            clear g4 g5 g6 hB7 hv2 hv2'
            refine hK.out _ _ ((hS1 _).2 ⟨xb7, trivial⟩) (fun hS => ?_)
            clear hK K
            simp only [Act.put, List.setIfInBounds_toArray, List.set_cons_zero, List.set_cons_succ]
            refine takeH9 21 9 (v2) rfl rfl (by kernel_rfl) (by kernel_rfl) (by kernel_rfl) (fun _ _ _ h => h) (Or.inl ⟨by kernel_rfl, fun W _ => by go_simp⟩) hS ?_
            simp only [Act.put, List.setIfInBounds_toArray, List.set_cons_zero, List.set_cons_succ]
            refine wpAnyH_done (by kernel_rfl) ?_ _
            subst hvf2
            have HBw := hide9 (bel HBD.out HB7.out)
            have h7 := HX.out.below HBw.out
            have y0 := h7.cell 0
            have y1 := h7.cell 1
            have y2 := h7.cell 2
            have fr0 := h7.free 0
            have fr1 := h7.free 1
            have fr2 := h7.free 2
            have H7 := hide9 h7
            clear h7 hS hS1 xb7 xb6 hxl xb0 hbase hm6
            go_wp2
            have hleft : d.a.left k0 true = L2 := by rw [HL2.out]; exact left_stay d.a HFA.out true (.inr rfl) k0
            have hq : RQ w7 P rb (.slice wa L2.length wc) L2 := ⟨HV2.out.reads, fun k e => by
              have h1 := (HV2.out.lt e).1
              have h2 := HBD.out.size
              have h3 := HO.out.size
              have h4 := HRW.out
              exact ⟨hP k (by have := HSLN.out; omega), by omega, (HV2.out.lt e).2⟩⟩
            have e4 := H7.out.file0 (c := d.a.lose k0 true) (v := .slice wa L2.length wc) (s := .slice wa L2.length wc) (by show RQ w7 P rb _ (d.a.left k0 true); rw [hleft]; exact hq) (by rw [lose_sure, hleft]; exact hq) (HFA.out.lose k0 true)
            have hll := (Array.getElem?_eq_some_iff.1 HLL.out).1
            have hll9 := HLL.out
            rw [HG.out.resolve_left HGN.out] at hll9
            have hne : W.heap.size ≠ rb := by have := HRL.out; omega
            refine ⟨⟨.inr (.inl ⟨rfl, ⟨_, _, _, _, _, e4⟩⟩), (HO.out.trans (Own.of (T := fun k => k = rb) HBw.out) (fun k hk => .inl hk)).trans (own_three w7) (fun k hk => .inl hk), ?_⟩, by simp [intOf]⟩
            exact (((Below.heap_setCell _ _ _ _ hne).trans (Below.heap_setCell _ _ _ _ hne)).trans (Below.heap_setCell _ _ _ _ hne)).trans ((HBw.out.block _ hll).trans hll9)
          | false =>
            rw [hcut] at l2
            have HSLN := hide9 hsl
            clear hsl
            have hnow := HFA.out.now
            have hgn := HFA.out.gone
            obtain ⟨lo, HLO⟩ : ∃ lo : Nat, Hid (lo = min d.a.sure.length d.a.now.length) := ⟨_, rfl⟩
            have HB5 := hide9 (alloc1 wr (.cells #[.slice ba d.a.now.length bc, .slice xs d.a.sure.length xt, .int .i64 (d.a.whole : Int)] 29))
            have lk0 := (HB5.out.cell (p := ⟨W.heap.size, 0, none⟩) (cell_lt l0)).trans l0
            have lc0 := (HB5.out.cell (p := ⟨W.heap.size, 2, none⟩) (cell_lt l2)).trans l2
            have xb0 : (wr.alloc (.cells #[.slice ba d.a.now.length bc, .slice xs d.a.sure.length xt, .int .i64 (d.a.whole : Int)] 29)).cell? ⟨wr.heap.size, 0, none⟩ = some (.slice ba d.a.now.length bc) := Lib.cell_of_heap (heap_new wr _) 0
            obtain ⟨ma, mc, hms', hmr⟩ := cut_mid HBR.out lo (lo + 0) (by have := HSLN.out; have := HLO.out; omega) (by have := HSLN.out; have := HLO.out; omega)
            rw [Nat.add_sub_cancel_left] at hmr
            have hms : ∀ W', (Instr.slice 27 (.slice ba d.a.now.length bc) (some (.int .i64 (lo : Int))) (some (.int .i64 (lo : Int))) none).run Try.prog W' = .ok (.slice ma 0 mc) W' := fun W' => by
              have := hms' W'
              rw [Nat.add_sub_cancel_left] at this
              exact this
            have HMS := hide9 hms
            have HMR := hide9 hmr
            have hsum : IntKind.i64.wrap (lo : Int) = (lo : Int) := w64 rfl (by have := HSLN.out; have := HLO.out; omega) (by have := HSLN.out; have := HLO.out; omega)
            have HBD : Hid (Below wr.heap.size wr (wr.alloc (.cells #[.slice ba d.a.now.length bc, .slice xs d.a.sure.length xt, .int .i64 (d.a.whole : Int)] 29))) := HB5.out
            have hbase : RB (wr.alloc (.cells #[.slice ba d.a.now.length bc, .slice xs d.a.sure.length xt, .int .i64 (d.a.whole : Int)] 29)).drew (.slice xs d.a.sure.length xt) (d.a.sure) := (HSR.out.below HBD.out).keep (fun _ _ _ => rfl)
            have HMID : Hid (RB (wr.alloc (.cells #[.slice ba d.a.now.length bc, .slice xs d.a.sure.length xt, .int .i64 (d.a.whole : Int)] 29)).drew (.slice ma 0 mc) ((d.a.now.drop lo).take 0)) := (HMR.out.below HBD.out).keep (fun _ _ _ => rfl)
            clear hmr hms hms'
            go_wp2
            generalize (wr.alloc (.cells #[.slice ba d.a.now.length bc, .slice xs d.a.sure.length xt, .int .i64 (d.a.whole : Int)] 29)) = w5 at *
            have hxl := cell_lt xb0
            have hmin : (if (d.a.now.length : Int) < (d.a.sure.length : Int) then (d.a.now.length : Int) else (d.a.sure.length : Int)) = (lo : Int) := by have := HLO.out; split <;> omega
            have hmaxk : (if (0 : Int) > (0 : Int) then (0 : Int) else (0 : Int)) = (0 : Int) := rfl
            have hl1 : ([] : List UInt8).length + (d.a.sure).length ≤ 1000000000 := by have := HSLN.out; simp; omega
            have hl2 : (d.a.sure).length + ((d.a.now.drop lo).take 0).length ≤ 1000000000 := by have := HSLN.out; simp; omega
            have HLB : Hid ((d.a.sure).length = d.a.sure.length) := (rfl : (d.a.sure).length = d.a.sure.length)
            have hms := HMS.out
            obtain ⟨S2, hS1⟩ : ∃ S : World → Prop, ∀ W', S W' ↔ (W'.cell? ⟨wr.heap.size, 0, none⟩ = some (.slice ba d.a.now.length bc) ∧ True) := ⟨_, fun _ => Iff.rfl⟩
            refine wp_region_held_drew (S := S2) (by kernel_rfl) ((hS1 _).2 ⟨xb0, trivial⟩) (fun hS => ?_)
            refine takeH9 0 67 (.slice xs d.a.sure.length xt) rfl rfl (by kernel_rfl) (by kernel_rfl) (by kernel_rfl) (fun _ _ _ h => h) (Or.inl ⟨by kernel_rfl, fun W _ => by go_simp⟩) hS ?_
            simp only [Act.put, List.setIfInBounds_toArray, List.set_cons_zero, List.set_cons_succ]
            refine takeH9 2 69 (.pointer (some ⟨wr.heap.size, 0, none⟩)) rfl rfl (by kernel_rfl) (by kernel_rfl) (by kernel_rfl) (fun _ _ _ h => h) (Or.inl ⟨by kernel_rfl, fun W _ => by go_simp⟩) hS ?_
            simp only [Act.put, List.setIfInBounds_toArray, List.set_cons_zero, List.set_cons_succ]
            refine takeH9 3 70 (.slice ba d.a.now.length bc) rfl rfl (by kernel_rfl) (by kernel_rfl) (by kernel_rfl) (fun _ _ _ h => h) (Or.inl ⟨by kernel_rfl, fun W h => by have h' := (hS1 W).1 h; obtain ⟨e1, e2⟩ := h'; go_simp⟩) hS ?_
            simp only [Act.put, List.setIfInBounds_toArray, List.set_cons_zero, List.set_cons_succ]
            refine takeH9 4 71 (.slice xs d.a.sure.length xt) rfl rfl (by kernel_rfl) (by kernel_rfl) (by kernel_rfl) (fun _ _ _ h => h) (Or.inl ⟨by kernel_rfl, fun W _ => by go_simp⟩) hS ?_
            simp only [Act.put, List.setIfInBounds_toArray, List.set_cons_zero, List.set_cons_succ]
            refine takeH9 5 72 (.int .i64 (d.a.sure.length : Int)) rfl rfl (by kernel_rfl) (by kernel_rfl) (by kernel_rfl) (fun _ _ _ h => h) (Or.inl ⟨by kernel_rfl, fun W _ => by go_simp⟩) hS ?_
            simp only [Act.put, List.setIfInBounds_toArray, List.set_cons_zero, List.set_cons_succ]
            refine takeH9 6 73 (.pointer (some ⟨wr.heap.size, 0, none⟩)) rfl rfl (by kernel_rfl) (by kernel_rfl) (by kernel_rfl) (fun _ _ _ h => h) (Or.inl ⟨by kernel_rfl, fun W _ => by go_simp⟩) hS ?_
            simp only [Act.put, List.setIfInBounds_toArray, List.set_cons_zero, List.set_cons_succ]
            refine takeH9 7 74 (.slice ba d.a.now.length bc) rfl rfl (by kernel_rfl) (by kernel_rfl) (by kernel_rfl) (fun _ _ _ h => h) (Or.inl ⟨by kernel_rfl, fun W h => by have h' := (hS1 W).1 h; obtain ⟨e1, e2⟩ := h'; go_simp⟩) hS ?_
            simp only [Act.put, List.setIfInBounds_toArray, List.set_cons_zero, List.set_cons_succ]
            refine takeH9 8 75 (.int .i64 (d.a.now.length : Int)) rfl rfl (by kernel_rfl) (by kernel_rfl) (by kernel_rfl) (fun _ _ _ h => h) (Or.inl ⟨by kernel_rfl, fun W _ => by go_simp⟩) hS ?_
            simp only [Act.put, List.setIfInBounds_toArray, List.set_cons_zero, List.set_cons_succ]
            refine takeH9 9 76 (.int .i64 (lo : Int)) rfl rfl (by kernel_rfl) (by kernel_rfl) (by kernel_rfl) (fun _ _ _ h => h) (yi_min (by kernel_rfl) (.tmp 72) (.tmp 75) rfl _ _ _ (by kernel_rfl) (by kernel_rfl) hmin) hS ?_
            simp only [Act.put, List.setIfInBounds_toArray, List.set_cons_zero, List.set_cons_succ]
            refine takeH9 10 77 (.slice xs d.a.sure.length xt) rfl rfl (by kernel_rfl) (by kernel_rfl) (by kernel_rfl) (fun _ _ _ h => h) (Or.inl ⟨by kernel_rfl, fun W _ => by go_simp⟩) hS ?_
            simp only [Act.put, List.setIfInBounds_toArray, List.set_cons_zero, List.set_cons_succ]
            refine takeH9 11 78 (.int .i64 (d.a.sure.length : Int)) rfl rfl (by kernel_rfl) (by kernel_rfl) (by kernel_rfl) (fun _ _ _ h => h) (Or.inl ⟨by kernel_rfl, fun W _ => by go_simp⟩) hS ?_
            simp only [Act.put, List.setIfInBounds_toArray, List.set_cons_zero, List.set_cons_succ]
            refine takeH9 12 79 (.pointer (some ⟨wr.heap.size, 0, none⟩)) rfl rfl (by kernel_rfl) (by kernel_rfl) (by kernel_rfl) (fun _ _ _ h => h) (Or.inl ⟨by kernel_rfl, fun W _ => by go_simp⟩) hS ?_
            simp only [Act.put, List.setIfInBounds_toArray, List.set_cons_zero, List.set_cons_succ]
            refine takeH9 13 80 (.slice ba d.a.now.length bc) rfl rfl (by kernel_rfl) (by kernel_rfl) (by kernel_rfl) (fun _ _ _ h => h) (Or.inl ⟨by kernel_rfl, fun W h => by have h' := (hS1 W).1 h; obtain ⟨e1, e2⟩ := h'; go_simp⟩) hS ?_
            simp only [Act.put, List.setIfInBounds_toArray, List.set_cons_zero, List.set_cons_succ]
            refine takeH9 14 81 (.int .i64 (d.a.now.length : Int)) rfl rfl (by kernel_rfl) (by kernel_rfl) (by kernel_rfl) (fun _ _ _ h => h) (Or.inl ⟨by kernel_rfl, fun W _ => by go_simp⟩) hS ?_
            simp only [Act.put, List.setIfInBounds_toArray, List.set_cons_zero, List.set_cons_succ]
            refine takeH9 15 82 (.int .i64 (lo : Int)) rfl rfl (by kernel_rfl) (by kernel_rfl) (by kernel_rfl) (fun _ _ _ h => h) (yi_min (by kernel_rfl) (.tmp 78) (.tmp 81) rfl _ _ _ (by kernel_rfl) (by kernel_rfl) hmin) hS ?_
            simp only [Act.put, List.setIfInBounds_toArray, List.set_cons_zero, List.set_cons_succ]
            refine takeH9 16 83 (.int .i64 (0 : Int)) rfl rfl (by kernel_rfl) (by kernel_rfl) (by kernel_rfl) (fun _ _ _ h => h) (Or.inl ⟨by kernel_rfl, fun W _ => by go_simp⟩) hS ?_
            simp only [Act.put, List.setIfInBounds_toArray, List.set_cons_zero, List.set_cons_succ]
            refine takeH9 17 84 (.int .i64 (0 : Int)) rfl rfl (by kernel_rfl) (by kernel_rfl) (by kernel_rfl) (fun _ _ _ h => h) (yi_max (by kernel_rfl) (.tmp 83) (.const (.int .i64 0)) rfl _ _ _ (by kernel_rfl) (by kernel_rfl) hmaxk) hS ?_
            simp only [Act.put, List.setIfInBounds_toArray, List.set_cons_zero, List.set_cons_succ]
            refine takeH9 18 85 (.int .i64 (lo : Int)) rfl rfl (by kernel_rfl) (by kernel_rfl) (by kernel_rfl) (fun _ _ _ h => h) (Or.inl ⟨by kernel_rfl, fun W _ => by go_simp⟩) hS ?_
            simp only [Act.put, List.setIfInBounds_toArray, List.set_cons_zero, List.set_cons_succ]
            refine takeH9 19 86 (.slice ma 0 mc) rfl rfl (by kernel_rfl) (by kernel_rfl) (by kernel_rfl) (fun _ _ _ h => h) (yi_cut (by kernel_rfl) (.tmp 70) (.tmp 76) (.tmp 85) rfl (.slice ba d.a.now.length bc) _ _ _ (by kernel_rfl) (by kernel_rfl) (by kernel_rfl) hms) hS ?_
            simp only [Act.put, List.setIfInBounds_toArray, List.set_cons_zero, List.set_cons_succ]
            refine wpAnyH_ready (rs := [1]) (by kernel_rfl) (by simp) ?_
            refine AllReadyH.cons rfl (fun K hK => ?_) AllReadyH.nil
            refine step_append_RB rfl (.const (.slice none 0 0)) (.tmp 67) rfl (.slice none 0 0) [] rfl (OwnsBytes.nil _ 0) (.slice xs d.a.sure.length xt) (d.a.sure) (by kernel_rfl) hbase hl1 ?_
            intro v1 w6 g1 g2 g3
            have hB6 := below_grown g2
            have hm6 := HMID.out.below hB6
            have xb6 := (hB6.cell (p := ⟨wr.heap.size, 0, none⟩) hxl).trans xb0
            have g1' : OwnsBytes w6 0 v1 (d.a.sure) := g1
            obtain ⟨va, vc, hvf⟩ := g1'.form
            rw [HLB.out] at hvf
            subst hvf
            have G1 := hide9 g1'
            have G3 : Hid ((Value.slice va (d.a.sure.length) vc).ownBlock = none ∨ (Value.slice va (d.a.sure.length) vc).ownBlock = some w5.heap.size) := g3
            clear g1 g2 g3 g1'
            refine hK.out _ _ ((hS1 _).2 ⟨xb6, trivial⟩) (fun hS => ?_)
            clear hK K
            simp only [Act.put, List.setIfInBounds_toArray, List.set_cons_zero, List.set_cons_succ]
            refine wpAnyH_ready (rs := [20]) (by kernel_rfl) (by simp) ?_
            refine AllReadyH.cons rfl (fun K hK => ?_) AllReadyH.nil
            refine step_append_RB rfl (.tmp 68) (.tmp 86) rfl (.slice va (d.a.sure.length) vc) _ (by kernel_rfl) G1.out (.slice ma 0 mc) _ (by kernel_rfl) hm6 hl2 ?_
            intro v2 w7 g4 g5 g6
            have hB7 : Below w5.heap.size w5 w7 := (bel ((Below.refl _ w5).drew) hB6).trans ⟨g5.os, g5.tape, g5.output, g5.size, fun k hk => g5.block k (Nat.lt_of_lt_of_le hk hB6.size) (fun e2 => by rcases G3.out with e3 | e3 <;> rw [e3] at e2 <;> cases e2; exact Nat.lt_irrefl _ hk)⟩
            have hv2 : OwnsBytes w7 w5.heap.size v2 (d.a.sure ++ (d.a.now.drop (lo)).take 0) := g4.base (fun k hk => by
              rcases g6 with e | e
              · rw [e] at hk
                rcases G3.out with e3 | e3 <;> rw [e3] at hk <;> cases hk
                exact Nat.le_refl _
              · rw [e] at hk
                cases hk
                exact hB6.size)
            have xb7 := (hB7.cell (p := ⟨wr.heap.size, 0, none⟩) hxl).trans xb0
            have HB7 := hide9 hB7
            obtain ⟨L2, wa, wc, HL2, hvf2, hv2'⟩ := hv2.gen9
            have HV2 := hide9 hv2'
            clear g4 g5 g6 hB7 hv2 hv2'
            refine hK.out _ _ ((hS1 _).2 ⟨xb7, trivial⟩) (fun hS => ?_)
            clear hK K
            simp only [Act.put, List.setIfInBounds_toArray, List.set_cons_zero, List.set_cons_succ]
            refine takeH9 21 9 (v2) rfl rfl (by kernel_rfl) (by kernel_rfl) (by kernel_rfl) (fun _ _ _ h => h) (Or.inl ⟨by kernel_rfl, fun W _ => by go_simp⟩) hS ?_
            simp only [Act.put, List.setIfInBounds_toArray, List.set_cons_zero, List.set_cons_succ]
            refine wpAnyH_done (by kernel_rfl) ?_ _
            subst hvf2
            have HBw := hide9 (bel HBD.out HB7.out)
            have h7 := HX.out.below HBw.out
            have y0 := h7.cell 0
            have y1 := h7.cell 1
            have y2 := h7.cell 2
            have fr0 := h7.free 0
            have fr1 := h7.free 1
            have fr2 := h7.free 2
            have H7 := hide9 h7
            clear h7 hS hS1 xb7 xb6 hxl xb0 hbase hm6
            go_wp2
            have hleft : d.a.left k0 false = L2 := by rw [HL2.out]; exact by simpa using left_back d.a HGN.out k0
            have hq : RQ w7 P rb (.slice wa L2.length wc) L2 := ⟨HV2.out.reads, fun k e => by
              have h1 := (HV2.out.lt e).1
              have h2 := HBD.out.size
              have h3 := HO.out.size
              have h4 := HRW.out
              exact ⟨hP k (by have := HSLN.out; have := HLO.out; omega), by omega, (HV2.out.lt e).2⟩⟩
            have e4 := H7.out.file0 (c := d.a.lose k0 false) (v := .slice wa L2.length wc) (s := .slice wa L2.length wc) (by show RQ w7 P rb _ (d.a.left k0 false); rw [hleft]; exact hq) (by rw [lose_sure, hleft]; exact hq) (HFA.out.lose k0 false)
            have hll := (Array.getElem?_eq_some_iff.1 HLL.out).1
            have hll9 := HLL.out
            rw [hcut] at hll9
            have hne : W.heap.size ≠ rb := by have := HRL.out; omega
            refine ⟨⟨.inr (.inl ⟨rfl, ⟨_, _, _, _, _, e4⟩⟩), (HO.out.trans (Own.of (T := fun k => k = rb) HBw.out) (fun k hk => .inl hk)).trans (own_three w7) (fun k hk => .inl hk), ?_⟩, by simp [intOf]⟩
            exact (((Below.heap_setCell _ _ _ _ hne).trans (Below.heap_setCell _ _ _ _ hne)).trans (Below.heap_setCell _ _ _ _ hne)).trans ((HBw.out.block _ hll).trans hll9)
      · obtain ⟨gv, bb0, ss0, bb1, ss1, h3⟩ := hE
        have hfa : d.b.Fine := h3.fine.b
        obtain ⟨xs, xt, hxs⟩ := h3.q3.rd.form
        subst hxs
        have hqb : RQ wr P rb bb1 d.b.now := h3.q2
        have HX := hide9 h3
        have y1 : wr.cell? ⟨rb, 4, none⟩ = some (.slice xs d.b.sure.length xt) := h3.cell 4
        have y2 : wr.cell? ⟨rb, 5, none⟩ = some (.int .i64 d.b.cutv) := h3.cell 5
        have y0 : wr.cell? ⟨rb, 3, none⟩ = some bb1 := h3.cell 3
        have fr0 := h3.free 3
        have fr1 := h3.free 4
        have fr2 := h3.free 5
        have HRW := hide9 h3.lt
        have HSR : Hid (RB wr (.slice xs d.b.sure.length xt) d.b.sure) := h3.q3.rd
        have hsc := HSR.out.cap
        have hsl := sure_length _ hfa
        have hwl := hfa.whole
        have HFA := hide9 hfa
        clear h3 hfa
        obtain ⟨ba, bc, hbf⟩ := hqb.rd.form
        subst hbf
        have HBR : Hid (RB wr (.slice ba d.b.now.length bc) d.b.now) := hqb.rd
        have hbc := HBR.out.cap
        clear hqb
        by_cases hg : d.b.gone = []
        · have hcv : d.b.cutv = -1 := by unfold Dk.Cn.cutv; rw [if_pos hg]
          have hgl : d.b.gone.length = 0 := by rw [hg]; rfl
          rw [hcv] at y2
          have HG : Hid (d.b.gone = [] ∨ c1 = true) := .inl hg
          clear hg hcv
          have HSLN := hide9 hsl
          have hnow := HFA.out.now
          have hls : IntKind.i64.wrap ((d.b.now.length : Int) - (d.b.whole : Int)) = (d.b.now.length : Int) - (d.b.whole : Int) := w64 rfl (by have := HSLN.out; omega) (by have := HSLN.out; omega)
          have hsum : IntKind.i64.wrap ((d.b.whole : Int) + (d.b.kept k1 : Int)) = (d.b.whole : Int) + (d.b.kept k1 : Int) := w64 rfl (by have := HSLN.out; omega) (by have : d.b.kept k1 ≤ d.b.now.length - d.b.whole := (by unfold Dk.Cn.kept; omega); omega)
          have HKP : Hid (d.b.kept k1 ≤ d.b.now.length - d.b.whole) := by show d.b.kept k1 ≤ _; unfold Dk.Cn.kept; omega
          have HB5 := hide9 (alloc1 wr (.cells #[.slice ba d.b.now.length bc, .slice xs d.b.whole xt, .int .i64 (-1)] 29))
          have lk0 := (HB5.out.cell (p := ⟨W.heap.size, 1, none⟩) (cell_lt l1)).trans l1
          have lc0 := (HB5.out.cell (p := ⟨W.heap.size, 3, none⟩) (cell_lt l3)).trans l3
          have xb0 : (wr.alloc (.cells #[.slice ba d.b.now.length bc, .slice xs d.b.whole xt, .int .i64 (-1)] 29)).cell? ⟨wr.heap.size, 0, none⟩ = some (.slice ba d.b.now.length bc) := Lib.cell_of_heap (heap_new wr _) 0
          obtain ⟨ma, mc, hms', hmr⟩ := cut_mid HBR.out d.b.whole (d.b.whole + d.b.kept k1) (by have := HSLN.out; omega) (by have := HKP.out; omega)
          rw [Nat.add_sub_cancel_left] at hmr
          have hms : ∀ W', (Instr.slice 27 (.slice ba d.b.now.length bc) (some (.int .i64 (d.b.whole : Int))) (some (.int .i64 ((d.b.whole : Int) + (d.b.kept k1 : Int)))) none).run Try.prog W' = .ok (.slice ma (d.b.kept k1) mc) W' := fun W' => by
            have := hms' W'
            rw [Nat.add_sub_cancel_left] at this
            exact this
          have HMS := hide9 hms
          have HMR := hide9 hmr
          clear hmr hms hms'
          go_wp2
          obtain ⟨S, hS1⟩ : ∃ S : World → Prop, ∀ W', S W' ↔ (W'.cell? ⟨wr.heap.size, 0, none⟩ = some (.slice ba d.b.now.length bc) ∧ W'.cell? ⟨W.heap.size, 1, none⟩ = some (.int .i64 k1)) := ⟨_, fun _ => Iff.rfl⟩
          refine wp_region_held_drew (S := S) (by kernel_rfl) ((hS1 _).2 ⟨xb0, lk0⟩) (fun hS => ?_)
          refine takeH9 0 55 (.int .i64 1) rfl rfl (by kernel_rfl) (by kernel_rfl) (by kernel_rfl) (fun _ _ _ h => h) (Or.inl ⟨by kernel_rfl, fun W _ => by go_simp⟩) hS ?_
          simp only [Act.put, List.setIfInBounds_toArray, List.set_cons_zero, List.set_cons_succ]
          refine takeH9 1 56 (.pointer (some ⟨W.heap.size, 0, none⟩)) rfl rfl (by kernel_rfl) (by kernel_rfl) (by kernel_rfl) (fun _ _ _ h => h) (Or.inl ⟨by kernel_rfl, fun W _ => by go_simp⟩) hS ?_
          simp only [Act.put, List.setIfInBounds_toArray, List.set_cons_zero, List.set_cons_succ]
          refine takeH9 2 57 (.pointer (some ⟨W.heap.size, 1, none⟩)) rfl rfl (by kernel_rfl) (by kernel_rfl) (by kernel_rfl) (fun _ _ _ h => h) (Or.inl ⟨by kernel_rfl, fun W _ => by go_simp⟩) hS ?_
          simp only [Act.put, List.setIfInBounds_toArray, List.set_cons_zero, List.set_cons_succ]
          refine takeH9 3 58 (.int .i64 k1) rfl rfl (by kernel_rfl) (by kernel_rfl) (by kernel_rfl) (fun _ _ _ h => h) (Or.inl ⟨by kernel_rfl, fun W h => by have h' := (hS1 W).1 h; obtain ⟨e1, e2⟩ := h'; go_simp⟩) hS ?_
          simp only [Act.put, List.setIfInBounds_toArray, List.set_cons_zero, List.set_cons_succ]
          refine takeH9 4 59 (.int .i64 (max k1 0)) rfl rfl (by kernel_rfl) (by kernel_rfl) (by kernel_rfl) (fun _ _ _ h => h) (yi_max (by kernel_rfl) (.tmp 58) (.const (.int .i64 0)) rfl k1 0 _ (by kernel_rfl) (by kernel_rfl) (max_kept k1)) hS ?_
          simp only [Act.put, List.setIfInBounds_toArray, List.set_cons_zero, List.set_cons_succ]
          refine takeH9 5 60 (.pointer (some ⟨wr.heap.size, 0, none⟩)) rfl rfl (by kernel_rfl) (by kernel_rfl) (by kernel_rfl) (fun _ _ _ h => h) (Or.inl ⟨by kernel_rfl, fun W _ => by go_simp⟩) hS ?_
          simp only [Act.put, List.setIfInBounds_toArray, List.set_cons_zero, List.set_cons_succ]
          refine takeH9 6 61 (.slice ba d.b.now.length bc) rfl rfl (by kernel_rfl) (by kernel_rfl) (by kernel_rfl) (fun _ _ _ h => h) (Or.inl ⟨by kernel_rfl, fun W h => by have h' := (hS1 W).1 h; obtain ⟨e1, e2⟩ := h'; go_simp⟩) hS ?_
          simp only [Act.put, List.setIfInBounds_toArray, List.set_cons_zero, List.set_cons_succ]
          refine takeH9 7 62 (.int .i64 (d.b.now.length : Int)) rfl rfl (by kernel_rfl) (by kernel_rfl) (by kernel_rfl) (fun _ _ _ h => h) (Or.inl ⟨by kernel_rfl, fun W _ => by go_simp⟩) hS ?_
          simp only [Act.put, List.setIfInBounds_toArray, List.set_cons_zero, List.set_cons_succ]
          refine takeH9 8 63 (.slice xs d.b.whole xt) rfl rfl (by kernel_rfl) (by kernel_rfl) (by kernel_rfl) (fun _ _ _ h => h) (Or.inl ⟨by kernel_rfl, fun W _ => by go_simp⟩) hS ?_
          simp only [Act.put, List.setIfInBounds_toArray, List.set_cons_zero, List.set_cons_succ]
          refine takeH9 9 64 (.int .i64 (d.b.whole : Int)) rfl rfl (by kernel_rfl) (by kernel_rfl) (by kernel_rfl) (fun _ _ _ h => h) (Or.inl ⟨by kernel_rfl, fun W _ => by go_simp⟩) hS ?_
          simp only [Act.put, List.setIfInBounds_toArray, List.set_cons_zero, List.set_cons_succ]
          refine takeH9 10 65 (.int .i64 ((d.b.now.length : Int) - (d.b.whole : Int))) rfl rfl (by kernel_rfl) (by kernel_rfl) (by kernel_rfl) (fun _ _ _ h => h) (Or.inl ⟨by kernel_rfl, fun W _ => by go_simp⟩) hS ?_
          simp only [Act.put, List.setIfInBounds_toArray, List.set_cons_zero, List.set_cons_succ]
          refine takeH9 11 66 (.int .i64 (d.b.kept k1 : Int)) rfl rfl (by kernel_rfl) (by kernel_rfl) (by kernel_rfl) (fun _ _ _ h => h) (yi_min (by kernel_rfl) (.tmp 59) (.tmp 65) rfl (max k1 0) _ _ (by kernel_rfl) (by kernel_rfl) (min_kept d.b k1 hwl)) hS ?_
          simp only [Act.put, List.setIfInBounds_toArray, List.set_cons_zero, List.set_cons_succ]
          refine takeH9 12 8 (.int .i64 (d.b.kept k1 : Int)) rfl rfl (by kernel_rfl) (by kernel_rfl) (by kernel_rfl) (fun _ _ _ h => h) (Or.inl ⟨by kernel_rfl, fun W _ => by go_simp⟩) hS ?_
          simp only [Act.put, List.setIfInBounds_toArray, List.set_cons_zero, List.set_cons_succ]
          refine wpAnyH_done (by kernel_rfl) ?_ _
          clear hS hS1 lk0
          have HBD : Hid (Below wr.heap.size wr ((wr.alloc (.cells #[.slice ba d.b.now.length bc, .slice xs d.b.whole xt, .int .i64 (-1)] 29)).drew)) := HB5.out.drew
          have hbase : RB ((wr.alloc (.cells #[.slice ba d.b.now.length bc, .slice xs d.b.whole xt, .int .i64 (-1)] 29)).drew).drew (.slice xs d.b.whole xt) (d.b.sure.take d.b.whole) := ((HSR.out.below HBD.out).take d.b.whole (by have := HSLN.out; omega)).keep (fun _ _ _ => rfl)
          have HMID : Hid (RB ((wr.alloc (.cells #[.slice ba d.b.now.length bc, .slice xs d.b.whole xt, .int .i64 (-1)] 29)).drew).drew (.slice ma (d.b.kept k1) mc) ((d.b.now.drop (d.b.whole)).take (d.b.kept k1))) := (HMR.out.below HBD.out).keep (fun _ _ _ => rfl)
          have xb0 : ((wr.alloc (.cells #[.slice ba d.b.now.length bc, .slice xs d.b.whole xt, .int .i64 (-1)] 29)).drew).cell? ⟨wr.heap.size, 0, none⟩ = some (.slice ba d.b.now.length bc) := xb0
          go_wp2
          generalize (wr.alloc (.cells #[.slice ba d.b.now.length bc, .slice xs d.b.whole xt, .int .i64 (-1)] 29)).drew = w5 at *
          have hxl := cell_lt xb0
          have hmin : (if (d.b.now.length : Int) < (d.b.whole : Int) then (d.b.now.length : Int) else (d.b.whole : Int)) = (d.b.whole : Int) := if_neg (by have := HSLN.out; omega)
          have hmaxk : (if (0 : Int) > (d.b.kept k1 : Int) then (0 : Int) else (d.b.kept k1 : Int)) = (d.b.kept k1 : Int) := if_neg (by have := HSLN.out; omega)
          have hl1 : ([] : List UInt8).length + (d.b.sure.take d.b.whole).length ≤ 1000000000 := by have := HSLN.out; simp; omega
          have hl2 : (d.b.sure.take d.b.whole).length + ((d.b.now.drop (d.b.whole)).take (d.b.kept k1)).length ≤ 1000000000 := by have := HSLN.out; simp; omega
          have HLB : Hid ((d.b.sure.take d.b.whole).length = d.b.whole) := by show (d.b.sure.take d.b.whole).length = _; have := HSLN.out; simp; omega
          have hms := HMS.out
          obtain ⟨S2, hS1⟩ : ∃ S : World → Prop, ∀ W', S W' ↔ (W'.cell? ⟨wr.heap.size, 0, none⟩ = some (.slice ba d.b.now.length bc) ∧ True) := ⟨_, fun _ => Iff.rfl⟩
          refine wp_region_held_drew (S := S2) (by kernel_rfl) ((hS1 _).2 ⟨xb0, trivial⟩) (fun hS => ?_)
          refine takeH9 0 67 (.slice xs d.b.whole xt) rfl rfl (by kernel_rfl) (by kernel_rfl) (by kernel_rfl) (fun _ _ _ h => h) (Or.inl ⟨by kernel_rfl, fun W _ => by go_simp⟩) hS ?_
          simp only [Act.put, List.setIfInBounds_toArray, List.set_cons_zero, List.set_cons_succ]
          refine takeH9 2 69 (.pointer (some ⟨wr.heap.size, 0, none⟩)) rfl rfl (by kernel_rfl) (by kernel_rfl) (by kernel_rfl) (fun _ _ _ h => h) (Or.inl ⟨by kernel_rfl, fun W _ => by go_simp⟩) hS ?_
          simp only [Act.put, List.setIfInBounds_toArray, List.set_cons_zero, List.set_cons_succ]
          refine takeH9 3 70 (.slice ba d.b.now.length bc) rfl rfl (by kernel_rfl) (by kernel_rfl) (by kernel_rfl) (fun _ _ _ h => h) (Or.inl ⟨by kernel_rfl, fun W h => by have h' := (hS1 W).1 h; obtain ⟨e1, e2⟩ := h'; go_simp⟩) hS ?_
          simp only [Act.put, List.setIfInBounds_toArray, List.set_cons_zero, List.set_cons_succ]
          refine takeH9 4 71 (.slice xs d.b.whole xt) rfl rfl (by kernel_rfl) (by kernel_rfl) (by kernel_rfl) (fun _ _ _ h => h) (Or.inl ⟨by kernel_rfl, fun W _ => by go_simp⟩) hS ?_
          simp only [Act.put, List.setIfInBounds_toArray, List.set_cons_zero, List.set_cons_succ]
          refine takeH9 5 72 (.int .i64 (d.b.whole : Int)) rfl rfl (by kernel_rfl) (by kernel_rfl) (by kernel_rfl) (fun _ _ _ h => h) (Or.inl ⟨by kernel_rfl, fun W _ => by go_simp⟩) hS ?_
          simp only [Act.put, List.setIfInBounds_toArray, List.set_cons_zero, List.set_cons_succ]
          refine takeH9 6 73 (.pointer (some ⟨wr.heap.size, 0, none⟩)) rfl rfl (by kernel_rfl) (by kernel_rfl) (by kernel_rfl) (fun _ _ _ h => h) (Or.inl ⟨by kernel_rfl, fun W _ => by go_simp⟩) hS ?_
          simp only [Act.put, List.setIfInBounds_toArray, List.set_cons_zero, List.set_cons_succ]
          refine takeH9 7 74 (.slice ba d.b.now.length bc) rfl rfl (by kernel_rfl) (by kernel_rfl) (by kernel_rfl) (fun _ _ _ h => h) (Or.inl ⟨by kernel_rfl, fun W h => by have h' := (hS1 W).1 h; obtain ⟨e1, e2⟩ := h'; go_simp⟩) hS ?_
          simp only [Act.put, List.setIfInBounds_toArray, List.set_cons_zero, List.set_cons_succ]
          refine takeH9 8 75 (.int .i64 (d.b.now.length : Int)) rfl rfl (by kernel_rfl) (by kernel_rfl) (by kernel_rfl) (fun _ _ _ h => h) (Or.inl ⟨by kernel_rfl, fun W _ => by go_simp⟩) hS ?_
          simp only [Act.put, List.setIfInBounds_toArray, List.set_cons_zero, List.set_cons_succ]
          refine takeH9 9 76 (.int .i64 (d.b.whole : Int)) rfl rfl (by kernel_rfl) (by kernel_rfl) (by kernel_rfl) (fun _ _ _ h => h) (yi_min (by kernel_rfl) (.tmp 72) (.tmp 75) rfl _ _ _ (by kernel_rfl) (by kernel_rfl) hmin) hS ?_
          simp only [Act.put, List.setIfInBounds_toArray, List.set_cons_zero, List.set_cons_succ]
          refine takeH9 10 77 (.slice xs d.b.whole xt) rfl rfl (by kernel_rfl) (by kernel_rfl) (by kernel_rfl) (fun _ _ _ h => h) (Or.inl ⟨by kernel_rfl, fun W _ => by go_simp⟩) hS ?_
          simp only [Act.put, List.setIfInBounds_toArray, List.set_cons_zero, List.set_cons_succ]
          refine takeH9 11 78 (.int .i64 (d.b.whole : Int)) rfl rfl (by kernel_rfl) (by kernel_rfl) (by kernel_rfl) (fun _ _ _ h => h) (Or.inl ⟨by kernel_rfl, fun W _ => by go_simp⟩) hS ?_
          simp only [Act.put, List.setIfInBounds_toArray, List.set_cons_zero, List.set_cons_succ]
          refine takeH9 12 79 (.pointer (some ⟨wr.heap.size, 0, none⟩)) rfl rfl (by kernel_rfl) (by kernel_rfl) (by kernel_rfl) (fun _ _ _ h => h) (Or.inl ⟨by kernel_rfl, fun W _ => by go_simp⟩) hS ?_
          simp only [Act.put, List.setIfInBounds_toArray, List.set_cons_zero, List.set_cons_succ]
          refine takeH9 13 80 (.slice ba d.b.now.length bc) rfl rfl (by kernel_rfl) (by kernel_rfl) (by kernel_rfl) (fun _ _ _ h => h) (Or.inl ⟨by kernel_rfl, fun W h => by have h' := (hS1 W).1 h; obtain ⟨e1, e2⟩ := h'; go_simp⟩) hS ?_
          simp only [Act.put, List.setIfInBounds_toArray, List.set_cons_zero, List.set_cons_succ]
          refine takeH9 14 81 (.int .i64 (d.b.now.length : Int)) rfl rfl (by kernel_rfl) (by kernel_rfl) (by kernel_rfl) (fun _ _ _ h => h) (Or.inl ⟨by kernel_rfl, fun W _ => by go_simp⟩) hS ?_
          simp only [Act.put, List.setIfInBounds_toArray, List.set_cons_zero, List.set_cons_succ]
          refine takeH9 15 82 (.int .i64 (d.b.whole : Int)) rfl rfl (by kernel_rfl) (by kernel_rfl) (by kernel_rfl) (fun _ _ _ h => h) (yi_min (by kernel_rfl) (.tmp 78) (.tmp 81) rfl _ _ _ (by kernel_rfl) (by kernel_rfl) hmin) hS ?_
          simp only [Act.put, List.setIfInBounds_toArray, List.set_cons_zero, List.set_cons_succ]
          refine takeH9 16 83 (.int .i64 (d.b.kept k1 : Int)) rfl rfl (by kernel_rfl) (by kernel_rfl) (by kernel_rfl) (fun _ _ _ h => h) (Or.inl ⟨by kernel_rfl, fun W _ => by go_simp⟩) hS ?_
          simp only [Act.put, List.setIfInBounds_toArray, List.set_cons_zero, List.set_cons_succ]
          refine takeH9 17 84 (.int .i64 (d.b.kept k1 : Int)) rfl rfl (by kernel_rfl) (by kernel_rfl) (by kernel_rfl) (fun _ _ _ h => h) (yi_max (by kernel_rfl) (.tmp 83) (.const (.int .i64 0)) rfl _ _ _ (by kernel_rfl) (by kernel_rfl) hmaxk) hS ?_
          simp only [Act.put, List.setIfInBounds_toArray, List.set_cons_zero, List.set_cons_succ]
          refine takeH9 18 85 (.int .i64 ((d.b.whole : Int) + (d.b.kept k1 : Int))) rfl rfl (by kernel_rfl) (by kernel_rfl) (by kernel_rfl) (fun _ _ _ h => h) (Or.inl ⟨by kernel_rfl, fun W _ => by go_simp⟩) hS ?_
          simp only [Act.put, List.setIfInBounds_toArray, List.set_cons_zero, List.set_cons_succ]
          refine takeH9 19 86 (.slice ma (d.b.kept k1) mc) rfl rfl (by kernel_rfl) (by kernel_rfl) (by kernel_rfl) (fun _ _ _ h => h) (yi_cut (by kernel_rfl) (.tmp 70) (.tmp 76) (.tmp 85) rfl (.slice ba d.b.now.length bc) _ _ _ (by kernel_rfl) (by kernel_rfl) (by kernel_rfl) hms) hS ?_
          simp only [Act.put, List.setIfInBounds_toArray, List.set_cons_zero, List.set_cons_succ]
          refine wpAnyH_ready (rs := [1]) (by kernel_rfl) (by simp) ?_
          refine AllReadyH.cons rfl (fun K hK => ?_) AllReadyH.nil
          refine step_append_RB rfl (.const (.slice none 0 0)) (.tmp 67) rfl (.slice none 0 0) [] rfl (OwnsBytes.nil _ 0) (.slice xs d.b.whole xt) (d.b.sure.take d.b.whole) (by kernel_rfl) hbase hl1 ?_
          intro v1 w6 g1 g2 g3
          have hB6 := below_grown g2
          have hm6 := HMID.out.below hB6
          have xb6 := (hB6.cell (p := ⟨wr.heap.size, 0, none⟩) hxl).trans xb0
          have g1' : OwnsBytes w6 0 v1 (d.b.sure.take d.b.whole) := g1
          obtain ⟨va, vc, hvf⟩ := g1'.form
          rw [HLB.out] at hvf
          subst hvf
          have G1 := hide9 g1'
          have G3 : Hid ((Value.slice va (d.b.whole) vc).ownBlock = none ∨ (Value.slice va (d.b.whole) vc).ownBlock = some w5.heap.size) := g3
          clear g1 g2 g3 g1'
          refine hK.out _ _ ((hS1 _).2 ⟨xb6, trivial⟩) (fun hS => ?_)
          clear hK K
          simp only [Act.put, List.setIfInBounds_toArray, List.set_cons_zero, List.set_cons_succ]
          refine wpAnyH_ready (rs := [20]) (by kernel_rfl) (by simp) ?_
          refine AllReadyH.cons rfl (fun K hK => ?_) AllReadyH.nil
          refine step_append_RB rfl (.tmp 68) (.tmp 86) rfl (.slice va (d.b.whole) vc) _ (by kernel_rfl) G1.out (.slice ma (d.b.kept k1) mc) _ (by kernel_rfl) hm6 hl2 ?_
          intro v2 w7 g4 g5 g6
          have hB7 : Below w5.heap.size w5 w7 := (bel ((Below.refl _ w5).drew) hB6).trans ⟨g5.os, g5.tape, g5.output, g5.size, fun k hk => g5.block k (Nat.lt_of_lt_of_le hk hB6.size) (fun e2 => by rcases G3.out with e3 | e3 <;> rw [e3] at e2 <;> cases e2; exact Nat.lt_irrefl _ hk)⟩
          have hv2 : OwnsBytes w7 w5.heap.size v2 (d.b.sure.take d.b.whole ++ (d.b.now.drop (d.b.whole)).take (d.b.kept k1)) := g4.base (fun k hk => by
            rcases g6 with e | e
            · rw [e] at hk
              rcases G3.out with e3 | e3 <;> rw [e3] at hk <;> cases hk
              exact Nat.le_refl _
            · rw [e] at hk
              cases hk
              exact hB6.size)
          have xb7 := (hB7.cell (p := ⟨wr.heap.size, 0, none⟩) hxl).trans xb0
          have HB7 := hide9 hB7
          obtain ⟨L2, wa, wc, HL2, hvf2, hv2'⟩ := hv2.gen9
          have HV2 := hide9 hv2'
          clear g4 g5 g6 hB7 hv2 hv2'
          refine hK.out _ _ ((hS1 _).2 ⟨xb7, trivial⟩) (fun hS => ?_)
          clear hK K
          simp only [Act.put, List.setIfInBounds_toArray, List.set_cons_zero, List.set_cons_succ]
          refine takeH9 21 9 (v2) rfl rfl (by kernel_rfl) (by kernel_rfl) (by kernel_rfl) (fun _ _ _ h => h) (Or.inl ⟨by kernel_rfl, fun W _ => by go_simp⟩) hS ?_
          simp only [Act.put, List.setIfInBounds_toArray, List.set_cons_zero, List.set_cons_succ]
          refine wpAnyH_done (by kernel_rfl) ?_ _
          subst hvf2
          have HBw := hide9 (bel HBD.out HB7.out)
          have h7 := HX.out.below HBw.out
          have y0 := h7.cell 3
          have y1 := h7.cell 4
          have y2 := h7.cell 5
          have fr0 := h7.free 3
          have fr1 := h7.free 4
          have fr2 := h7.free 5
          have H7 := hide9 h7
          clear h7 hS hS1 xb7 xb6 hxl xb0 hbase hm6
          go_wp2
          have hleft : d.b.left k1 c1 = L2 := by rw [HL2.out]; exact left_stay d.b HFA.out c1 HG.out k1
          have hq : RQ w7 P rb (.slice wa L2.length wc) L2 := ⟨HV2.out.reads, fun k e => by
            have h1 := (HV2.out.lt e).1
            have h2 := HBD.out.size
            have h3 := HO.out.size
            have h4 := HRW.out
            exact ⟨hP k (by have := HSLN.out; omega), by omega, (HV2.out.lt e).2⟩⟩
          have e4 := H7.out.file1 (c := d.b.lose k1 c1) (v := .slice wa L2.length wc) (s := .slice wa L2.length wc) (by show RQ w7 P rb _ (d.b.left k1 c1); rw [hleft]; exact hq) (by rw [lose_sure, hleft]; exact hq) (HFA.out.lose k1 c1)
          have hll := (Array.getElem?_eq_some_iff.1 HLL.out).1
          have hll9 := HLL.out
          have hne : W.heap.size ≠ rb := by have := HRL.out; omega
          refine ⟨⟨.inr (.inr ⟨rfl, ⟨_, _, _, _, _, e4⟩⟩), (HO.out.trans (Own.of (T := fun k => k = rb) HBw.out) (fun k hk => .inl hk)).trans (own_three w7) (fun k hk => .inl hk), ?_⟩, by simp [intOf]⟩
          exact (((Below.heap_setCell _ _ _ _ hne).trans (Below.heap_setCell _ _ _ _ hne)).trans (Below.heap_setCell _ _ _ _ hne)).trans ((HBw.out.block _ hll).trans hll9)
        · have hcv : d.b.cutv = (d.b.whole : Int) := by unfold Dk.Cn.cutv; rw [if_neg hg]
          rw [hcv] at y2
          have hwnn : (0 : Int) ≤ (d.b.whole : Int) := by omega
          have hwnn2 : ¬ (d.b.whole : Int) < 0 := by omega
          have HGN := hide9 hg
          clear hg hcv
          cases hcut : c1 with
          | true =>
            rw [hcut] at l3
            have HG : Hid (d.b.gone = [] ∨ c1 = true) := .inr hcut
            clear hcut
            have HSLN := hide9 hsl
            clear hsl
            have hct := (cut_to HSR.out d.b.whole (by have := HSLN.out; omega)).1
            have hnow := HFA.out.now
            have hls : IntKind.i64.wrap ((d.b.now.length : Int) - (d.b.whole : Int)) = (d.b.now.length : Int) - (d.b.whole : Int) := w64 rfl (by have := HSLN.out; omega) (by have := HSLN.out; omega)
            have hsum : IntKind.i64.wrap ((d.b.whole : Int) + (d.b.kept k1 : Int)) = (d.b.whole : Int) + (d.b.kept k1 : Int) := w64 rfl (by have := HSLN.out; omega) (by have : d.b.kept k1 ≤ d.b.now.length - d.b.whole := (by unfold Dk.Cn.kept; omega); omega)
            have HKP : Hid (d.b.kept k1 ≤ d.b.now.length - d.b.whole) := by show d.b.kept k1 ≤ _; unfold Dk.Cn.kept; omega
            have HB5 := hide9 (alloc1 wr (.cells #[.slice ba d.b.now.length bc, .slice xs d.b.sure.length xt, .int .i64 (d.b.whole : Int)] 29))
            have lk0 := (HB5.out.cell (p := ⟨W.heap.size, 1, none⟩) (cell_lt l1)).trans l1
            have lc0 := (HB5.out.cell (p := ⟨W.heap.size, 3, none⟩) (cell_lt l3)).trans l3
            have xb0 : (wr.alloc (.cells #[.slice ba d.b.now.length bc, .slice xs d.b.sure.length xt, .int .i64 (d.b.whole : Int)] 29)).cell? ⟨wr.heap.size, 0, none⟩ = some (.slice ba d.b.now.length bc) := Lib.cell_of_heap (heap_new wr _) 0
            obtain ⟨ma, mc, hms', hmr⟩ := cut_mid HBR.out d.b.whole (d.b.whole + d.b.kept k1) (by have := HSLN.out; omega) (by have := HKP.out; omega)
            rw [Nat.add_sub_cancel_left] at hmr
            have hms : ∀ W', (Instr.slice 27 (.slice ba d.b.now.length bc) (some (.int .i64 (d.b.whole : Int))) (some (.int .i64 ((d.b.whole : Int) + (d.b.kept k1 : Int)))) none).run Try.prog W' = .ok (.slice ma (d.b.kept k1) mc) W' := fun W' => by
              have := hms' W'
              rw [Nat.add_sub_cancel_left] at this
              exact this
            have HMS := hide9 hms
            have HMR := hide9 hmr
            clear hmr hms hms'
            go_wp2
            obtain ⟨S, hS1⟩ : ∃ S : World → Prop, ∀ W', S W' ↔ (W'.cell? ⟨wr.heap.size, 0, none⟩ = some (.slice ba d.b.now.length bc) ∧ W'.cell? ⟨W.heap.size, 1, none⟩ = some (.int .i64 k1)) := ⟨_, fun _ => Iff.rfl⟩
            refine wp_region_held_drew (S := S) (by kernel_rfl) ((hS1 _).2 ⟨xb0, lk0⟩) (fun hS => ?_)
            refine takeH9 0 55 (.int .i64 1) rfl rfl (by kernel_rfl) (by kernel_rfl) (by kernel_rfl) (fun _ _ _ h => h) (Or.inl ⟨by kernel_rfl, fun W _ => by go_simp⟩) hS ?_
            simp only [Act.put, List.setIfInBounds_toArray, List.set_cons_zero, List.set_cons_succ]
            refine takeH9 1 56 (.pointer (some ⟨W.heap.size, 0, none⟩)) rfl rfl (by kernel_rfl) (by kernel_rfl) (by kernel_rfl) (fun _ _ _ h => h) (Or.inl ⟨by kernel_rfl, fun W _ => by go_simp⟩) hS ?_
            simp only [Act.put, List.setIfInBounds_toArray, List.set_cons_zero, List.set_cons_succ]
            refine takeH9 2 57 (.pointer (some ⟨W.heap.size, 1, none⟩)) rfl rfl (by kernel_rfl) (by kernel_rfl) (by kernel_rfl) (fun _ _ _ h => h) (Or.inl ⟨by kernel_rfl, fun W _ => by go_simp⟩) hS ?_
            simp only [Act.put, List.setIfInBounds_toArray, List.set_cons_zero, List.set_cons_succ]
            refine takeH9 3 58 (.int .i64 k1) rfl rfl (by kernel_rfl) (by kernel_rfl) (by kernel_rfl) (fun _ _ _ h => h) (Or.inl ⟨by kernel_rfl, fun W h => by have h' := (hS1 W).1 h; obtain ⟨e1, e2⟩ := h'; go_simp⟩) hS ?_
            simp only [Act.put, List.setIfInBounds_toArray, List.set_cons_zero, List.set_cons_succ]
            refine takeH9 4 59 (.int .i64 (max k1 0)) rfl rfl (by kernel_rfl) (by kernel_rfl) (by kernel_rfl) (fun _ _ _ h => h) (yi_max (by kernel_rfl) (.tmp 58) (.const (.int .i64 0)) rfl k1 0 _ (by kernel_rfl) (by kernel_rfl) (max_kept k1)) hS ?_
            simp only [Act.put, List.setIfInBounds_toArray, List.set_cons_zero, List.set_cons_succ]
            refine takeH9 5 60 (.pointer (some ⟨wr.heap.size, 0, none⟩)) rfl rfl (by kernel_rfl) (by kernel_rfl) (by kernel_rfl) (fun _ _ _ h => h) (Or.inl ⟨by kernel_rfl, fun W _ => by go_simp⟩) hS ?_
            simp only [Act.put, List.setIfInBounds_toArray, List.set_cons_zero, List.set_cons_succ]
            refine takeH9 6 61 (.slice ba d.b.now.length bc) rfl rfl (by kernel_rfl) (by kernel_rfl) (by kernel_rfl) (fun _ _ _ h => h) (Or.inl ⟨by kernel_rfl, fun W h => by have h' := (hS1 W).1 h; obtain ⟨e1, e2⟩ := h'; go_simp⟩) hS ?_
            simp only [Act.put, List.setIfInBounds_toArray, List.set_cons_zero, List.set_cons_succ]
            refine takeH9 7 62 (.int .i64 (d.b.now.length : Int)) rfl rfl (by kernel_rfl) (by kernel_rfl) (by kernel_rfl) (fun _ _ _ h => h) (Or.inl ⟨by kernel_rfl, fun W _ => by go_simp⟩) hS ?_
            simp only [Act.put, List.setIfInBounds_toArray, List.set_cons_zero, List.set_cons_succ]
            refine takeH9 8 63 (.slice xs d.b.whole xt) rfl rfl (by kernel_rfl) (by kernel_rfl) (by kernel_rfl) (fun _ _ _ h => h) (Or.inl ⟨by kernel_rfl, fun W _ => by go_simp⟩) hS ?_
            simp only [Act.put, List.setIfInBounds_toArray, List.set_cons_zero, List.set_cons_succ]
            refine takeH9 9 64 (.int .i64 (d.b.whole : Int)) rfl rfl (by kernel_rfl) (by kernel_rfl) (by kernel_rfl) (fun _ _ _ h => h) (Or.inl ⟨by kernel_rfl, fun W _ => by go_simp⟩) hS ?_
            simp only [Act.put, List.setIfInBounds_toArray, List.set_cons_zero, List.set_cons_succ]
            refine takeH9 10 65 (.int .i64 ((d.b.now.length : Int) - (d.b.whole : Int))) rfl rfl (by kernel_rfl) (by kernel_rfl) (by kernel_rfl) (fun _ _ _ h => h) (Or.inl ⟨by kernel_rfl, fun W _ => by go_simp⟩) hS ?_
            simp only [Act.put, List.setIfInBounds_toArray, List.set_cons_zero, List.set_cons_succ]
            refine takeH9 11 66 (.int .i64 (d.b.kept k1 : Int)) rfl rfl (by kernel_rfl) (by kernel_rfl) (by kernel_rfl) (fun _ _ _ h => h) (yi_min (by kernel_rfl) (.tmp 59) (.tmp 65) rfl (max k1 0) _ _ (by kernel_rfl) (by kernel_rfl) (min_kept d.b k1 hwl)) hS ?_
            simp only [Act.put, List.setIfInBounds_toArray, List.set_cons_zero, List.set_cons_succ]
            refine takeH9 12 8 (.int .i64 (d.b.kept k1 : Int)) rfl rfl (by kernel_rfl) (by kernel_rfl) (by kernel_rfl) (fun _ _ _ h => h) (Or.inl ⟨by kernel_rfl, fun W _ => by go_simp⟩) hS ?_
            simp only [Act.put, List.setIfInBounds_toArray, List.set_cons_zero, List.set_cons_succ]
            refine wpAnyH_done (by kernel_rfl) ?_ _
            clear hS hS1 lk0
            have HBD : Hid (Below wr.heap.size wr ((wr.alloc (.cells #[.slice ba d.b.now.length bc, .slice xs d.b.sure.length xt, .int .i64 (d.b.whole : Int)] 29)).drew)) := HB5.out.drew
            have hbase : RB ((wr.alloc (.cells #[.slice ba d.b.now.length bc, .slice xs d.b.sure.length xt, .int .i64 (d.b.whole : Int)] 29)).drew).drew (.slice xs d.b.whole xt) (d.b.sure.take d.b.whole) := ((HSR.out.below HBD.out).take d.b.whole (by have := HSLN.out; omega)).keep (fun _ _ _ => rfl)
            have HMID : Hid (RB ((wr.alloc (.cells #[.slice ba d.b.now.length bc, .slice xs d.b.sure.length xt, .int .i64 (d.b.whole : Int)] 29)).drew).drew (.slice ma (d.b.kept k1) mc) ((d.b.now.drop (d.b.whole)).take (d.b.kept k1))) := (HMR.out.below HBD.out).keep (fun _ _ _ => rfl)
            have xb0 : ((wr.alloc (.cells #[.slice ba d.b.now.length bc, .slice xs d.b.sure.length xt, .int .i64 (d.b.whole : Int)] 29)).drew).cell? ⟨wr.heap.size, 0, none⟩ = some (.slice ba d.b.now.length bc) := xb0
            go_wp2
            generalize (wr.alloc (.cells #[.slice ba d.b.now.length bc, .slice xs d.b.sure.length xt, .int .i64 (d.b.whole : Int)] 29)).drew = w5 at *
            have hxl := cell_lt xb0
            have hmin : (if (d.b.now.length : Int) < (d.b.whole : Int) then (d.b.now.length : Int) else (d.b.whole : Int)) = (d.b.whole : Int) := if_neg (by have := HSLN.out; omega)
            have hmaxk : (if (0 : Int) > (d.b.kept k1 : Int) then (0 : Int) else (d.b.kept k1 : Int)) = (d.b.kept k1 : Int) := if_neg (by have := HSLN.out; omega)
            have hl1 : ([] : List UInt8).length + (d.b.sure.take d.b.whole).length ≤ 1000000000 := by have := HSLN.out; simp; omega
            have hl2 : (d.b.sure.take d.b.whole).length + ((d.b.now.drop (d.b.whole)).take (d.b.kept k1)).length ≤ 1000000000 := by have := HSLN.out; simp; omega
            have HLB : Hid ((d.b.sure.take d.b.whole).length = d.b.whole) := by show (d.b.sure.take d.b.whole).length = _; have := HSLN.out; simp; omega
            have hms := HMS.out
            obtain ⟨S2, hS1⟩ : ∃ S : World → Prop, ∀ W', S W' ↔ (W'.cell? ⟨wr.heap.size, 0, none⟩ = some (.slice ba d.b.now.length bc) ∧ True) := ⟨_, fun _ => Iff.rfl⟩
            refine wp_region_held_drew (S := S2) (by kernel_rfl) ((hS1 _).2 ⟨xb0, trivial⟩) (fun hS => ?_)
            refine takeH9 0 67 (.slice xs d.b.whole xt) rfl rfl (by kernel_rfl) (by kernel_rfl) (by kernel_rfl) (fun _ _ _ h => h) (Or.inl ⟨by kernel_rfl, fun W _ => by go_simp⟩) hS ?_
            simp only [Act.put, List.setIfInBounds_toArray, List.set_cons_zero, List.set_cons_succ]
            refine takeH9 2 69 (.pointer (some ⟨wr.heap.size, 0, none⟩)) rfl rfl (by kernel_rfl) (by kernel_rfl) (by kernel_rfl) (fun _ _ _ h => h) (Or.inl ⟨by kernel_rfl, fun W _ => by go_simp⟩) hS ?_
            simp only [Act.put, List.setIfInBounds_toArray, List.set_cons_zero, List.set_cons_succ]
            refine takeH9 3 70 (.slice ba d.b.now.length bc) rfl rfl (by kernel_rfl) (by kernel_rfl) (by kernel_rfl) (fun _ _ _ h => h) (Or.inl ⟨by kernel_rfl, fun W h => by have h' := (hS1 W).1 h; obtain ⟨e1, e2⟩ := h'; go_simp⟩) hS ?_
            simp only [Act.put, List.setIfInBounds_toArray, List.set_cons_zero, List.set_cons_succ]
            refine takeH9 4 71 (.slice xs d.b.whole xt) rfl rfl (by kernel_rfl) (by kernel_rfl) (by kernel_rfl) (fun _ _ _ h => h) (Or.inl ⟨by kernel_rfl, fun W _ => by go_simp⟩) hS ?_
            simp only [Act.put, List.setIfInBounds_toArray, List.set_cons_zero, List.set_cons_succ]
            refine takeH9 5 72 (.int .i64 (d.b.whole : Int)) rfl rfl (by kernel_rfl) (by kernel_rfl) (by kernel_rfl) (fun _ _ _ h => h) (Or.inl ⟨by kernel_rfl, fun W _ => by go_simp⟩) hS ?_
            simp only [Act.put, List.setIfInBounds_toArray, List.set_cons_zero, List.set_cons_succ]
            refine takeH9 6 73 (.pointer (some ⟨wr.heap.size, 0, none⟩)) rfl rfl (by kernel_rfl) (by kernel_rfl) (by kernel_rfl) (fun _ _ _ h => h) (Or.inl ⟨by kernel_rfl, fun W _ => by go_simp⟩) hS ?_
            simp only [Act.put, List.setIfInBounds_toArray, List.set_cons_zero, List.set_cons_succ]
            refine takeH9 7 74 (.slice ba d.b.now.length bc) rfl rfl (by kernel_rfl) (by kernel_rfl) (by kernel_rfl) (fun _ _ _ h => h) (Or.inl ⟨by kernel_rfl, fun W h => by have h' := (hS1 W).1 h; obtain ⟨e1, e2⟩ := h'; go_simp⟩) hS ?_
            simp only [Act.put, List.setIfInBounds_toArray, List.set_cons_zero, List.set_cons_succ]
            refine takeH9 8 75 (.int .i64 (d.b.now.length : Int)) rfl rfl (by kernel_rfl) (by kernel_rfl) (by kernel_rfl) (fun _ _ _ h => h) (Or.inl ⟨by kernel_rfl, fun W _ => by go_simp⟩) hS ?_
            simp only [Act.put, List.setIfInBounds_toArray, List.set_cons_zero, List.set_cons_succ]
            refine takeH9 9 76 (.int .i64 (d.b.whole : Int)) rfl rfl (by kernel_rfl) (by kernel_rfl) (by kernel_rfl) (fun _ _ _ h => h) (yi_min (by kernel_rfl) (.tmp 72) (.tmp 75) rfl _ _ _ (by kernel_rfl) (by kernel_rfl) hmin) hS ?_
            simp only [Act.put, List.setIfInBounds_toArray, List.set_cons_zero, List.set_cons_succ]
            refine takeH9 10 77 (.slice xs d.b.whole xt) rfl rfl (by kernel_rfl) (by kernel_rfl) (by kernel_rfl) (fun _ _ _ h => h) (Or.inl ⟨by kernel_rfl, fun W _ => by go_simp⟩) hS ?_
            simp only [Act.put, List.setIfInBounds_toArray, List.set_cons_zero, List.set_cons_succ]
            refine takeH9 11 78 (.int .i64 (d.b.whole : Int)) rfl rfl (by kernel_rfl) (by kernel_rfl) (by kernel_rfl) (fun _ _ _ h => h) (Or.inl ⟨by kernel_rfl, fun W _ => by go_simp⟩) hS ?_
            simp only [Act.put, List.setIfInBounds_toArray, List.set_cons_zero, List.set_cons_succ]
            refine takeH9 12 79 (.pointer (some ⟨wr.heap.size, 0, none⟩)) rfl rfl (by kernel_rfl) (by kernel_rfl) (by kernel_rfl) (fun _ _ _ h => h) (Or.inl ⟨by kernel_rfl, fun W _ => by go_simp⟩) hS ?_
            simp only [Act.put, List.setIfInBounds_toArray, List.set_cons_zero, List.set_cons_succ]
            refine takeH9 13 80 (.slice ba d.b.now.length bc) rfl rfl (by kernel_rfl) (by kernel_rfl) (by kernel_rfl) (fun _ _ _ h => h) (Or.inl ⟨by kernel_rfl, fun W h => by have h' := (hS1 W).1 h; obtain ⟨e1, e2⟩ := h'; go_simp⟩) hS ?_
            simp only [Act.put, List.setIfInBounds_toArray, List.set_cons_zero, List.set_cons_succ]
            refine takeH9 14 81 (.int .i64 (d.b.now.length : Int)) rfl rfl (by kernel_rfl) (by kernel_rfl) (by kernel_rfl) (fun _ _ _ h => h) (Or.inl ⟨by kernel_rfl, fun W _ => by go_simp⟩) hS ?_
            simp only [Act.put, List.setIfInBounds_toArray, List.set_cons_zero, List.set_cons_succ]
            refine takeH9 15 82 (.int .i64 (d.b.whole : Int)) rfl rfl (by kernel_rfl) (by kernel_rfl) (by kernel_rfl) (fun _ _ _ h => h) (yi_min (by kernel_rfl) (.tmp 78) (.tmp 81) rfl _ _ _ (by kernel_rfl) (by kernel_rfl) hmin) hS ?_
            simp only [Act.put, List.setIfInBounds_toArray, List.set_cons_zero, List.set_cons_succ]
            refine takeH9 16 83 (.int .i64 (d.b.kept k1 : Int)) rfl rfl (by kernel_rfl) (by kernel_rfl) (by kernel_rfl) (fun _ _ _ h => h) (Or.inl ⟨by kernel_rfl, fun W _ => by go_simp⟩) hS ?_
            simp only [Act.put, List.setIfInBounds_toArray, List.set_cons_zero, List.set_cons_succ]
            refine takeH9 17 84 (.int .i64 (d.b.kept k1 : Int)) rfl rfl (by kernel_rfl) (by kernel_rfl) (by kernel_rfl) (fun _ _ _ h => h) (yi_max (by kernel_rfl) (.tmp 83) (.const (.int .i64 0)) rfl _ _ _ (by kernel_rfl) (by kernel_rfl) hmaxk) hS ?_
            simp only [Act.put, List.setIfInBounds_toArray, List.set_cons_zero, List.set_cons_succ]
            refine takeH9 18 85 (.int .i64 ((d.b.whole : Int) + (d.b.kept k1 : Int))) rfl rfl (by kernel_rfl) (by kernel_rfl) (by kernel_rfl) (fun _ _ _ h => h) (Or.inl ⟨by kernel_rfl, fun W _ => by go_simp⟩) hS ?_
            simp only [Act.put, List.setIfInBounds_toArray, List.set_cons_zero, List.set_cons_succ]
            refine takeH9 19 86 (.slice ma (d.b.kept k1) mc) rfl rfl (by kernel_rfl) (by kernel_rfl) (by kernel_rfl) (fun _ _ _ h => h) (yi_cut (by kernel_rfl) (.tmp 70) (.tmp 76) (.tmp 85) rfl (.slice ba d.b.now.length bc) _ _ _ (by kernel_rfl) (by kernel_rfl) (by kernel_rfl) hms) hS ?_
            simp only [Act.put, List.setIfInBounds_toArray, List.set_cons_zero, List.set_cons_succ]
            refine wpAnyH_ready (rs := [1]) (by kernel_rfl) (by simp) ?_
            refine AllReadyH.cons rfl (fun K hK => ?_) AllReadyH.nil
            refine step_append_RB rfl (.const (.slice none 0 0)) (.tmp 67) rfl (.slice none 0 0) [] rfl (OwnsBytes.nil _ 0) (.slice xs d.b.whole xt) (d.b.sure.take d.b.whole) (by kernel_rfl) hbase hl1 ?_
            intro v1 w6 g1 g2 g3
            have hB6 := below_grown g2
            have hm6 := HMID.out.below hB6
            have xb6 := (hB6.cell (p := ⟨wr.heap.size, 0, none⟩) hxl).trans xb0
            have g1' : OwnsBytes w6 0 v1 (d.b.sure.take d.b.whole) := g1
            obtain ⟨va, vc, hvf⟩ := g1'.form
            rw [HLB.out] at hvf
            subst hvf
            have G1 := hide9 g1'
            have G3 : Hid ((Value.slice va (d.b.whole) vc).ownBlock = none ∨ (Value.slice va (d.b.whole) vc).ownBlock = some w5.heap.size) := g3
            clear g1 g2 g3 g1'
            refine hK.out _ _ ((hS1 _).2 ⟨xb6, trivial⟩) (fun hS => ?_)
            clear hK K
            simp only [Act.put, List.setIfInBounds_toArray, List.set_cons_zero, List.set_cons_succ]
            refine wpAnyH_ready (rs := [20]) (by kernel_rfl) (by simp) ?_
            refine AllReadyH.cons rfl (fun K hK => ?_) AllReadyH.nil
            refine step_append_RB rfl (.tmp 68) (.tmp 86) rfl (.slice va (d.b.whole) vc) _ (by kernel_rfl) G1.out (.slice ma (d.b.kept k1) mc) _ (by kernel_rfl) hm6 hl2 ?_
            intro v2 w7 g4 g5 g6
            have hB7 : Below w5.heap.size w5 w7 := (bel ((Below.refl _ w5).drew) hB6).trans ⟨g5.os, g5.tape, g5.output, g5.size, fun k hk => g5.block k (Nat.lt_of_lt_of_le hk hB6.size) (fun e2 => by rcases G3.out with e3 | e3 <;> rw [e3] at e2 <;> cases e2; exact Nat.lt_irrefl _ hk)⟩
            have hv2 : OwnsBytes w7 w5.heap.size v2 (d.b.sure.take d.b.whole ++ (d.b.now.drop (d.b.whole)).take (d.b.kept k1)) := g4.base (fun k hk => by
              rcases g6 with e | e
              · rw [e] at hk
                rcases G3.out with e3 | e3 <;> rw [e3] at hk <;> cases hk
                exact Nat.le_refl _
              · rw [e] at hk
                cases hk
                exact hB6.size)
            have xb7 := (hB7.cell (p := ⟨wr.heap.size, 0, none⟩) hxl).trans xb0
            have HB7 := hide9 hB7
            obtain ⟨L2, wa, wc, HL2, hvf2, hv2'⟩ := hv2.gen9
            have HV2 := hide9 hv2'
            clear g4 g5 g6 hB7 hv2 hv2'
            refine hK.out _ _ ((hS1 _).2 ⟨xb7, trivial⟩) (fun hS => ?_)
            clear hK K
            simp only [Act.put, List.setIfInBounds_toArray, List.set_cons_zero, List.set_cons_succ]
            refine takeH9 21 9 (v2) rfl rfl (by kernel_rfl) (by kernel_rfl) (by kernel_rfl) (fun _ _ _ h => h) (Or.inl ⟨by kernel_rfl, fun W _ => by go_simp⟩) hS ?_
            simp only [Act.put, List.setIfInBounds_toArray, List.set_cons_zero, List.set_cons_succ]
            refine wpAnyH_done (by kernel_rfl) ?_ _
            subst hvf2
            have HBw := hide9 (bel HBD.out HB7.out)
            have h7 := HX.out.below HBw.out
            have y0 := h7.cell 3
            have y1 := h7.cell 4
            have y2 := h7.cell 5
            have fr0 := h7.free 3
            have fr1 := h7.free 4
            have fr2 := h7.free 5
            have H7 := hide9 h7
            clear h7 hS hS1 xb7 xb6 hxl xb0 hbase hm6
            go_wp2
            have hleft : d.b.left k1 true = L2 := by rw [HL2.out]; exact left_stay d.b HFA.out true (.inr rfl) k1
            have hq : RQ w7 P rb (.slice wa L2.length wc) L2 := ⟨HV2.out.reads, fun k e => by
              have h1 := (HV2.out.lt e).1
              have h2 := HBD.out.size
              have h3 := HO.out.size
              have h4 := HRW.out
              exact ⟨hP k (by have := HSLN.out; omega), by omega, (HV2.out.lt e).2⟩⟩
            have e4 := H7.out.file1 (c := d.b.lose k1 true) (v := .slice wa L2.length wc) (s := .slice wa L2.length wc) (by show RQ w7 P rb _ (d.b.left k1 true); rw [hleft]; exact hq) (by rw [lose_sure, hleft]; exact hq) (HFA.out.lose k1 true)
            have hll := (Array.getElem?_eq_some_iff.1 HLL.out).1
            have hll9 := HLL.out
            rw [HG.out.resolve_left HGN.out] at hll9
            have hne : W.heap.size ≠ rb := by have := HRL.out; omega
            refine ⟨⟨.inr (.inr ⟨rfl, ⟨_, _, _, _, _, e4⟩⟩), (HO.out.trans (Own.of (T := fun k => k = rb) HBw.out) (fun k hk => .inl hk)).trans (own_three w7) (fun k hk => .inl hk), ?_⟩, by simp [intOf]⟩
            exact (((Below.heap_setCell _ _ _ _ hne).trans (Below.heap_setCell _ _ _ _ hne)).trans (Below.heap_setCell _ _ _ _ hne)).trans ((HBw.out.block _ hll).trans hll9)
          | false =>
            rw [hcut] at l3
            have HSLN := hide9 hsl
            clear hsl
            have hnow := HFA.out.now
            have hgn := HFA.out.gone
            obtain ⟨lo, HLO⟩ : ∃ lo : Nat, Hid (lo = min d.b.sure.length d.b.now.length) := ⟨_, rfl⟩
            have HB5 := hide9 (alloc1 wr (.cells #[.slice ba d.b.now.length bc, .slice xs d.b.sure.length xt, .int .i64 (d.b.whole : Int)] 29))
            have lk0 := (HB5.out.cell (p := ⟨W.heap.size, 1, none⟩) (cell_lt l1)).trans l1
            have lc0 := (HB5.out.cell (p := ⟨W.heap.size, 3, none⟩) (cell_lt l3)).trans l3
            have xb0 : (wr.alloc (.cells #[.slice ba d.b.now.length bc, .slice xs d.b.sure.length xt, .int .i64 (d.b.whole : Int)] 29)).cell? ⟨wr.heap.size, 0, none⟩ = some (.slice ba d.b.now.length bc) := Lib.cell_of_heap (heap_new wr _) 0
            obtain ⟨ma, mc, hms', hmr⟩ := cut_mid HBR.out lo (lo + 0) (by have := HSLN.out; have := HLO.out; omega) (by have := HSLN.out; have := HLO.out; omega)
            rw [Nat.add_sub_cancel_left] at hmr
            have hms : ∀ W', (Instr.slice 27 (.slice ba d.b.now.length bc) (some (.int .i64 (lo : Int))) (some (.int .i64 (lo : Int))) none).run Try.prog W' = .ok (.slice ma 0 mc) W' := fun W' => by
              have := hms' W'
              rw [Nat.add_sub_cancel_left] at this
              exact this
            have HMS := hide9 hms
            have HMR := hide9 hmr
            have hsum : IntKind.i64.wrap (lo : Int) = (lo : Int) := w64 rfl (by have := HSLN.out; have := HLO.out; omega) (by have := HSLN.out; have := HLO.out; omega)
            have HBD : Hid (Below wr.heap.size wr (wr.alloc (.cells #[.slice ba d.b.now.length bc, .slice xs d.b.sure.length xt, .int .i64 (d.b.whole : Int)] 29))) := HB5.out
            have hbase : RB (wr.alloc (.cells #[.slice ba d.b.now.length bc, .slice xs d.b.sure.length xt, .int .i64 (d.b.whole : Int)] 29)).drew (.slice xs d.b.sure.length xt) (d.b.sure) := (HSR.out.below HBD.out).keep (fun _ _ _ => rfl)
            have HMID : Hid (RB (wr.alloc (.cells #[.slice ba d.b.now.length bc, .slice xs d.b.sure.length xt, .int .i64 (d.b.whole : Int)] 29)).drew (.slice ma 0 mc) ((d.b.now.drop lo).take 0)) := (HMR.out.below HBD.out).keep (fun _ _ _ => rfl)
            clear hmr hms hms'
            go_wp2
            generalize (wr.alloc (.cells #[.slice ba d.b.now.length bc, .slice xs d.b.sure.length xt, .int .i64 (d.b.whole : Int)] 29)) = w5 at *
            have hxl := cell_lt xb0
            have hmin : (if (d.b.now.length : Int) < (d.b.sure.length : Int) then (d.b.now.length : Int) else (d.b.sure.length : Int)) = (lo : Int) := by have := HLO.out; split <;> omega
            have hmaxk : (if (0 : Int) > (0 : Int) then (0 : Int) else (0 : Int)) = (0 : Int) := rfl
            have hl1 : ([] : List UInt8).length + (d.b.sure).length ≤ 1000000000 := by have := HSLN.out; simp; omega
            have hl2 : (d.b.sure).length + ((d.b.now.drop lo).take 0).length ≤ 1000000000 := by have := HSLN.out; simp; omega
            have HLB : Hid ((d.b.sure).length = d.b.sure.length) := (rfl : (d.b.sure).length = d.b.sure.length)
            have hms := HMS.out
            obtain ⟨S2, hS1⟩ : ∃ S : World → Prop, ∀ W', S W' ↔ (W'.cell? ⟨wr.heap.size, 0, none⟩ = some (.slice ba d.b.now.length bc) ∧ True) := ⟨_, fun _ => Iff.rfl⟩
            refine wp_region_held_drew (S := S2) (by kernel_rfl) ((hS1 _).2 ⟨xb0, trivial⟩) (fun hS => ?_)
            refine takeH9 0 67 (.slice xs d.b.sure.length xt) rfl rfl (by kernel_rfl) (by kernel_rfl) (by kernel_rfl) (fun _ _ _ h => h) (Or.inl ⟨by kernel_rfl, fun W _ => by go_simp⟩) hS ?_
            simp only [Act.put, List.setIfInBounds_toArray, List.set_cons_zero, List.set_cons_succ]
            refine takeH9 2 69 (.pointer (some ⟨wr.heap.size, 0, none⟩)) rfl rfl (by kernel_rfl) (by kernel_rfl) (by kernel_rfl) (fun _ _ _ h => h) (Or.inl ⟨by kernel_rfl, fun W _ => by go_simp⟩) hS ?_
            simp only [Act.put, List.setIfInBounds_toArray, List.set_cons_zero, List.set_cons_succ]
            refine takeH9 3 70 (.slice ba d.b.now.length bc) rfl rfl (by kernel_rfl) (by kernel_rfl) (by kernel_rfl) (fun _ _ _ h => h) (Or.inl ⟨by kernel_rfl, fun W h => by have h' := (hS1 W).1 h; obtain ⟨e1, e2⟩ := h'; go_simp⟩) hS ?_
            simp only [Act.put, List.setIfInBounds_toArray, List.set_cons_zero, List.set_cons_succ]
            refine takeH9 4 71 (.slice xs d.b.sure.length xt) rfl rfl (by kernel_rfl) (by kernel_rfl) (by kernel_rfl) (fun _ _ _ h => h) (Or.inl ⟨by kernel_rfl, fun W _ => by go_simp⟩) hS ?_
            simp only [Act.put, List.setIfInBounds_toArray, List.set_cons_zero, List.set_cons_succ]
            refine takeH9 5 72 (.int .i64 (d.b.sure.length : Int)) rfl rfl (by kernel_rfl) (by kernel_rfl) (by kernel_rfl) (fun _ _ _ h => h) (Or.inl ⟨by kernel_rfl, fun W _ => by go_simp⟩) hS ?_
            simp only [Act.put, List.setIfInBounds_toArray, List.set_cons_zero, List.set_cons_succ]
            refine takeH9 6 73 (.pointer (some ⟨wr.heap.size, 0, none⟩)) rfl rfl (by kernel_rfl) (by kernel_rfl) (by kernel_rfl) (fun _ _ _ h => h) (Or.inl ⟨by kernel_rfl, fun W _ => by go_simp⟩) hS ?_
            simp only [Act.put, List.setIfInBounds_toArray, List.set_cons_zero, List.set_cons_succ]
            refine takeH9 7 74 (.slice ba d.b.now.length bc) rfl rfl (by kernel_rfl) (by kernel_rfl) (by kernel_rfl) (fun _ _ _ h => h) (Or.inl ⟨by kernel_rfl, fun W h => by have h' := (hS1 W).1 h; obtain ⟨e1, e2⟩ := h'; go_simp⟩) hS ?_
            simp only [Act.put, List.setIfInBounds_toArray, List.set_cons_zero, List.set_cons_succ]
            refine takeH9 8 75 (.int .i64 (d.b.now.length : Int)) rfl rfl (by kernel_rfl) (by kernel_rfl) (by kernel_rfl) (fun _ _ _ h => h) (Or.inl ⟨by kernel_rfl, fun W _ => by go_simp⟩) hS ?_
            simp only [Act.put, List.setIfInBounds_toArray, List.set_cons_zero, List.set_cons_succ]
            refine takeH9 9 76 (.int .i64 (lo : Int)) rfl rfl (by kernel_rfl) (by kernel_rfl) (by kernel_rfl) (fun _ _ _ h => h) (yi_min (by kernel_rfl) (.tmp 72) (.tmp 75) rfl _ _ _ (by kernel_rfl) (by kernel_rfl) hmin) hS ?_
            simp only [Act.put, List.setIfInBounds_toArray, List.set_cons_zero, List.set_cons_succ]
            refine takeH9 10 77 (.slice xs d.b.sure.length xt) rfl rfl (by kernel_rfl) (by kernel_rfl) (by kernel_rfl) (fun _ _ _ h => h) (Or.inl ⟨by kernel_rfl, fun W _ => by go_simp⟩) hS ?_
            simp only [Act.put, List.setIfInBounds_toArray, List.set_cons_zero, List.set_cons_succ]
            refine takeH9 11 78 (.int .i64 (d.b.sure.length : Int)) rfl rfl (by kernel_rfl) (by kernel_rfl) (by kernel_rfl) (fun _ _ _ h => h) (Or.inl ⟨by kernel_rfl, fun W _ => by go_simp⟩) hS ?_
            simp only [Act.put, List.setIfInBounds_toArray, List.set_cons_zero, List.set_cons_succ]
            refine takeH9 12 79 (.pointer (some ⟨wr.heap.size, 0, none⟩)) rfl rfl (by kernel_rfl) (by kernel_rfl) (by kernel_rfl) (fun _ _ _ h => h) (Or.inl ⟨by kernel_rfl, fun W _ => by go_simp⟩) hS ?_
            simp only [Act.put, List.setIfInBounds_toArray, List.set_cons_zero, List.set_cons_succ]
            refine takeH9 13 80 (.slice ba d.b.now.length bc) rfl rfl (by kernel_rfl) (by kernel_rfl) (by kernel_rfl) (fun _ _ _ h => h) (Or.inl ⟨by kernel_rfl, fun W h => by have h' := (hS1 W).1 h; obtain ⟨e1, e2⟩ := h'; go_simp⟩) hS ?_
            simp only [Act.put, List.setIfInBounds_toArray, List.set_cons_zero, List.set_cons_succ]
            refine takeH9 14 81 (.int .i64 (d.b.now.length : Int)) rfl rfl (by kernel_rfl) (by kernel_rfl) (by kernel_rfl) (fun _ _ _ h => h) (Or.inl ⟨by kernel_rfl, fun W _ => by go_simp⟩) hS ?_
            simp only [Act.put, List.setIfInBounds_toArray, List.set_cons_zero, List.set_cons_succ]
            refine takeH9 15 82 (.int .i64 (lo : Int)) rfl rfl (by kernel_rfl) (by kernel_rfl) (by kernel_rfl) (fun _ _ _ h => h) (yi_min (by kernel_rfl) (.tmp 78) (.tmp 81) rfl _ _ _ (by kernel_rfl) (by kernel_rfl) hmin) hS ?_
            simp only [Act.put, List.setIfInBounds_toArray, List.set_cons_zero, List.set_cons_succ]
            refine takeH9 16 83 (.int .i64 (0 : Int)) rfl rfl (by kernel_rfl) (by kernel_rfl) (by kernel_rfl) (fun _ _ _ h => h) (Or.inl ⟨by kernel_rfl, fun W _ => by go_simp⟩) hS ?_
            simp only [Act.put, List.setIfInBounds_toArray, List.set_cons_zero, List.set_cons_succ]
            refine takeH9 17 84 (.int .i64 (0 : Int)) rfl rfl (by kernel_rfl) (by kernel_rfl) (by kernel_rfl) (fun _ _ _ h => h) (yi_max (by kernel_rfl) (.tmp 83) (.const (.int .i64 0)) rfl _ _ _ (by kernel_rfl) (by kernel_rfl) hmaxk) hS ?_
            simp only [Act.put, List.setIfInBounds_toArray, List.set_cons_zero, List.set_cons_succ]
            refine takeH9 18 85 (.int .i64 (lo : Int)) rfl rfl (by kernel_rfl) (by kernel_rfl) (by kernel_rfl) (fun _ _ _ h => h) (Or.inl ⟨by kernel_rfl, fun W _ => by go_simp⟩) hS ?_
            simp only [Act.put, List.setIfInBounds_toArray, List.set_cons_zero, List.set_cons_succ]
            refine takeH9 19 86 (.slice ma 0 mc) rfl rfl (by kernel_rfl) (by kernel_rfl) (by kernel_rfl) (fun _ _ _ h => h) (yi_cut (by kernel_rfl) (.tmp 70) (.tmp 76) (.tmp 85) rfl (.slice ba d.b.now.length bc) _ _ _ (by kernel_rfl) (by kernel_rfl) (by kernel_rfl) hms) hS ?_
            simp only [Act.put, List.setIfInBounds_toArray, List.set_cons_zero, List.set_cons_succ]
            refine wpAnyH_ready (rs := [1]) (by kernel_rfl) (by simp) ?_
            refine AllReadyH.cons rfl (fun K hK => ?_) AllReadyH.nil
            refine step_append_RB rfl (.const (.slice none 0 0)) (.tmp 67) rfl (.slice none 0 0) [] rfl (OwnsBytes.nil _ 0) (.slice xs d.b.sure.length xt) (d.b.sure) (by kernel_rfl) hbase hl1 ?_
            intro v1 w6 g1 g2 g3
            have hB6 := below_grown g2
            have hm6 := HMID.out.below hB6
            have xb6 := (hB6.cell (p := ⟨wr.heap.size, 0, none⟩) hxl).trans xb0
            have g1' : OwnsBytes w6 0 v1 (d.b.sure) := g1
            obtain ⟨va, vc, hvf⟩ := g1'.form
            rw [HLB.out] at hvf
            subst hvf
            have G1 := hide9 g1'
            have G3 : Hid ((Value.slice va (d.b.sure.length) vc).ownBlock = none ∨ (Value.slice va (d.b.sure.length) vc).ownBlock = some w5.heap.size) := g3
            clear g1 g2 g3 g1'
            refine hK.out _ _ ((hS1 _).2 ⟨xb6, trivial⟩) (fun hS => ?_)
            clear hK K
            simp only [Act.put, List.setIfInBounds_toArray, List.set_cons_zero, List.set_cons_succ]
            refine wpAnyH_ready (rs := [20]) (by kernel_rfl) (by simp) ?_
            refine AllReadyH.cons rfl (fun K hK => ?_) AllReadyH.nil
            refine step_append_RB rfl (.tmp 68) (.tmp 86) rfl (.slice va (d.b.sure.length) vc) _ (by kernel_rfl) G1.out (.slice ma 0 mc) _ (by kernel_rfl) hm6 hl2 ?_
            intro v2 w7 g4 g5 g6
            have hB7 : Below w5.heap.size w5 w7 := (bel ((Below.refl _ w5).drew) hB6).trans ⟨g5.os, g5.tape, g5.output, g5.size, fun k hk => g5.block k (Nat.lt_of_lt_of_le hk hB6.size) (fun e2 => by rcases G3.out with e3 | e3 <;> rw [e3] at e2 <;> cases e2; exact Nat.lt_irrefl _ hk)⟩
            have hv2 : OwnsBytes w7 w5.heap.size v2 (d.b.sure ++ (d.b.now.drop (lo)).take 0) := g4.base (fun k hk => by
              rcases g6 with e | e
              · rw [e] at hk
                rcases G3.out with e3 | e3 <;> rw [e3] at hk <;> cases hk
                exact Nat.le_refl _
              · rw [e] at hk
                cases hk
                exact hB6.size)
            have xb7 := (hB7.cell (p := ⟨wr.heap.size, 0, none⟩) hxl).trans xb0
            have HB7 := hide9 hB7
            obtain ⟨L2, wa, wc, HL2, hvf2, hv2'⟩ := hv2.gen9
            have HV2 := hide9 hv2'
            clear g4 g5 g6 hB7 hv2 hv2'
            refine hK.out _ _ ((hS1 _).2 ⟨xb7, trivial⟩) (fun hS => ?_)
            clear hK K
            simp only [Act.put, List.setIfInBounds_toArray, List.set_cons_zero, List.set_cons_succ]
            refine takeH9 21 9 (v2) rfl rfl (by kernel_rfl) (by kernel_rfl) (by kernel_rfl) (fun _ _ _ h => h) (Or.inl ⟨by kernel_rfl, fun W _ => by go_simp⟩) hS ?_
            simp only [Act.put, List.setIfInBounds_toArray, List.set_cons_zero, List.set_cons_succ]
            refine wpAnyH_done (by kernel_rfl) ?_ _
            subst hvf2
            have HBw := hide9 (bel HBD.out HB7.out)
            have h7 := HX.out.below HBw.out
            have y0 := h7.cell 3
            have y1 := h7.cell 4
            have y2 := h7.cell 5
            have fr0 := h7.free 3
            have fr1 := h7.free 4
            have fr2 := h7.free 5
            have H7 := hide9 h7
            clear h7 hS hS1 xb7 xb6 hxl xb0 hbase hm6
            go_wp2
            have hleft : d.b.left k1 false = L2 := by rw [HL2.out]; exact by simpa using left_back d.b HGN.out k1
            have hq : RQ w7 P rb (.slice wa L2.length wc) L2 := ⟨HV2.out.reads, fun k e => by
              have h1 := (HV2.out.lt e).1
              have h2 := HBD.out.size
              have h3 := HO.out.size
              have h4 := HRW.out
              exact ⟨hP k (by have := HSLN.out; have := HLO.out; omega), by omega, (HV2.out.lt e).2⟩⟩
            have e4 := H7.out.file1 (c := d.b.lose k1 false) (v := .slice wa L2.length wc) (s := .slice wa L2.length wc) (by show RQ w7 P rb _ (d.b.left k1 false); rw [hleft]; exact hq) (by rw [lose_sure, hleft]; exact hq) (HFA.out.lose k1 false)
            have hll := (Array.getElem?_eq_some_iff.1 HLL.out).1
            have hll9 := HLL.out
            rw [hcut] at hll9
            have hne : W.heap.size ≠ rb := by have := HRL.out; omega
            refine ⟨⟨.inr (.inr ⟨rfl, ⟨_, _, _, _, _, e4⟩⟩), (HO.out.trans (Own.of (T := fun k => k = rb) HBw.out) (fun k hk => .inl hk)).trans (own_three w7) (fun k hk => .inl hk), ?_⟩, by simp [intOf]⟩
            exact (((Below.heap_setCell _ _ _ _ hne).trans (Below.heap_setCell _ _ _ _ hne)).trans (Below.heap_setCell _ _ _ _ hne)).trans ((HBw.out.block _ hll).trans hll9)
      · have HE := hide9 hE
        clear hE
        go_wp2
        go_ret
        rw [HD.out]
        exact ⟨rfl, HE.out, HO.out⟩
end Go.Proofs.Ytcjbceidgaieaaa
