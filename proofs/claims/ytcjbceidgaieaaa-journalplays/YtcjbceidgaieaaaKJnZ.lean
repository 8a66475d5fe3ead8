/- What the law JournalKept needs besides. -/
import Derived.Test.YtcjbceidgaieaaaKJnWY
import Derived.Test.YtcjbceidgaieaaaKJnQ
import Derived.Deep.RegionWith
set_option linter.unusedVariables false
set_option linter.unusedSimpArgs false
namespace Go.Proofs.Ytcjbceidgaieaaa
open Go.RowKit
theorem frames_nine : ∀ rs : List (List UInt8), Jn.All rs → 9 * rs.length ≤ (Jn.frames rs).length
  | [], _ => by simp [Jn.frames]
  | r :: rs, h => by
    rw [Jn.frames_cons, List.length_append, Jn.frame_length, List.length_cons]
    have := frames_nine rs (fun q hq => h q (by simp [hq]))
    have := (h r (by simp)).1
    omega
/-- An act's box, beside the blocks T. -/
structure Bx (T : Nat → Prop) (W : World) (bx : Nat) (a : Aj) : Prop where
  at' : JAct W bx a
  no : ¬ T bx
theorem Bx.tw {T T' : Nat → Prop} {W W' : World} {bx : Nat} {a : Aj} (h : Bx T W bx a) (hT : Tw W T T' W') : Bx T' W' bx a := ⟨h.at'.keep (hT.own.block bx h.at'.lt h.no), fun hx => (hT.sub bx hx).elim h.no (fun h9 => by have := h.at'.lt; omega)⟩
theorem Bx.below {T : Nat → Prop} {W W' : World} {bx : Nat} {a : Aj} (h : Bx T W bx a) (hB : Below W.heap.size W W') : Bx T W' bx a := h.tw (Tw.of T hB)
theorem Bx.keep9 {T : Nat → Prop} {W W' : World} {bx : Nat} {a : Aj} {v : Value} (h : Bx T W bx a) (hO : Own (fun k => v.ownBlock = some k) W W') (hv : v.ownBlock ≠ some bx) : Bx T W' bx a := ⟨h.at'.keep (hO.block bx h.at'.lt hv), h.no⟩
theorem Bx.rv {T : Nat → Prop} {W : World} {bx : Nat} {a : Aj} (h : Bx T W bx a) : W.cell? ⟨bx, 1, none⟩ = some a.rv := h.at'.cell 1
theorem Bx.box {T : Nat → Prop} {W : World} {bx : Nat} {a : Aj} (h : Bx T W bx a) : Box W bx a := ⟨h.at'⟩
theorem row_rbs {w : World} {v : Value} {rs : List (List UInt8)} {xs : List Value} (hl : xs.length = rs.length) (hrow : w.ownsRow 0 27 1 v rs.length xs) (each : ∀ (j : Nat) x r, xs[j]? = some x → rs[j]? = some r → RB w x r) : RBs w v rs := by
  rcases hrow.2 with ⟨rfl, hz⟩ | ⟨g, cap, cur, rfl, _, hg, hc, _⟩
  · exact .inl ⟨_, _, rfl, List.eq_nil_of_length_eq_zero hz⟩
  · refine .inr ⟨g, 0, cap, rfl, hc, fun j r hj => ?_⟩
    have hlt : j < rs.length := (List.getElem?_eq_some_iff.1 hj).1
    have hxl : j < xs.length := by rw [hl]; exact hlt
    have := World.ownsRow.cellAt (w := w) (base := 0) (e := 27) (size := 1) (g := g) (cap := cap) (n := rs.length) (xs := xs) hrow j (by omega)
    exact ⟨xs[j], by rw [Nat.zero_add, this, List.getElem?_eq_getElem hxl], each j _ r (List.getElem?_eq_getElem hxl) hj⟩
theorem KV.low9 {w0 w w' : World} {T : Nat → Prop} {sv gv : Value} {ss gs : List (List UInt8)} {xs ys : List Value} (h : KV w0 T w sv gv ss gs xs ys) (hB : Below w.heap.size w w') : KV w0 T w' sv gv ss gs xs ys := by
  have hO : Own (Ub T sv gv) w w' := Own.of hB
  have hs : ∀ v, Out T w v → Out T w' v := fun v hv => hv.below hB.size
  exact ⟨⟨h.s.len, row_keep h.s.row (fun k _ hl => hB.block k hl), hs _ h.s.o, fun j x r h1 h2 W hW => h.s.each j x r h1 h2 W (hO.trans hW (fun k hk => .inl hk))⟩, ⟨h.g.len, row_keep h.g.row (fun k _ hl => hB.block k hl), hs _ h.g.o, fun j x r h1 h2 W hW => h.g.each j x r h1 h2 W (hO.trans hW (fun k hk => .inl hk))⟩, h.ap, h.bs, h.bg⟩
/-- What is sure, and the first ones of the group, as one row. -/
theorem KV.both {w0 w w' : World} {T : Nat → Prop} {sv gv v : Value} {ss gs : List (List UInt8)} {xs ys : List Value} (h : KV w0 T w sv gv ss gs xs ys) (hB : Below w.heap.size w w') (m : Nat) (hm : m ≤ gs.length) (hrow : w'.ownsRow 0 27 1 v (ss.length + (ys.take m).length) (xs ++ ys.take m)) : RBs w' v (ss ++ gs.take m) := by
  have hyl : (ys.take m).length = (gs.take m).length := by rw [List.length_take, List.length_take, h.g.len]
  refine row_rbs (xs := xs ++ ys.take m) (by rw [List.length_append, List.length_append, h.s.len, hyl]) (by rw [List.length_append, ← hyl]; exact hrow) (fun j x r e1 e2 => ?_)
  by_cases hlt : j < ss.length
  · rw [List.getElem?_append_left (by rw [h.s.len]; exact hlt)] at e1
    rw [List.getElem?_append_left hlt] at e2
    exact h.s.each j x r e1 e2 w' (Own.of hB)
  · rw [List.getElem?_append_right (by rw [h.s.len]; omega), h.s.len, List.getElem?_take] at e1
    rw [List.getElem?_append_right (by omega), List.getElem?_take] at e2
    split at e1
    · rename_i hlt2
      rw [if_pos hlt2] at e2
      exact h.g.each _ x r e1 e2 w' (Own.of hB)
    · cases e1
theorem Ov.srcT {U T : Nat → Prop} {w : World} {a : Option Addr} {n c : Nat} {rs : List (List UInt8)} {xs : List Value} (h : Ov U T w (.slice a n c) rs xs) (m : Nat) (hm : m ≤ rs.length) : Src w (.slice a m c) (xs.take m) := by
  have hl : (xs.take m).length = m := by rw [List.length_take, h.len]; omega
  rcases h.src with ⟨a', c', he, hx⟩ | ⟨b, o, c', he, hr⟩
  · cases he
    have : m = 0 := by have := h.len; rw [hx] at this; simp at this; omega
    subst this
    exact .inl ⟨_, _, rfl, by simp⟩
  · cases he
    refine .inr ⟨b, o, c, by rw [hl], fun j x hj => hr j x ?_⟩
    rw [List.getElem?_take] at hj
    split at hj
    · exact hj
    · cases hj
theorem exec_callee {w : World} {o : Oper} {a : Act} (f : FuncId) (fn : Func) (hfn : Try.prog.funcs[f]? = some fn) (hn : ¬ fn.name = "runtime.NumGoroutine") (hb : ¬ fn.body = none) (s x : Operand) (ts : Array TypeId) (ho : o.op = .call { callee := .value (.func f), args := #[s, x], argTypes := ts }) (y z : Value) (hs : a.eval s = y) (hx : a.eval x = z) : (execOp a.eval o).run Try.prog w = .ok (.enter f #[y, z]) w := by
  have hf : a.eval (.func f) = .func (.func f) #[] #[] := rfl
  unfold execOp
  simp [ho, resolve, invoke, hs, hx, hf, Deferred.ofValue, callFunc, Sem.run_bind, Result.andThen, hfn, hn, hb]
theorem exec_same {w : World} {o : Oper} {a : Act} (s x : Operand) (ts : Array TypeId) (ho : o.op = .call { callee := .value (.func 24), args := #[s, x], argTypes := ts }) (y z : Value) (hs : a.eval s = y) (hx : a.eval x = z) : (execOp a.eval o).run Try.prog w = .ok (.enter 24 #[y, z]) w :=
  exec_callee _ _ Try.func24 (by decide) (by intro h; cases h) s x ts ho y z hs hx
theorem step_callee {w : World} {ops : Array Oper} {o : Oper} {a : Act} {K : Act → World → Prop} {Q : Exit → Act → World → Prop} {E : Prop} (hgd : o.guard = none) (f : FuncId) (args : Array Value) (hrun : (execOp a.eval o).run Try.prog w = .ok (.enter f args) w) (v : Value) (R : World → Prop) (hc : Calls Try.prog f args w fun e w' => e = .returned v ∧ R w')
    (h : ∀ w', R w' → K (a.put o.dst v) w') : if Region.wanted o (yielded ops a.tmps) = true then Oper.wp Try.prog o a w K Q else E := by
  rw [if_pos (by simp [Region.wanted, hgd])]
  unfold Oper.wp
  rw [hrun, Oper.upon_enter]
  refine hc.mono ?_
  rintro e w' ⟨rfl, hR⟩
  exact h w' hR
theorem Ones.take {xs : List Value} (h : Ones xs) (m : Nat) : Ones (xs.take m) := fun u hu => h u (List.mem_of_mem_take hu)
theorem under_bbs : Try.prog.underlying 38 = some (.slice (Try.prog.elem 38)) := by kernel_rfl
theorem sizeBB (w : World) : (sizeOf (Try.prog.elem 38)).run Try.prog w = .ok 1 w := by kernel_rfl
theorem cut_rows (a : Option Addr) (n c : Nat) (m : Nat) (hm : m ≤ c) (W' : World) : (Instr.slice 38 (.slice a n c) none (some (.int .i64 (m : Int))) none).run Try.prog W' = .ok (.slice a m c) W' := by
  rw [run_slice_h W' 38 a n c under_bbs .i64 (m : Int) (by omega) (by omega), sizeBB]
  simp only [Result.andThen, sliced, Nat.zero_mul, Nat.sub_zero, Int.toNat_natCast]
  congr 2
  split
  · rfl
  · cases a with
    | none => rfl
    | some x => simp [Addr.add]
theorem RBx.src {w : World} {v : Value} {xs : List Value} {ls : List (List UInt8)} (h : RBx w v xs ls) : Src w v xs ∧ Ones xs := by
  refine ⟨?_, fun u hu => ?_⟩
  · rcases h.row with ⟨a, c, rfl, rfl⟩ | ⟨b, o, c, rfl, hc, hr⟩
    · exact .inl ⟨a, c, rfl, List.eq_nil_of_length_eq_zero h.len⟩
    · exact .inr ⟨b, o, c, by rw [h.len], hr⟩
  · obtain ⟨j, hj, e⟩ := List.getElem_of_mem hu
    have hr : j < ls.length := by rw [← h.len]; exact hj
    obtain ⟨a, c, e2⟩ := (h.each j u ls[j] (by rw [← e]; exact List.getElem?_eq_getElem hj) (List.getElem?_eq_getElem hr)).form
    rw [e2]
    rfl
end Go.Proofs.Ytcjbceidgaieaaa
