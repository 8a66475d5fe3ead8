/- What was sure: mathematics, and the law's own blocks. -/
import Derived.Test.YtnnlmnjbmbflpaaDkP
set_option linter.unusedVariables false
set_option linter.unusedSimpArgs false
namespace Go.Proofs.Ytnnlmnjbmbflpaa
open Go.RowKit
namespace Dk
/-- What was sure as it was synced last. -/
def Cn.sure (c : Cn) : List UInt8 := c.now.take c.whole ++ c.gone.reverse
theorem sure_app (c : Cn) (h : c.Fine) (l : List UInt8) : (c.app l).sure = c.sure := by
  unfold Cn.sure Cn.app
  show (c.now ++ l).take c.whole ++ c.gone.reverse = _
  rw [List.take_append_of_le_length h.whole]
theorem sure_settle (c : Cn) : c.settle.sure = c.now := by
  unfold Cn.sure Cn.settle
  simp
theorem sure_trunc (c : Cn) (h : c.Fine) (n : Nat) : (c.trunc n).sure = c.sure := by
  unfold Cn.sure Cn.trunc
  show (c.now.take n).take (min c.whole n) ++ (c.gone ++ ((c.now.take c.whole).drop n).reverse).reverse = _
  rw [List.reverse_append, List.reverse_reverse, List.take_take, ← List.append_assoc]
  congr 1
  have e : (c.now.take c.whole).take n = c.now.take (min (min c.whole n) n) := by rw [List.take_take]; congr 1; omega
  rw [← e, List.take_append_drop]
/-- What a loss leaves. -/
theorem left_ok (c : Cn) (h : c.Fine) (k : Int) (cut : Bool) : c.whole ≤ (c.left k cut).length ∧ (c.left k cut).take c.whole = c.sure.take c.whole ∧ (c.left k cut = c.sure ∨ ((c.left k cut).length ≤ c.now.length ∧ c.left k cut = c.now.take (c.left k cut).length)) := by
  have h1 := h.whole
  have e0 : (c.now.take c.whole).length = c.whole := by simp; omega
  have e1 : c.sure.take c.whole = c.now.take c.whole := by
    unfold Cn.sure
    rw [List.take_append_of_le_length (by omega), List.take_take, Nat.min_self]
  rw [e1]
  unfold Cn.left
  split
  · refine ⟨by rw [List.length_append]; omega, ?_, .inl rfl⟩
    rw [List.take_append_of_le_length (by omega), List.take_take, Nat.min_self]
  · have hk : c.kept k ≤ c.now.length - c.whole := by unfold Cn.kept; omega
    have e2 : (c.now.take (c.whole + c.kept k)).length = c.whole + c.kept k := by simp; omega
    refine ⟨by omega, ?_, .inr ⟨by omega, by rw [e2]⟩⟩
    rw [List.take_take]
    congr 1
    omega
end Dk
/-- A block of the law's own, beside the disk. -/
def K9 (T : Nat → Prop) (W : World) (k : Nat) (X : Array Value) (t : TypeId) : Prop := W.heap[k]? = some (.cells X t (0, 0)) ∧ ¬ T k
theorem K9.lt {T : Nat → Prop} {W : World} {k : Nat} {X : Array Value} {t : TypeId} (h : K9 T W k X t) : k < W.heap.size := (Array.getElem?_eq_some_iff.1 h.1).1
theorem K9.below {T : Nat → Prop} {W W' : World} {k : Nat} {X : Array Value} {t : TypeId} (h : K9 T W k X t) (hB : Below W.heap.size W W') : K9 T W' k X t := ⟨(hB.block k h.lt).trans h.1, h.2⟩
theorem K9.own {T : Nat → Prop} {W W' : World} {k : Nat} {X : Array Value} {t : TypeId} (h : K9 T W k X t) (hO : Own T W W') : K9 (More T W W') W' k X t := ⟨(hO.block k h.lt h.2).trans h.1, fun hx => by
  rcases hx with hx | hx
  · exact h.2 hx
  · have := h.lt
    omega⟩
theorem K9.cell {T : Nat → Prop} {W : World} {k : Nat} {X : Array Value} {t : TypeId} (h : K9 T W k X t) (i : Nat) : W.cell? ⟨k, i, none⟩ = X[i]? := Lib.cell_of_heap h.1 i
theorem K9.free {T : Nat → Prop} {W : World} {k : Nat} {X : Array Value} {t : TypeId} (h : K9 T W k X t) (i : Nat) : W.frozen? ⟨k, i, none⟩ = false := Lib.frozen_of_heap h.1 i
theorem K9.set {T : Nat → Prop} {W : World} {k : Nat} {X : Array Value} {t : TypeId} (h : K9 T W k X t) (i : Nat) (v : Value) : K9 T (W.setCell ⟨k, i, none⟩ v) k (X.setIfInBounds i v) t := ⟨heap_set h.1 v, h.2⟩
theorem K9.other {T : Nat → Prop} {W : World} {k : Nat} {X : Array Value} {t : TypeId} (h : K9 T W k X t) {k' : Nat} (hn : k ≠ k') (i : Nat) (v : Value) : K9 T (W.setCell ⟨k', i, none⟩ v) k X t := ⟨(Below.heap_setCell _ _ _ _ hn).trans h.1, h.2⟩
theorem Rd9.other {T : Nat → Prop} {W : World} {u : Value} {l : List UInt8} (h : Rd9 T W u l) {k' : Nat} (hn : u.ownBlock ≠ some k') (i : Nat) (v : Value) : Rd9 T (W.setCell ⟨k', i, none⟩ v) u l := ⟨h.1.keep (fun k e _ => Below.heap_setCell _ _ _ _ (fun e2 => hn (by rw [e]; exact congrArg some e2))), fun k e => ⟨(h.2 k e).1, by rw [setCell_size]; exact (h.2 k e).2⟩⟩
theorem K9.drew {T : Nat → Prop} {W : World} {k : Nat} {X : Array Value} {t : TypeId} (h : K9 T W k X t) : K9 T W.drew k X t := h
theorem new_ne {T : Nat → Prop} {W W' : World} {u : Value} {l : List UInt8} {k : Nat} (h : OwnsBytes W' W.heap.size u l) (hk : k < W.heap.size) : u.ownBlock ≠ some k := fun e => by have := (h.lt e).1; omega
theorem Lt.reads9 {w0 W : World} {T : Nat → Prop} {b : Nat} {d : Dk.D} (h : Lt w0 T b d W) (f : Int) {l : List UInt8} {q : Int} (hl : Hid (d.readL f = l)) (hq : Hid (d.why f = q)) : Calls Try.prog 20 #[ptr b 0, .int .i64 f] W fun e w' => ∃ a c, e = .returned (.tuple #[.slice a l.length c, .int .i64 q]) ∧ Rd9 T w' (.slice a l.length c) l ∧ Below W.heap.size W w' ∧ ∀ k, k < W.heap.size → (Value.slice a l.length c).ownBlock ≠ some k :=
  (h.readAny f hl hq).mono (fun e w' ⟨u, e1, hu, hB⟩ => by
    obtain ⟨a, c, rfl⟩ := hu.form
    exact ⟨a, c, e1, ⟨hu.base (fun _ _ => Nat.zero_le _), out_new hu h.low⟩, hB, fun k hk e => by have := (hu.lt e).1; omega⟩)
theorem Lt.more {w0 W W' : World} {T : Nat → Prop} {b : Nat} {d : Dk.D} (h : Lt w0 T b d W') (hs : w0.heap.size ≤ W.heap.size) : Lt w0 (More T W W') b d W' := ⟨DskE.more (w := W) h.dsk W, more_base h.base hs, h.bel⟩
theorem conv_drewN {T : Nat → Prop} {W : World} {a : Option Addr} {n c : Nat} {l : List UInt8} (h : Rd9 T W (.slice a n c) l) (k : Nat) (hk : k ≤ l.length) (m : Nat) : (convert 27 9 (.slice a k c)).run Try.prog (W.drewN m) = .ok (.string (str (l.take k))) (W.drewN m) := conv_RB (((h.1.take k hk).keep (w' := W.drewN m) (fun _ _ _ => rfl)).reads)
theorem conv_drewNN {T : Nat → Prop} {W : World} {a : Option Addr} {n c : Nat} {l : List UInt8} (h : Rd9 T W (.slice a n c) l) (k : Nat) (hk : k ≤ l.length) (m m' : Nat) : (convert 27 9 (.slice a k c)).run Try.prog ((W.drewN m).drewN m') = .ok (.string (str (l.take k))) ((W.drewN m).drewN m') := conv_RB (((h.1.take k hk).keep (w' := (W.drewN m).drewN m') (fun _ _ _ => rfl)).reads)
theorem far_set (w : World) {k k' : Nat} (i j : Nat) (v : Value) (h : k' ≠ k) : (w.setCell ⟨k', i, none⟩ v).cell? ⟨k, j, none⟩ = w.cell? ⟨k, j, none⟩ := World.cell?_of_block (w := w) (a := ⟨k, j, none⟩) (Below.heap_setCell _ _ _ _ (fun e => h e.symm))
theorem calm_why {d : Dk.D} (h : d.Calm) {f : Int} (hf : f = 0 ∨ f = 1) : d.why f = 0 := by
  unfold Dk.D.why
  rw [h.on]
  rcases hf with rfl | rfl <;> rfl
theorem calm_read {d : Dk.D} (h : d.Calm) {f : Int} (hf : f = 0 ∨ f = 1) : d.readL f = (d.at f).now := by
  unfold Dk.D.readL
  rw [if_pos (calm_why h hf)]
theorem keep_put {d : Dk.D} {f : Int} {c : Dk.Cn} (h : c.sure = (d.at f).sure) (hw : c.whole = (d.at f).whole) : (d.put f c).a.sure = d.a.sure ∧ (d.put f c).b.sure = d.b.sure ∧ (d.put f c).a.whole = d.a.whole ∧ (d.put f c).b.whole = d.b.whole := by
  unfold Dk.D.put Dk.D.at at *
  split
  · rename_i h0
    rw [if_pos h0] at h hw
    exact ⟨h, rfl, hw, rfl⟩
  · rename_i h0
    rw [if_neg h0] at h hw
    exact ⟨rfl, h, rfl, hw⟩
/-- What an act of kind 0 or 7 leaves. -/
theorem doo_app {d : Dk.D} (h : d.Calm) (hF : d.Fine) (a : Ac) (hk : a.kind % 8 = 0 ∨ a.kind % 8 = 7) : (d.doo a).2.a.sure = d.a.sure ∧ (d.doo a).2.b.sure = d.b.sure ∧ (d.doo a).2.a.whole = d.a.whole ∧ (d.doo a).2.b.whole = d.b.whole ∧ (d.doo a).2.root = d.root := by
  unfold Dk.D.doo
  rw [if_neg (by omega), if_neg (by omega), if_neg (by omega), if_neg (by omega), if_neg (by omega), if_neg (by omega), Dk.append_calm h]
  split
  · exact ⟨rfl, rfl, rfl, rfl, rfl⟩
  · split
    · exact ⟨rfl, rfl, rfl, rfl, rfl⟩
    · have := keep_put (d := d) (f := a.file) (c := (d.at a.file).app a.l) (Dk.sure_app _ (hF.at _) _) rfl
      exact ⟨this.1, this.2.1, this.2.2.1, this.2.2.2, Dk.put_root _ _ _⟩
theorem doo_one {d : Dk.D} (h : d.Calm) (a : Ac) (hk : a.kind % 8 = 1) (hf : a.file = 0 ∨ a.file = 1) : d.doo a = (0, d.put a.file (d.at a.file).settle) := by
  unfold Dk.D.doo
  rw [if_pos hk, Dk.sync_calm h, if_neg (by omega)]
theorem doo_two {d : Dk.D} (h : d.Calm) (a : Ac) (hk : a.kind % 8 = 2) (hf : a.file = 0 ∨ a.file = 1) (he : (d.doo a).1 = 0) : d.doo a = (0, d.put a.file ((d.at a.file).trunc a.n.toNat)) ∧ 0 ≤ a.n ∧ a.n ≤ ((d.at a.file).now.length : Int) := by
  unfold Dk.D.doo at *
  rw [if_neg (by omega), if_pos hk, Dk.trunc_calm h, if_neg (by omega)] at *
  by_cases hn : a.n < 0 ∨ ((d.at a.file).now.length : Int) < a.n
  · rw [if_pos hn] at he
    cases he
  · rw [if_neg hn]
    exact ⟨rfl, by omega, by omega⟩
theorem doo_three {d : Dk.D} (h : d.Calm) (a : Ac) (hk : a.kind % 8 = 3) (hf : a.file = 0 ∨ a.file = 1) : d.doo a = (0, { d with root := a.file }) := by
  unfold Dk.D.doo
  rw [if_neg (by omega), if_neg (by omega), if_pos hk, Dk.switch_calm h, if_neg (by omega)]
theorem calm_err {d : Dk.D} (h : d.Calm) (a : Ac) (hp : Plain a) (he : (d.doo a).1 ≠ 0) : (d.doo a).2 = d := doo_refused he (by rw [(calm_doo h a hp).on, h.on])
theorem calm_file {d : Dk.D} (h : d.Calm) (a : Ac) (hp : Plain a) (hf : a.file < 0 ∨ 2 ≤ a.file) : d.doo a = (1, d) := by
  unfold Dk.D.doo
  have : a.kind % 8 ≠ 4 ∧ a.kind % 8 ≠ 5 ∧ a.kind % 8 ≠ 6 := by unfold Plain at hp; omega
  rw [Dk.sync_calm h, Dk.trunc_calm h, Dk.switch_calm h, Dk.append_calm h, if_pos hf, if_pos hf, if_pos hf, if_pos hf, if_neg this.1, if_neg this.2.1, if_neg this.2.2]
  split
  · rfl
  · split
    · rfl
    · split <;> rfl
end Go.Proofs.Ytnnlmnjbmbflpaa
