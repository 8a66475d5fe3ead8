/- A file of a disk in memory; the contracts of settle and of slices.Reverse. -/
import Derived.Test.YtnnlmnjbmbflpaaDkB
set_option linter.unusedVariables false
set_option linter.unusedSimpArgs false
namespace Go.Proofs.Ytnnlmnjbmbflpaa
open Go.RowKit
def put3 (X : Array Value) (o : Nat) (x y z : Value) : Array Value := ((X.setIfInBounds o x).setIfInBounds (o + 1) y).setIfInBounds (o + 2) z
theorem put3_at (X : Array Value) (o : Nat) (x y z : Value) (i : Nat) : (put3 X o x y z)[i]? = if i < X.size then (if i = o + 2 then some z else if i = o + 1 then some y else if i = o then some x else X[i]?) else none := by
  unfold put3
  simp only [Array.getElem?_setIfInBounds, Array.size_setIfInBounds]
  by_cases h : i < X.size
  · by_cases h2 : i = o + 2
    · subst h2; simp [h]
    · by_cases h1 : i = o + 1
      · subst h1; simp [h]
      · by_cases h0 : i = o
        · subst h0; simp [h]
        · simp [h, h2, h1, h0, Ne.symm h2, Ne.symm h1, Ne.symm h0]
  · have hn : X[i]? = none := Array.getElem?_eq_none (by omega)
    simp only [h, hn, if_false]
    repeat' split
    all_goals first | rfl | (exfalso; omega)
theorem put3_size (X : Array Value) (o : Nat) (x y z : Value) : (put3 X o x y z).size = X.size := by simp [put3]
theorem put3_put3 (X : Array Value) (o : Nat) (x y z x' y' z' : Value) : put3 (put3 X o x y z) o x' y' z' = put3 X o x' y' z' := by
  apply Array.ext_getElem?
  intro i
  simp only [put3_at, put3_size]
  by_cases h : i < X.size
  · simp only [h, if_true]
    by_cases h2 : i = o + 2
    · simp [h2]
    · by_cases h1 : i = o + 1
      · simp [h1]
      · by_cases h0 : i = o
        · simp [h0]
        · simp [h2, h1, h0]
  · simp [h]
theorem put3_self {X : Array Value} {o : Nat} {x y z : Value} (h0 : X[o]? = some x) (h1 : X[o + 1]? = some y) (h2 : X[o + 2]? = some z) : put3 X o x y z = X := by
  apply Array.ext_getElem?
  intro i
  rw [put3_at]
  by_cases h : i < X.size
  · rw [if_pos h]
    by_cases e2 : i = o + 2
    · subst e2; rw [if_pos rfl, h2]
    · rw [if_neg e2]
      by_cases e1 : i = o + 1
      · subst e1; rw [if_pos rfl, h1]
      · rw [if_neg e1]
        by_cases e0 : i = o
        · subst e0; rw [if_pos rfl, h0]
        · rw [if_neg e0]
  · rw [if_neg h, Array.getElem?_eq_none (by omega)]
/-- A file in the disk's block. -/
structure Ct (w : World) (b o : Nat) (X : Array Value) (c : Dk.Cn) (nv gv : Value) : Prop where
  blk : w.heap[b]? = some (.cells X 93 (0, 0))
  x0 : X[o]? = some nv
  x1 : X[o + 1]? = some (.int .i64 (c.whole : Int))
  x2 : X[o + 2]? = some gv
  n : OwnsBytes w 0 nv c.now
  g : OwnsBytes w 0 gv c.gone
  ap : Ap nv gv
  bn : nv.ownBlock ≠ some b
  bg : gv.ownBlock ≠ some b
/-- The blocks of a file. -/
def Fp (b : Nat) (nv gv : Value) : Nat → Prop := fun k => k = b ∨ nv.ownBlock = some k ∨ gv.ownBlock = some k
theorem Ct.c0 {w : World} {b o : Nat} {X : Array Value} {c : Dk.Cn} {nv gv : Value} (h : Ct w b o X c nv gv) : w.cell? ⟨b, o, none⟩ = some nv := (Lib.cell_of_heap h.blk o).trans h.x0
theorem Ct.c1 {w : World} {b o : Nat} {X : Array Value} {c : Dk.Cn} {nv gv : Value} (h : Ct w b o X c nv gv) : w.cell? ⟨b, o + 1, none⟩ = some (.int .i64 (c.whole : Int)) := (Lib.cell_of_heap h.blk _).trans h.x1
theorem Ct.c2 {w : World} {b o : Nat} {X : Array Value} {c : Dk.Cn} {nv gv : Value} (h : Ct w b o X c nv gv) : w.cell? ⟨b, o + 2, none⟩ = some gv := (Lib.cell_of_heap h.blk _).trans h.x2
theorem Ct.free {w : World} {b o : Nat} {X : Array Value} {c : Dk.Cn} {nv gv : Value} (h : Ct w b o X c nv gv) (i : Nat) : w.frozen? ⟨b, i, none⟩ = false := Lib.frozen_of_heap h.blk i
theorem Ct.lt {w : World} {b o : Nat} {X : Array Value} {c : Dk.Cn} {nv gv : Value} (h : Ct w b o X c nv gv) : b < w.heap.size := (Array.getElem?_eq_some_iff.1 h.blk).1
theorem Ct.low {w : World} {b o : Nat} {X : Array Value} {c : Dk.Cn} {nv gv : Value} (h : Ct w b o X c nv gv) : ∀ k, Fp b nv gv k → k < w.heap.size := by
  rintro k (rfl | e | e)
  · exact h.lt
  · exact (h.n.lt e).2
  · exact (h.g.lt e).2
theorem Ct.below {w w' : World} {b o : Nat} {X : Array Value} {c : Dk.Cn} {nv gv : Value} (h : Ct w b o X c nv gv) (hB : Below w.heap.size w w') : Ct w' b o X c nv gv :=
  ⟨(hB.block b h.lt).trans h.blk, h.x0, h.x1, h.x2, h.n.keep (fun k _ hk => hB.block k hk), h.g.keep (fun k _ hk => hB.block k hk), h.ap, h.bn, h.bg⟩
theorem off_ne {b i j : Nat} (h : i ≠ j) : (⟨b, i, none⟩ : Addr) ≠ ⟨b, j, none⟩ := fun e => h (by cases e; rfl)
/-- How many bytes are sure is written. -/
theorem Ct.set1 {w : World} {b o : Nat} {X : Array Value} {c : Dk.Cn} {nv gv : Value} (h : Ct w b o X c nv gv) (n : Nat) : Ct (w.setCell ⟨b, o + 1, none⟩ (.int .i64 (n : Int))) b o (put3 X o nv (.int .i64 (n : Int)) gv) ⟨c.now, n, c.gone⟩ nv gv := by
  have hk : ∀ k, k ≠ b → (w.setCell ⟨b, o + 1, none⟩ (.int .i64 (n : Int))).heap[k]? = w.heap[k]? := fun k hk => Below.heap_setCell _ _ _ _ hk
  have hs2 : o + 2 < X.size := (Array.getElem?_eq_some_iff.1 h.x2).1
  have e : X.setIfInBounds (o + 1) (.int .i64 (n : Int)) = put3 X o nv (.int .i64 (n : Int)) gv := by
    apply Array.ext_getElem?
    intro i
    rw [put3_at, Array.getElem?_setIfInBounds]
    by_cases h1 : i = o + 1
    · subst h1; simp [show o + 1 < X.size by omega]
    · rw [if_neg (Ne.symm h1)]
      by_cases hi : i < X.size
      · rw [if_pos hi]
        by_cases e2 : i = o + 2
        · subst e2; rw [if_pos rfl, h.x2]
        · rw [if_neg e2, if_neg h1]
          by_cases e0 : i = o
          · subst e0; rw [if_pos rfl, h.x0]
          · rw [if_neg e0]
      · rw [if_neg hi, Array.getElem?_eq_none (by omega)]
  refine ⟨by rw [← e]; exact heap_set h.blk _, ?_, ?_, ?_, h.n.keep (fun k e2 _ => hk k (fun e3 => h.bn (by rw [e2, e3]))), h.g.keep (fun k e2 _ => hk k (fun e3 => h.bg (by rw [e2, e3]))), h.ap, h.bn, h.bg⟩
  · rw [put3_at]; simp [show o < X.size by omega]
  · rw [put3_at]; simp [show o + 1 < X.size by omega]
  · rw [put3_at]; simp [hs2]
/-- The bytes that are gone are written. -/
theorem Ct.mk2 {w : World} {b o : Nat} {X : Array Value} {c : Dk.Cn} {nv gv gv' : Value} {l : List UInt8} (hblk : w.heap[b]? = some (.cells X 93 (0, 0))) (hx0 : X[o]? = some nv) (hx1 : X[o + 1]? = some (.int .i64 (c.whole : Int))) (hx2 : X[o + 2]? = some gv) (hn : OwnsBytes w 0 nv c.now) (hbn : nv.ownBlock ≠ some b) (hg : OwnsBytes w 0 gv' l) (ha : Ap nv gv') (hb : gv'.ownBlock ≠ some b) : Ct (w.setCell ⟨b, o + 2, none⟩ gv') b o (put3 X o nv (.int .i64 (c.whole : Int)) gv') ⟨c.now, c.whole, l⟩ nv gv' := by
  have hk : ∀ k, k ≠ b → (w.setCell ⟨b, o + 2, none⟩ gv').heap[k]? = w.heap[k]? := fun k hk => Below.heap_setCell _ _ _ _ hk
  have hs2 : o + 2 < X.size := (Array.getElem?_eq_some_iff.1 hx2).1
  have e : X.setIfInBounds (o + 2) gv' = put3 X o nv (.int .i64 (c.whole : Int)) gv' := by
    apply Array.ext_getElem?
    intro i
    rw [put3_at, Array.getElem?_setIfInBounds]
    by_cases h1 : i = o + 2
    · subst h1; simp [hs2]
    · rw [if_neg (Ne.symm h1)]
      by_cases hi : i < X.size
      · rw [if_pos hi, if_neg h1]
        by_cases e2 : i = o + 1
        · subst e2; rw [if_pos rfl, hx1]
        · rw [if_neg e2]
          by_cases e0 : i = o
          · subst e0; rw [if_pos rfl, hx0]
          · rw [if_neg e0]
      · rw [if_neg hi, Array.getElem?_eq_none (by omega)]
  refine ⟨by rw [← e]; exact heap_set hblk _, ?_, ?_, ?_, hn.keep (fun k e2 _ => hk k (fun e3 => hbn (by rw [e2, e3]))), hg.keep (fun k e2 _ => hk k (fun e3 => hb (by rw [e2, e3]))), ha, hbn, hb⟩
  · rw [put3_at]; simp [show o < X.size by omega]
  · rw [put3_at]; simp [show o + 1 < X.size by omega]
  · rw [put3_at]; simp [hs2]
theorem Ct.set2 {w : World} {b o : Nat} {X : Array Value} {c : Dk.Cn} {nv gv gv' : Value} {l : List UInt8} (h : Ct w b o X c nv gv) (hg : OwnsBytes w 0 gv' l) (ha : Ap nv gv') (hb : gv'.ownBlock ≠ some b) : Ct (w.setCell ⟨b, o + 2, none⟩ gv') b o (put3 X o nv (.int .i64 (c.whole : Int)) gv') ⟨c.now, c.whole, l⟩ nv gv' := Ct.mk2 h.blk h.x0 h.x1 h.x2 h.n h.bn hg ha hb
/-- The bytes are written. -/
theorem Ct.mk0 {w : World} {b o : Nat} {X : Array Value} {c : Dk.Cn} {nv gv nv' : Value} {l : List UInt8} (hblk : w.heap[b]? = some (.cells X 93 (0, 0))) (hx0 : X[o]? = some nv) (hx1 : X[o + 1]? = some (.int .i64 (c.whole : Int))) (hx2 : X[o + 2]? = some gv) (hgg : OwnsBytes w 0 gv c.gone) (hbg : gv.ownBlock ≠ some b) (hg : OwnsBytes w 0 nv' l) (ha : Ap nv' gv) (hb : nv'.ownBlock ≠ some b) : Ct (w.setCell ⟨b, o, none⟩ nv') b o (put3 X o nv' (.int .i64 (c.whole : Int)) gv) ⟨l, c.whole, c.gone⟩ nv' gv := by
  have hk : ∀ k, k ≠ b → (w.setCell ⟨b, o, none⟩ nv').heap[k]? = w.heap[k]? := fun k hk => Below.heap_setCell _ _ _ _ hk
  have hs2 : o + 2 < X.size := (Array.getElem?_eq_some_iff.1 hx2).1
  have e : X.setIfInBounds o nv' = put3 X o nv' (.int .i64 (c.whole : Int)) gv := by
    apply Array.ext_getElem?
    intro i
    rw [put3_at, Array.getElem?_setIfInBounds]
    by_cases h1 : i = o
    · subst h1; simp [show i < X.size by omega]
    · rw [if_neg (Ne.symm h1)]
      by_cases hi : i < X.size
      · rw [if_pos hi]
        by_cases e2 : i = o + 2
        · subst e2; rw [if_pos rfl, hx2]
        · rw [if_neg e2]
          by_cases e0 : i = o + 1
          · subst e0; rw [if_pos rfl, hx1]
          · rw [if_neg e0, if_neg h1]
      · rw [if_neg hi, Array.getElem?_eq_none (by omega)]
  refine ⟨by rw [← e]; exact heap_set hblk _, ?_, ?_, ?_, hg.keep (fun k e2 _ => hk k (fun e3 => hb (by rw [e2, e3]))), hgg.keep (fun k e2 _ => hk k (fun e3 => hbg (by rw [e2, e3]))), ha, hb, hbg⟩
  · rw [put3_at]; simp [show o < X.size by omega]
  · rw [put3_at]; simp [show o + 1 < X.size by omega]
  · rw [put3_at]; simp [hs2]
theorem Ct.set0 {w : World} {b o : Nat} {X : Array Value} {c : Dk.Cn} {nv gv nv' : Value} {l : List UInt8} (h : Ct w b o X c nv gv) (hg : OwnsBytes w 0 nv' l) (ha : Ap nv' gv) (hb : nv'.ownBlock ≠ some b) : Ct (w.setCell ⟨b, o, none⟩ nv') b o (put3 X o nv' (.int .i64 (c.whole : Int)) gv) ⟨l, c.whole, c.gone⟩ nv' gv := Ct.mk0 h.blk h.x0 h.x1 h.x2 h.g h.bg hg ha hb
/-- What a call on a file leaves. -/
def CtPost (w : World) (b o : Nat) (X : Array Value) (nv gv : Value) (c' : Dk.Cn) (w' : World) : Prop :=
  ∃ nv' gv', Ct w' b o (put3 X o nv' (.int .i64 (c'.whole : Int)) gv') c' nv' gv' ∧ Own (Fp b nv gv) w w' ∧ ∀ k, Fp b nv' gv' k → Fp b nv gv k ∨ w.heap.size ≤ k
theorem Ct.post {w : World} {b o : Nat} {X : Array Value} {c : Dk.Cn} {nv gv : Value} (h : Ct w b o X c nv gv) : CtPost w b o X nv gv c w :=
  ⟨nv, gv, by rw [put3_self h.x0 h.x1 h.x2]; exact h, Own.refl _ _, fun k hk => .inl hk⟩
theorem CtPost.trans {w w1 w2 : World} {b o : Nat} {X : Array Value} {nv gv nv1 gv1 : Value} {c1 c2 : Dk.Cn} (h1 : Own (Fp b nv gv) w w1) (h1k : ∀ k, Fp b nv1 gv1 k → Fp b nv gv k ∨ w.heap.size ≤ k) (h2 : CtPost w1 b o (put3 X o nv1 (.int .i64 (c1.whole : Int)) gv1) nv1 gv1 c2 w2) : CtPost w b o X nv gv c2 w2 := by
  obtain ⟨nv', gv', hc, ho, hk⟩ := h2
  rw [put3_put3] at hc
  refine ⟨nv', gv', hc, h1.trans ho h1k, fun k hf => ?_⟩
  rcases hk k hf with h | h
  · exact h1k k h
  · exact .inr (Nat.le_trans h1.size h)
set_option maxHeartbeats 2000000 in
set_option maxRecDepth 100000 in
theorem settle_any {w : World} {b o : Nat} {X : Array Value} {c : Dk.Cn} {nv gv : Value} (h : Ct w b o X c nv gv) (hn : c.now.length ≤ 1048576) :
    Calls Try.prog 76 #[.pointer (some ⟨b, o, none⟩)] w fun e w' => e = .returned (.tuple #[]) ∧ CtPost w b o X nv gv c.settle w' := by
  obtain ⟨a, cp, rfl⟩ := h.n.form
  have c0 := h.c0
  have c1 := h.c1
  have c2 := h.c2
  have f1 := h.free (o + 1)
  have f2 := h.free (o + 2)
  have h1 := h.set1 c.now.length
  have h2 := h1.set2 (gv' := nilS) (OwnsBytes.nil _ 0) (fun k _ hk => by cases hk) (fun hk => by cases hk)
  rw [put3_put3] at h2
  have HP : Hid (CtPost w b o X (.slice a c.now.length cp) gv c.settle ((w.setCell ⟨b, o + 1, none⟩ (.int .i64 (c.now.length : Int))).setCell ⟨b, o + 2, none⟩ nilS)) :=
    ⟨_, _, h2, (Own.set (.inl rfl) w (o + 1) _).trans (Own.set (T := Fp b (.slice a c.now.length cp) gv) (.inl rfl) _ (o + 2) _) (fun k hk => .inl hk), fun k hk => .inl (by
      rcases hk with hk | hk | hk
      · exact .inl hk
      · exact .inr (.inl hk)
      · cases hk)⟩
  clear h h1 h2
  have e1 : (o + 1 == o + 2) = false := by simp
  go_enter Try.func76, Try.ntmps76
  go_wp2
  go_end0
  exact ⟨rfl, HP.out⟩
end Go.Proofs.Ytnnlmnjbmbflpaa
