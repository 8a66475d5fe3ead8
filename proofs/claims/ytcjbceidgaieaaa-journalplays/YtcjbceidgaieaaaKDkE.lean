/- The contract of truncate. -/
import Derived.Test.YtcjbceidgaieaaaKDkAD
import Derived.Deep.RegionLaw
set_option linter.unusedVariables false
set_option linter.unusedSimpArgs false
namespace Go.Proofs.Ytcjbceidgaieaaa
open Go.RowKit
theorem own_drew {w : World} {v : Value} {l : List UInt8} (h : OwnsBytes w 0 v l) : OwnsBytes w.drew 0 v l := h.keep (fun _ _ _ => rfl)
theorem RB.one (w : World) (x : UInt8) (e : TypeId) : RB (w.alloc (.cells #[.int .u8 (x.toNat : Int)] e)) (.slice (some ⟨w.heap.size, 0, none⟩) 1 1) [x] := by
  refine .inr ⟨w.heap.size, 0, 1, rfl, Nat.le_refl _, fun j y hj => ?_⟩
  rw [Lib.cell_of_heap (heap_new w _), Nat.zero_add]
  cases j with
  | zero => exact hj
  | succ j => simp [cellsB] at hj
theorem gone_step {l : List UInt8} {n i : Nat} (hi : i < n) (hn : n ≤ l.length) : ((l.take n).drop i).reverse = ((l.take n).drop (i + 1)).reverse ++ [l[i]] := by
  have e : (l.take n).drop i = l[i] :: (l.take n).drop (i + 1) := by
    rw [List.drop_eq_getElem_cons (by simp; omega)]
    simp
  rw [e, List.reverse_cons]
theorem Ct.len {w : World} {b o : Nat} {X : Array Value} {c : Dk.Cn} {nv gv : Value} (h : Ct w b o X c nv gv) (W : World) (hW : w.heap.size ≤ W.heap.size) : b < W.heap.size := Nat.lt_of_lt_of_le h.lt hW
theorem own_len (a : Option Addr) (n m c d : Nat) : (Value.slice a n c).ownBlock = (Value.slice a m d).ownBlock := by cases a <;> rfl
theorem OwnsBytes.cap {w : World} {B n c : Nat} {a : Option Addr} {l : List UInt8} (h : OwnsBytes w B (.slice a n c) l) : l.length ≤ c := by
  rcases h.2 with ⟨e, h0⟩ | ⟨g, cap, cur, e, _, _, hc, _⟩
  · omega
  · simp only [Value.slice.injEq] at e
    omega
theorem OwnsBytes.form1 {w : World} {B : Nat} {v : Value} {l m : List UInt8} (h : OwnsBytes w B v (l ++ m)) : ∃ a c, v = .slice a (l.length + m.length) c := by
  obtain ⟨a, c, rfl⟩ := h.form
  exact ⟨a, c, by rw [List.length_append]⟩
/-- The bytes that are gone have grown, and are written. -/
theorem Ct.gone {w w2 w3 : World} {b o : Nat} {X : Array Value} {c : Dk.Cn} {nv gv v' : Value} {l : List UInt8} (h : Ct w b o X c nv gv) (hB : Below w.heap.size w w2) (hg : w2.grownBy w3 gv.ownBlock) (hat : v'.ownBlock = gv.ownBlock ∨ v'.ownBlock = some w2.heap.size) (hown : OwnsBytes w3 0 v' l) :
    Ct (w3.setCell ⟨b, o + 2, none⟩ v') b o (put3 X o nv (.int .i64 (c.whole : Int)) v') ⟨c.now, c.whole, l⟩ nv v' ∧ Own (Fp b nv gv) w (w3.setCell ⟨b, o + 2, none⟩ v') ∧ (∀ k, Fp b nv v' k → Fp b nv gv k ∨ w.heap.size ≤ k) ∧ w3.cell? ⟨b, o + 2, none⟩ = some gv ∧ w3.frozen? ⟨b, o + 2, none⟩ = false := by
  have h2 := h.below hB
  have hb3 : w3.heap[b]? = some (.cells X 93 (0, 0)) := (hg.block b h2.lt (fun e => h.bg e.symm)).trans h2.blk
  have hn3 : OwnsBytes w3 0 nv c.now := h2.n.keep (fun k e hk => hg.block k hk (fun e2 => h.ap k e e2.symm))
  have hsz := hB.size
  have ha : Ap nv v' := fun k e1 e2 => by
    rcases hat with e | e
    · exact h.ap k e1 (e ▸ e2)
    · rw [e] at e2
      cases e2
      have := (h2.n.lt e1).2
      omega
  have hb' : v'.ownBlock ≠ some b := fun e2 => by
    rcases hat with e | e
    · exact h.bg (e ▸ e2)
    · rw [e] at e2
      cases e2
      have := h2.lt
      omega
  refine ⟨?_, ?_, ?_, (Lib.cell_of_heap hb3 _).trans h.x2, Lib.frozen_of_heap hb3 _⟩
  · exact Ct.mk2 hb3 h.x0 h.x1 h.x2 hn3 h.bn hown ha hb'
  · refine ((Own.of hB).trans (T' := Fp b nv gv) ?_ (fun k hk => .inl hk)).trans (Own.set (T := Fp b nv gv) (.inl rfl) w3 (o + 2) v') (fun k hk => .inl hk)
    exact ⟨hg.os, hg.tape, hg.output, hg.size, fun k hk hn => hg.block k hk (fun e => hn (.inr (.inr e.symm)))⟩
  · rintro k (e | e | e)
    · exact .inl (.inl e)
    · exact .inl (.inr (.inl e))
    · rcases hat with e2 | e2
      · exact .inl (.inr (.inr (e2 ▸ e)))
      · rw [e2] at e
        cases e
        exact .inr hsz
set_option maxHeartbeats 4000000 in
set_option maxRecDepth 100000 in
theorem truncate_any {w : World} {b o : Nat} {X : Array Value} {c : Dk.Cn} {nv gv : Value} (h : Ct w b o X c nv gv) (hf : c.Fine) (n : Nat) (hn : n ≤ c.now.length) :
    Calls Try.prog 88 #[.pointer (some ⟨b, o, none⟩), .int .i64 (n : Int)] w fun e w' => e = .returned (.tuple #[]) ∧ CtPost w b o X nv gv (c.trunc n) w' := by
  obtain ⟨a, cp, rfl⟩ := h.n.form
  have hf1 := hf.whole
  have hf2 := hf.now
  have hf3 := hf.gone
  have HF : Hid (c.Fine) := hf
  clear hf
  go_enter Try.func88, Try.ntmps88
  go_wp2
  go_loopw [] (fun wr => ∃ (j : Nat) (gv1 : Value), j ≤ c.whole ∧ Hid (j = c.whole ∨ n ≤ j) ∧ Ct wr b o (put3 X o (.slice a c.now.length cp) (.int .i64 (j : Int)) gv1) ⟨c.now, j, c.gone ++ ((c.now.take c.whole).drop j).reverse⟩ (.slice a c.now.length cp) gv1 ∧ Own (Fp b (.slice a c.now.length cp) gv) w wr ∧ ∀ k, Fp b (.slice a c.now.length cp) gv1 k → Fp b (.slice a c.now.length cp) gv k ∨ w.heap.size ≤ k) (fun wr => (intOf ((wr.cell? ⟨b, o + 1, none⟩).getD (.int .i64 0))).toNat)
  case atStart =>
    refine ⟨c.whole, gv, Nat.le_refl _, Or.inl rfl, ?_, Own.refl _ _, fun k hk => .inl hk⟩
    rw [put3_self h.x0 h.x1 h.x2, List.drop_eq_nil_of_le (by simp; omega), List.reverse_nil, List.append_nil]
    exact h
  case round =>
    obtain ⟨j, gv1, hj, HJ, hC, hO, hK⟩ := hrel
    have c0 := hC.c0
    have c1 := hC.c1
    have c2 := hC.c2
    have f1 := hC.free (o + 1)
    by_cases hlt : n < j
    · obtain ⟨i, rfl⟩ : ∃ i, j = i + 1 := ⟨j - 1, by omega⟩
      have hs1 := hC.set1 i
      rw [put3_put3] at hs1
      have m1 : IntKind.i64.wrap (((i + 1 : Nat) : Int) - 1) = (i : Int) := w64 (by omega) (by omega) (by omega)
      have hlt' : (n : Int) < ((i + 1 : Nat) : Int) := by omega
      have hO1 : Own (Fp b (.slice a c.now.length cp) gv) w (wr.setCell ⟨b, o + 1, none⟩ (.int .i64 (i : Int))) := hO.trans (Own.set (T := Fp b (.slice a c.now.length cp) gv) (.inl rfl) wr (o + 1) _) (fun k hk => .inl hk)
      go_wp2
      generalize hw1 : wr.setCell ⟨b, o + 1, none⟩ (.int .i64 (i : Int)) = w1 at *
      have hil : i < c.now.length := by omega
      have d0 : w1.cell? ⟨b, o, none⟩ = some (.slice a c.now.length cp) := hs1.c0
      have d1 := hs1.c1
      have d2 := hs1.c2
      have hs1n : OwnsBytes w1 0 (.slice a c.now.length cp) c.now := hs1.n
      obtain ⟨_, _, g, o0, ea, hx⟩ := RB.at hs1n.reads hil
      subst ea
      have hal := (Below.refl _ w1).alloc (Nat.le_refl _) (.cells #[.int .u8 (c.now[i].toNat : Int)] 5)
      have hs2 := hs1.below hal
      have e0 : (w1.alloc (.cells #[.int .u8 (c.now[i].toNat : Int)] 5)).cell? ⟨b, o, none⟩ = some (.slice (some ⟨g, o0, none⟩) c.now.length cp) := hs2.c0
      have e1 := hs2.c1
      have e2 := hs2.c2
      have hg2 := own_drew hs2.g
      have hone := RB.one w1 c.now[i] 5
      have hone2 : RB ((w1.alloc (.cells #[.int .u8 (c.now[i].toNat : Int)] 5)).drew) (.slice (some ⟨w1.heap.size, 0, none⟩) 1 1) [c.now[i]] := hone.keep (fun _ _ _ => rfl)
      have HX : Hid (c.now[i] = c.now[i]) := rfl
      generalize hxx : c.now[i] = x at *
      replace HX : Hid (c.now[i] = x) := hxx
      clear hxx
      have hal2 : Below w1.heap.size w1 (w1.alloc (.cells #[.int .u8 (x.toNat : Int)] 5)).drew := hal.drew
      obtain ⟨gl, HGL⟩ : ∃ gl, Hid (c.gone ++ ((c.now.take c.whole).drop (i + 1)).reverse = gl) := ⟨_, rfl⟩
      have hgl : gl.length ≤ 1048576 := by rw [← HGL.out]; simp; omega
      rw [HGL.out] at hg2 hs1
      replace hg2 : OwnsBytes (w1.alloc (.cells #[.int .u8 (x.toNat : Int)] 5)).drew 0 gv1 gl := hg2
      clear hs2 hs1n hone
      have HS1 : Hid (Ct w1 b o (put3 X o (.slice (some ⟨g, o0, none⟩) c.now.length cp) (.int .i64 (i : Int)) gv1) ⟨c.now, i, gl⟩ (.slice (some ⟨g, o0, none⟩) c.now.length cp) gv1) := hs1
      clear hs1
      go_region_law (refine step_append_RB rfl (.tmp 21) (.tmp 32) rfl _ _ rfl hg2 _ _ rfl hone2 (by simp; omega) ?_; intro v' w' h1 h2 h3; obtain ⟨hN, hON, hKN, hc2, hf2⟩ := HS1.out.gone hal2 h2 h3 h1; obtain ⟨a', cp', rfl⟩ := h1.form1)
      all_goals (
        rw [put3_put3] at hN
        generalize w'.setCell ⟨b, o + 2, none⟩ (.slice a' (gl.length + 1) cp') = wn at *
        have hO2 := hO1.trans hON hK
        go_wp2
        refine ⟨⟨i, .slice a' (gl.length + 1) cp', by omega, Or.inr (by omega), ?_, hO2, fun k hk => ?_⟩, ?_⟩
        · rw [gone_step (show i < c.whole by omega) hf1, ← List.append_assoc, HX.out, HGL.out]
          exact hN
        · rcases hKN k hk with hk | hk
          · exact hK k hk
          · exact .inr (Nat.le_trans hO1.size hk)
        · rw [hN.c1, c1]
          simp [intOf])
    · have f0 := hC.free o
      have hT : OwnsBytes wr 0 (.slice a n cp) (c.now.take n) := OwnsBytes.take (show OwnsBytes wr 0 (.slice a c.now.length cp) c.now from hC.n) n hn
      have hS := hC.set0 hT (fun k e1 e2 => hC.ap k ((own_len a _ _ _ _).trans e1) e2) (fun e1 => hC.bn ((own_len a _ _ _ _).trans e1))
      rw [put3_put3] at hS
      have hOS : Own (Fp b (.slice a c.now.length cp) gv) w (wr.setCell ⟨b, o, none⟩ (.slice a n cp)) := hO.trans (Own.set (T := Fp b (.slice a c.now.length cp) gv) (.inl rfl) wr o _) (fun k hk => .inl hk)
      have hjj : j = min c.whole n := by
        have := HJ.out
        omega
      have hcc : c.trunc n = ⟨c.now.take n, j, c.gone ++ ((c.now.take c.whole).drop j).reverse⟩ := by
        unfold Dk.Cn.trunc
        rw [← hjj]
        congr 2
        by_cases hw : c.whole ≤ n
        · rw [List.drop_eq_nil_of_le (by simp; omega), List.drop_eq_nil_of_le (by simp; omega)]
        · have : j = n := by omega
          rw [this]
      have HP : Hid (CtPost w b o X (.slice a c.now.length cp) gv (c.trunc n) (wr.setCell ⟨b, o, none⟩ (.slice a n cp))) := by
        rw [hcc]
        exact ⟨_, _, hS, hOS, fun k hk => hK k (by rcases hk with hk | hk | hk; exact .inl hk; exact .inr (.inl ((own_len a _ _ _ _).trans hk)); exact .inr (.inr hk))⟩
      clear hS hOS hjj hcc hT
      have hl2 : ¬ (n : Int) < (j : Int) := by omega
      have hl3 : (n : Int) ≤ (c.now.length : Int) := by omega
      have hcap : c.now.length ≤ cp := OwnsBytes.cap (show OwnsBytes wr 0 (.slice a c.now.length cp) c.now from hC.n)
      go_wp2
      go_end0
      exact ⟨rfl, HP.out⟩
end Go.Proofs.Ytcjbceidgaieaaa
