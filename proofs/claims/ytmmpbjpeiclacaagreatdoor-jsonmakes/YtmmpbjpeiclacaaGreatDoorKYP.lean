/- The contract of the parser's table, over that of value. -/
import Derived.Test.YtmmpbjpeiclacaaGreatDoorKYO
import Derived.Deep.CutRange
set_option linter.unusedVariables false
set_option linter.unusedSimpArgs false
namespace Go.Proofs.YtmmpbjpeiclacaaGreatDoor
open Go.RowKit
/-- A growing list of values, all of it in blocks of which P holds. -/
structure GK (P : Nat → Prop) (B : Nat) (w : World) (v : Value) (cs : List Jsn.J) (vs : List V4) : Prop where
  own : w.ownsRow B 27 4 v cs.length (flat vs)
  row : ∀ g, v.ownBlock = some g → P g
  len : vs.length = cs.length
  read : ∀ (j : Nat) (c : Jsn.J) (x : V4), cs[j]? = some c → vs[j]? = some x → RV (fun k => P k ∧ off B v k) w c (vv x.1 x.2.1 x.2.2.1 x.2.2.2)
theorem GK.nil (P : Nat → Prop) (B : Nat) (w : World) : GK P B w (.slice none 0 0) [] [] := ⟨World.ownsRow_nil _ _ _ _, (fun g h => by cases h), rfl, (fun j c x h => by simp at h)⟩
theorem GK.keep {P P' : Nat → Prop} {B : Nat} {w w' : World} {v : Value} {cs : List Jsn.J} {vs : List V4} (h : GK P B w v cs vs) (hs : w.heap.size ≤ w'.heap.size) (hk : ∀ k, P k → B ≤ k → k < w.heap.size → P' k ∧ w'.heap[k]? = w.heap[k]?) : GK P' B w' v cs vs := by
  refine ⟨⟨h.own.1, ?_⟩, fun g hg => (hk g (h.row g hg) (World.ownsRow.lt h.own g hg).1 (World.ownsRow.lt h.own g hg).2).1, h.len, fun j c x hc hx => RV.keep hs (fun k hq hl => ⟨⟨(hk k hq.1 hq.2.1 hl).1, hq.2⟩, (hk k hq.1 hq.2.1 hl).2⟩) (h.read j c x hc hx)⟩
  rcases h.own.2 with h2 | ⟨g, cap, cur, h1, h2, h3, h4⟩
  · exact .inl h2
  · exact .inr ⟨g, cap, cur, h1, h2, (hk g (h.row g (by rw [h1]; rfl)) h2 (Array.getElem?_eq_some_iff.1 h3).1).2.trans h3, h4⟩
theorem GK.form {P : Nat → Prop} {B : Nat} {w : World} {v : Value} {cs : List Jsn.J} {vs : List V4} (h : GK P B w v cs vs) : ∃ a c, v = .slice a cs.length c := by
  rcases h.own.2 with ⟨rfl, h0⟩ | ⟨g, cap, cur, rfl, _⟩
  · exact ⟨none, 0, by rw [h0]⟩
  · exact ⟨_, _, rfl⟩
theorem GK.more {P : Nat → Prop} {B g cap H : Nat} {w w' : World} {v x0 x1 x2 x3 : Value} {cs : List Jsn.J} {vs : List V4} {c : Jsn.J} (h : GK P B w v cs vs) (hg : w.grownBy w' v.ownBlock) (hat : v.ownBlock = some g ∨ g = H) (hH : w.heap.size = H) (hPH : P H)
    (hown : w'.ownsRow B 27 4 (.slice (some ⟨g, 0, none⟩) (cs.length + 1) cap) (cs.length + 1) (flat vs ++ [x0, x1, x2, x3])) (hr : RV (fun k => P k ∧ off B v k) w c (vv x0 x1 x2 x3)) :
    GK P B w' (.slice (some ⟨g, 0, none⟩) (cs.length + 1) cap) (cs ++ [c]) (vs ++ [(x0, x1, x2, x3)]) := by
  have hk : ∀ {c : Jsn.J} {u : Value}, RV (fun k => P k ∧ off B v k) w c u → RV (fun k => P k ∧ off B (.slice (some ⟨g, 0, none⟩) (cs.length + 1) cap) k) w' c u := fun {c u} hr =>
    RV.keep hg.size (fun k hq hl => ⟨⟨hq.1, hq.2.1, fun e => by
      have e2 : k = g := Option.some.inj e
      rcases hat with h1 | h1
      · exact hq.2.2 (by rw [e2, h1])
      · omega⟩, hg.block k hl hq.2.2⟩) hr
  refine ⟨by rw [List.length_append, flat_snoc]; exact hown, fun g' hg' => ?_, by simp [h.len], fun j d x hd hx => ?_⟩
  · have e2 : g = g' := Option.some.inj hg'
    rw [← e2]
    rcases hat with h1 | h1
    · exact h.row g h1
    · rw [h1]; exact hPH
  by_cases hj : j < cs.length
  · rw [List.getElem?_append_left hj] at hd
    rw [List.getElem?_append_left (by rw [h.len]; exact hj)] at hx
    exact hk (h.read j d x hd hx)
  · have hj2 : j = cs.length := by
      have := (List.getElem?_eq_some_iff.1 hd).1
      simp at this
      omega
    subst hj2
    rw [List.getElem?_append_right (Nat.le_refl _)] at hd
    rw [List.getElem?_append_right (by rw [h.len]; exact Nat.le_refl _), h.len] at hx
    simp at hd hx
    subst hd; subst hx
    exact hk hr
theorem GK.kids {P : Nat → Prop} {B : Nat} {w : World} {v : Value} {cs : List Jsn.J} {vs : List V4} (h : GK P B w v cs vs) : GKids B w v cs vs :=
  ⟨h.own, h.len, fun j c x hc hx => RV.keep (Nat.le_refl _) (fun k hq _ => ⟨hq.2, rfl⟩) (h.read j c x hc hx)⟩
/-- What holds while a table grows: its block, the result's, the set of its keys, the two lists. -/
structure Tab (b : Nat) (s : List UInt8) (w : World) (z : List UInt8) (st : Jsn.St) (ks : List (List UInt8)) (kv cv : Value) (vs : List V4) (wr : World) : Prop where
  L : VAt wr (w.heap.size + 1) (.int .i64 6) (.string ⟨#[]⟩) kv cv
  R : VAt wr w.heap.size (.int .i64 0) (.string ⟨#[]⟩) (.slice none 0 0) (.slice none 0 0)
  M : SetAt (w.heap.size + 2) ks.length ks wr
  K : GTexts (w.heap.size + 3) wr kv ks
  G : GK (fun k => some k ≠ kv.ownBlock) (w.heap.size + 3) wr cv st.kids vs
  P : Ps b s z st.n wr
  Kp : Kept b w wr
  sz : w.heap.size + 3 ≤ wr.heap.size
theorem Tab.kl {b : Nat} {s : List UInt8} {w : World} {z : List UInt8} {st : Jsn.St} {ks : List (List UInt8)} {kv cv : Value} {vs : List V4} {wr : World} (h : Tab b s w z st ks kv cv vs wr) : ∀ g, kv.ownBlock = some g → w.heap.size + 3 ≤ g ∧ g < wr.heap.size := fun g hg => World.ownsRow.lt h.K g hg
theorem Tab.cl {b : Nat} {s : List UInt8} {w : World} {z : List UInt8} {st : Jsn.St} {ks : List (List UInt8)} {kv cv : Value} {vs : List V4} {wr : World} (h : Tab b s w z st ks kv cv vs wr) : ∀ g, cv.ownBlock = some g → w.heap.size + 3 ≤ g ∧ g < wr.heap.size := fun g hg => World.ownsRow.lt h.G.own g hg
/-- The parser has gone on. -/
theorem Tab.go {b : Nat} {s : List UInt8} {w : World} {z r : List UInt8} {st st' : Jsn.St} {ks : List (List UInt8)} {kv cv : Value} {vs : List V4} {wr w' : World} (h : Tab b s w z st ks kv cv vs wr) (hk : Kept b wr w') (hP : Ps b s r st'.n w') (e : st'.kids = st.kids) (hb : b < w.heap.size) : Tab b s w r st' ks kv cv vs w' := by
  have hs := hk.size
  have hz := h.sz
  exact ⟨h.L.keep (hk.block _ h.L.lt (by omega)), h.R.keep (hk.block _ h.R.lt (by omega)), h.M.keep (hk.block _ h.M.lt (by omega)), own_keep h.K (fun k hk1 hl => hk.block k hl (by omega)), by rw [e]; exact h.G.keep hs (fun k hp hk1 hl => ⟨hp, hk.block k hl (by omega)⟩), hP, h.Kp.trans hk, by omega⟩
/-- One more key. -/
theorem Tab.key {b g cap H : Nat} {s : List UInt8} {w : World} {z r : List UInt8} {st : Jsn.St} {ks : List (List UInt8)} {t : List UInt8} {kv cv : Value} {vs : List V4} {wr w2 w3 : World} (h : Tab b s w z st ks kv cv vs wr) (hb : b < w.heap.size)
    (hk : Kept2 b (w.heap.size + 2) wr w2) (hP : Ps b s r st.n w2) (hM : SetAt (w.heap.size + 2) (ks.length + 1) (ks ++ [t]) w2)
    (hg : (w2.alloc (.cells #[.string (str t)] 9)).grownBy w3 kv.ownBlock) (hat : kv.ownBlock = some g ∨ g = H) (hH : (w2.alloc (.cells #[.string (str t)] 9)).heap.size = H)
    (hown : w3.ownsRow (w.heap.size + 3) 9 1 (.slice (some ⟨g, 0, none⟩) (ks.length + 1) cap) (ks.length + 1) ((ks.map fun t => .string (str t)) ++ [.string (str t)])) :
    Tab b s w r st (ks ++ [t]) (.slice (some ⟨g, 0, none⟩) (ks.length + 1) cap) cv vs (w3.setCell ⟨w.heap.size + 1, 2, none⟩ (.slice (some ⟨g, 0, none⟩) (ks.length + 1) cap)) := by
  have hs := hk.size
  have hz := h.sz
  have hgs := hg.size
  simp at hgs hH
  have hkl := h.kl
  -- what lies where, behind the call
  have old : ∀ k, k < wr.heap.size → k ≠ b → k ≠ w.heap.size + 2 → some k ≠ kv.ownBlock → w3.heap[k]? = wr.heap[k]? := fun k hk1 hkb hkm hne => by
    rw [hg.block k (by simp; omega) hne, Lib.alloc_old w2 _ k (by omega)]
    exact hk.block k hk1 hkb hkm
  have old2 : ∀ k, k < w2.heap.size → some k ≠ kv.ownBlock → w3.heap[k]? = w2.heap[k]? := fun k hk1 hne => by
    rw [hg.block k (by simp; omega) hne, Lib.alloc_old w2 _ k hk1]
  have far : ∀ k, k < w.heap.size + 3 → some k ≠ kv.ownBlock := fun k hk1 e => by have := (hkl k e.symm).1; omega
  have setO : ∀ k, k ≠ w.heap.size + 1 → (w3.setCell ⟨w.heap.size + 1, 2, none⟩ (.slice (some ⟨g, 0, none⟩) (ks.length + 1) cap)).heap[k]? = w3.heap[k]? := fun k hk1 => Below.heap_setCell _ _ _ _ hk1
  have hL3 := (h.L.keep (old (w.heap.size + 1) (by omega) (by omega) (by omega) (far _ (by omega)))).keys (.slice (some ⟨g, 0, none⟩) (ks.length + 1) cap)
  refine ⟨hL3, h.R.keep ((setO _ (by omega)).trans (old _ (by omega) (by omega) (by omega) (far _ (by omega)))), ?_, ?_, ?_, hP.keep ((setO _ (by omega)).trans (old2 b hP.lt (far _ (by omega)))), ?_, by simp; omega⟩
  · have := hM.keep ((setO _ (by omega)).trans (old2 _ hM.lt (far _ (by omega))))
    rw [List.length_append]
    exact this
  · exact GTexts.of (own_keep hown (fun k hk1 _ => setO k (by omega)))
  · refine h.G.keep (by simp; omega) (fun k hp hk1 hl => ⟨fun e => ?_, (setO k (by omega)).trans (old k hl (by omega) (by omega) hp)⟩)
    have e2 : k = g := Option.some.inj e
    rcases hat with h1 | h1
    · exact hp (by rw [e2, h1])
    · omega
  · refine ⟨hg.os.trans (hk.os.trans h.Kp.os), hg.tape.trans (hk.tape.trans h.Kp.tape), hg.output.trans (hk.output.trans h.Kp.output), by simp; omega, fun k hk1 hkb => ?_⟩
    rw [setO k (by omega), old k (by omega) hkb (by omega) (far k (by omega))]
    exact h.Kp.block k hk1 hkb
/-- One more value. -/
theorem Tab.val {b g cap H : Nat} {s : List UInt8} {w : World} {z r : List UInt8} {st st' : Jsn.St} {ks : List (List UInt8)} {kv cv a2 a3 : Value} {vs : List V4} {c : Jsn.J} {wr w2 w3 : World} (h : Tab b s w z st ks kv cv vs wr) (hb : b < w.heap.size)
    (hk : Kept b wr w2) (hP : Ps b s r st'.n w2) (e : st'.kids = st.kids ++ [c])
    (hg : (w2.alloc (.cells #[.int .i64 c.kind, .string (str c.text), a2, a3] 27)).grownBy w3 cv.ownBlock) (hat : cv.ownBlock = some g ∨ g = H) (hH : (w2.alloc (.cells #[.int .i64 c.kind, .string (str c.text), a2, a3] 27)).heap.size = H)
    (hr : RV (wr.heap.size ≤ ·) w2 c (vv (.int .i64 c.kind) (.string (str c.text)) a2 a3))
    (hown : w3.ownsRow (w.heap.size + 3) 27 4 (.slice (some ⟨g, 0, none⟩) (st.kids.length + 1) cap) (st.kids.length + 1) (flat vs ++ [.int .i64 c.kind, .string (str c.text), a2, a3])) :
    Tab b s w r st' ks kv (.slice (some ⟨g, 0, none⟩) (st.kids.length + 1) cap) (vs ++ [(.int .i64 c.kind, .string (str c.text), a2, a3)]) (w3.setCell ⟨w.heap.size + 1, 3, none⟩ (.slice (some ⟨g, 0, none⟩) (st.kids.length + 1) cap)) := by
  have hs := hk.size
  have hz := h.sz
  have hgs := hg.size
  simp at hgs hH
  have hkl := h.kl
  have hcl := h.cl
  have old : ∀ k, k < wr.heap.size → k ≠ b → some k ≠ cv.ownBlock → w3.heap[k]? = wr.heap[k]? := fun k hk1 hkb hne => by
    rw [hg.block k (by simp; omega) hne, Lib.alloc_old w2 _ k (by omega)]
    exact hk.block k hk1 hkb
  have old2 : ∀ k, k < w2.heap.size → some k ≠ cv.ownBlock → w3.heap[k]? = w2.heap[k]? := fun k hk1 hne => by
    rw [hg.block k (by simp; omega) hne, Lib.alloc_old w2 _ k hk1]
  have far : ∀ k, k < w.heap.size + 3 → some k ≠ cv.ownBlock := fun k hk1 e => by have := (hcl k e.symm).1; omega
  have setO : ∀ k, k ≠ w.heap.size + 1 → (w3.setCell ⟨w.heap.size + 1, 3, none⟩ (.slice (some ⟨g, 0, none⟩) (st.kids.length + 1) cap)).heap[k]? = w3.heap[k]? := fun k hk1 => Below.heap_setCell _ _ _ _ hk1
  have hL3 := (h.L.keep (old (w.heap.size + 1) (by omega) (by omega) (far _ (by omega)))).kids (.slice (some ⟨g, 0, none⟩) (st.kids.length + 1) cap)
  refine ⟨hL3, h.R.keep ((setO _ (by omega)).trans (old _ (by omega) (by omega) (far _ (by omega)))), h.M.keep ((setO _ (by omega)).trans (old _ h.M.lt (by omega) (far _ (by omega)))), ?_, ?_, hP.keep ((setO _ (by omega)).trans (old2 b hP.lt (far _ (by omega)))), ?_, by simp; omega⟩
  · refine ⟨h.K.1, ?_⟩
    rcases h.K.2 with h2 | ⟨g1, cap1, cur1, h1, h2, h3, h4⟩
    · exact .inl h2
    · refine .inr ⟨g1, cap1, cur1, h1, h2, ((setO g1 (by omega)).trans (old g1 (Array.getElem?_eq_some_iff.1 h3).1 (by omega) (fun e1 => ?_))).trans h3, h4⟩
      exact h.G.row g1 e1.symm (by rw [h1]; rfl)
  · rw [e]
    have hGa : GK (fun k => some k ≠ kv.ownBlock) (w.heap.size + 3) (w2.alloc (.cells #[.int .i64 c.kind, .string (str c.text), a2, a3] 27)) cv st.kids vs := h.G.keep (by simp; omega) (fun k hp hk1 hl => ⟨hp, (Lib.alloc_old w2 _ k (by omega)).trans (hk.block k hl (by omega))⟩)
    have hrv : RV (fun k => some k ≠ kv.ownBlock ∧ off (w.heap.size + 3) cv k) (w2.alloc (.cells #[.int .i64 c.kind, .string (str c.text), a2, a3] 27)) c (vv (.int .i64 c.kind) (.string (str c.text)) a2 a3) :=
      RV.keep (by simp) (fun k hk1 hl => ⟨⟨fun e1 => by have := (hkl k e1.symm).2; have : wr.heap.size ≤ k := hk1; omega, by have : wr.heap.size ≤ k := hk1; omega, fun e1 => by have := (hcl k e1.symm).2; have : wr.heap.size ≤ k := hk1; omega⟩, Lib.alloc_old w2 _ k hl⟩) hr
    have hG3 := hGa.more hg hat (by simp; omega) (fun e1 => by have := (hkl H e1.symm).2; omega) hown hrv
    exact hG3.keep (by simp) (fun k hp hk1 _ => ⟨hp, setO k (by omega)⟩)
  · refine ⟨hg.os.trans (hk.os.trans h.Kp.os), hg.tape.trans (hk.tape.trans h.Kp.tape), hg.output.trans (hk.output.trans h.Kp.output), by simp; omega, fun k hk1 hkb => ?_⟩
    rw [setO k (by omega), old k (by omega) hkb (far k (by omega))]
    exact h.Kp.block k hk1 hkb
end Go.Proofs.YtmmpbjpeiclacaaGreatDoor
