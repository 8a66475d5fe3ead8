/- Texts laid as one. -/
import Derived.Test.YtpnmiknikkhliaaDoorKYb
import Derived.Deep.CutRange
/- The contract of the parser's table, over that of value. -/
set_option linter.unusedVariables false
set_option linter.unusedSimpArgs false
namespace Go.Proofs.YtpnmiknikkhliaaDoor
open Go.RowKit
/-- A growing list of values, all of it in blocks of which P holds. -/
structure GK (P : Nat → Prop) (B : Nat) (w : World) (v : Value) (cs : List Jsn.J) (vs : List V4) : Prop where
  own : w.ownsRow B 25 4 v cs.length (flat vs)
  row : ∀ g, v.ownBlock = some g → P g
  len : vs.length = cs.length
  read : ∀ (j : Nat) (c : Jsn.J) (x : V4), cs[j]? = some c → vs[j]? = some x → RV (fun k => P k ∧ off B v k) w c (vv x.1 x.2.1 x.2.2.1 x.2.2.2)
theorem GK.nil (P : Nat → Prop) (B : Nat) (w : World) : GK P B w (.slice none 0 0) [] [] := ⟨World.ownsRow_nil _ _ _ _, (fun g h => by cases h), rfl, (fun j c x h => by simp at h)⟩
theorem GK.keep {P P' : Nat → Prop} {B : Nat} {w w' : World} {v : Value} {cs : List Jsn.J} {vs : List V4} (h : GK P B w v cs vs) (hs : w.heap.size ≤ w'.heap.size) (hk : ∀ k, P k → B ≤ k → k < w.heap.size → P' k ∧ w'.heap[k]? = w.heap[k]?) : GK P' B w' v cs vs := by
  refine ⟨⟨h.own.1, ?_⟩, fun g hg => (hk g (h.row g hg) (World.ownsRow.lt h.own g hg).1 (World.ownsRow.lt h.own g hg).2).1, h.len, fun j c x hc hx => RV.keep hs (fun k hq hl => ⟨⟨(hk k hq.1 hq.2.1 hl).1, hq.2⟩, (hk k hq.1 hq.2.1 hl).2⟩) (h.read j c x hc hx)⟩
  rcases h.own.2 with h2 | ⟨g, cap, cur, h1, h2, h3, h4⟩
  · exact .inl h2
  · exact .inr ⟨g, cap, cur, h1, h2, (hk g (h.row g (by rw [h1]; rfl)) h2 (Array.getElem?_eq_some_iff.1 h3).1).2.trans h3, h4⟩
theorem GK.form {P : Nat → Prop} {B : Nat} {w : World} {v : Value} {cs : List Jsn.J} {vs : List V4} (h : GK P B w v cs vs) : ∃ a c, v = .slice a cs.length c := by
  rcases h.own.2 with ⟨rfl, h0⟩ | ⟨g, cap, cur, rfl, _⟩
  · exact ⟨none, 0, by rw [h0]⟩
  · exact ⟨_, _, rfl⟩
theorem GK.more {P : Nat → Prop} {B g cap H : Nat} {w w' : World} {v x0 x1 x2 x3 : Value} {cs : List Jsn.J} {vs : List V4} {c : Jsn.J} (h : GK P B w v cs vs) (hg : w.grownBy w' v.ownBlock) (hat : v.ownBlock = some g ∨ g = H) (hH : w.heap.size = H) (hPH : P H)
    (hown : w'.ownsRow B 25 4 (.slice (some ⟨g, 0, none⟩) (cs.length + 1) cap) (cs.length + 1) (flat vs ++ [x0, x1, x2, x3])) (hr : RV (fun k => P k ∧ off B v k) w c (vv x0 x1 x2 x3)) :
    GK P B w' (.slice (some ⟨g, 0, none⟩) (cs.length + 1) cap) (cs ++ [c]) (vs ++ [(x0, x1, x2, x3)]) := by
  have hk : ∀ {c : Jsn.J} {u : Value}, RV (fun k => P k ∧ off B v k) w c u → RV (fun k => P k ∧ off B (.slice (some ⟨g, 0, none⟩) (cs.length + 1) cap) k) w' c u := fun {c u} hr =>
    RV.keep hg.size (fun k hq hl => ⟨⟨hq.1, hq.2.1, fun e => by
      have e2 : k = g := Option.some.inj e
      rcases hat with h1 | h1
      · exact hq.2.2 (by rw [e2, h1])
      · omega⟩, hg.block k hl hq.2.2⟩) hr
  refine ⟨by rw [List.length_append, flat_snoc]; exact hown, fun g' hg' => ?_, by simp [h.len], fun j d x hd hx => ?_⟩
  · have e2 : g = g' := Option.some.inj hg'
    rw [← e2]
    rcases hat with h1 | h1
    · exact h.row g h1
    · rw [h1]; exact hPH
  by_cases hj : j < cs.length
  · rw [List.getElem?_append_left hj] at hd
    rw [List.getElem?_append_left (by rw [h.len]; exact hj)] at hx
    exact hk (h.read j d x hd hx)
  · have hj2 : j = cs.length := by
      have := (List.getElem?_eq_some_iff.1 hd).1
      simp at this
      omega
    subst hj2
    rw [List.getElem?_append_right (Nat.le_refl _)] at hd
    rw [List.getElem?_append_right (by rw [h.len]; exact Nat.le_refl _), h.len] at hx
    simp at hd hx
    subst hd; subst hx
    exact hk hr
theorem GK.kids {P : Nat → Prop} {B : Nat} {w : World} {v : Value} {cs : List Jsn.J} {vs : List V4} (h : GK P B w v cs vs) : GKids B w v cs vs :=
  ⟨h.own, h.len, fun j c x hc hx => RV.keep (Nat.le_refl _) (fun k hq _ => ⟨hq.2, rfl⟩) (h.read j c x hc hx)⟩
/-- What holds while a table grows: its block, the result's, the set of its keys, the two lists. -/
structure Tab (b : Nat) (s : List UInt8) (w : World) (z : List UInt8) (st : Jsn.St) (ks : List (List UInt8)) (kv cv : Value) (vs : List V4) (wr : World) : Prop where
  L : VAt wr (w.heap.size + 1) (.int .i64 6) (.string ⟨#[]⟩) kv cv
  R : VAt wr w.heap.size (.int .i64 0) (.string ⟨#[]⟩) (.slice none 0 0) (.slice none 0 0)
  M : SetAt (w.heap.size + 2) ks.length ks wr
  K : GTexts (w.heap.size + 3) wr kv ks
  G : GK (fun k => some k ≠ kv.ownBlock) (w.heap.size + 3) wr cv st.kids vs
  P : Ps b s z st.n wr
  Kp : Kept b w wr
  sz : w.heap.size + 3 ≤ wr.heap.size
theorem Tab.kl {b : Nat} {s : List UInt8} {w : World} {z : List UInt8} {st : Jsn.St} {ks : List (List UInt8)} {kv cv : Value} {vs : List V4} {wr : World} (h : Tab b s w z st ks kv cv vs wr) : ∀ g, kv.ownBlock = some g → w.heap.size + 3 ≤ g ∧ g < wr.heap.size := fun g hg => World.ownsRow.lt h.K g hg
theorem Tab.cl {b : Nat} {s : List UInt8} {w : World} {z : List UInt8} {st : Jsn.St} {ks : List (List UInt8)} {kv cv : Value} {vs : List V4} {wr : World} (h : Tab b s w z st ks kv cv vs wr) : ∀ g, cv.ownBlock = some g → w.heap.size + 3 ≤ g ∧ g < wr.heap.size := fun g hg => World.ownsRow.lt h.G.own g hg
/-- The parser has gone on. -/
theorem Tab.go {b : Nat} {s : List UInt8} {w : World} {z r : List UInt8} {st st' : Jsn.St} {ks : List (List UInt8)} {kv cv : Value} {vs : List V4} {wr w' : World} (h : Tab b s w z st ks kv cv vs wr) (hk : Kept b wr w') (hP : Ps b s r st'.n w') (e : st'.kids = st.kids) (hb : b < w.heap.size) : Tab b s w r st' ks kv cv vs w' := by
  have hs := hk.size
  have hz := h.sz
  exact ⟨h.L.keep (hk.block _ h.L.lt (by omega)), h.R.keep (hk.block _ h.R.lt (by omega)), h.M.keep (hk.block _ h.M.lt (by omega)), own_keep h.K (fun k hk1 hl => hk.block k hl (by omega)), by rw [e]; exact h.G.keep hs (fun k hp hk1 hl => ⟨hp, hk.block k hl (by omega)⟩), hP, h.Kp.trans hk, by omega⟩
/-- One more key. -/
theorem Tab.key {b g cap H : Nat} {s : List UInt8} {w : World} {z r : List UInt8} {st : Jsn.St} {ks : List (List UInt8)} {t : List UInt8} {kv cv : Value} {vs : List V4} {wr w2 w3 : World} (h : Tab b s w z st ks kv cv vs wr) (hb : b < w.heap.size)
    (hk : Kept2 b (w.heap.size + 2) wr w2) (hP : Ps b s r st.n w2) (hM : SetAt (w.heap.size + 2) (ks.length + 1) (ks ++ [t]) w2)
    (hg : (w2.alloc (.cells #[.string (str t)] 9)).grownBy w3 kv.ownBlock) (hat : kv.ownBlock = some g ∨ g = H) (hH : (w2.alloc (.cells #[.string (str t)] 9)).heap.size = H)
    (hown : w3.ownsRow (w.heap.size + 3) 9 1 (.slice (some ⟨g, 0, none⟩) (ks.length + 1) cap) (ks.length + 1) ((ks.map fun t => .string (str t)) ++ [.string (str t)])) :
    Tab b s w r st (ks ++ [t]) (.slice (some ⟨g, 0, none⟩) (ks.length + 1) cap) cv vs (w3.setCell ⟨w.heap.size + 1, 2, none⟩ (.slice (some ⟨g, 0, none⟩) (ks.length + 1) cap)) := by
  have hs := hk.size
  have hz := h.sz
  have hgs := hg.size
  simp at hgs hH
  have hkl := h.kl
  -- what lies where, behind the call
  have old : ∀ k, k < wr.heap.size → k ≠ b → k ≠ w.heap.size + 2 → some k ≠ kv.ownBlock → w3.heap[k]? = wr.heap[k]? := fun k hk1 hkb hkm hne => by
    rw [hg.block k (by simp; omega) hne, Lib.alloc_old w2 _ k (by omega)]
    exact hk.block k hk1 hkb hkm
  have old2 : ∀ k, k < w2.heap.size → some k ≠ kv.ownBlock → w3.heap[k]? = w2.heap[k]? := fun k hk1 hne => by
    rw [hg.block k (by simp; omega) hne, Lib.alloc_old w2 _ k hk1]
  have far : ∀ k, k < w.heap.size + 3 → some k ≠ kv.ownBlock := fun k hk1 e => by have := (hkl k e.symm).1; omega
  have setO : ∀ k, k ≠ w.heap.size + 1 → (w3.setCell ⟨w.heap.size + 1, 2, none⟩ (.slice (some ⟨g, 0, none⟩) (ks.length + 1) cap)).heap[k]? = w3.heap[k]? := fun k hk1 => Below.heap_setCell _ _ _ _ hk1
  have hL3 := (h.L.keep (old (w.heap.size + 1) (by omega) (by omega) (by omega) (far _ (by omega)))).keys (.slice (some ⟨g, 0, none⟩) (ks.length + 1) cap)
  refine ⟨hL3, h.R.keep ((setO _ (by omega)).trans (old _ (by omega) (by omega) (by omega) (far _ (by omega)))), ?_, ?_, ?_, hP.keep ((setO _ (by omega)).trans (old2 b hP.lt (far _ (by omega)))), ?_, by simp; omega⟩
  · have := hM.keep ((setO _ (by omega)).trans (old2 _ hM.lt (far _ (by omega))))
    rw [List.length_append]
    exact this
  · exact GTexts.of (own_keep hown (fun k hk1 _ => setO k (by omega)))
  · refine h.G.keep (by simp; omega) (fun k hp hk1 hl => ⟨fun e => ?_, (setO k (by omega)).trans (old k hl (by omega) (by omega) hp)⟩)
    have e2 : k = g := Option.some.inj e
    rcases hat with h1 | h1
    · exact hp (by rw [e2, h1])
    · omega
  · refine ⟨hg.os.trans (hk.os.trans h.Kp.os), hg.tape.trans (hk.tape.trans h.Kp.tape), hg.output.trans (hk.output.trans h.Kp.output), by simp; omega, fun k hk1 hkb => ?_⟩
    rw [setO k (by omega), old k (by omega) hkb (by omega) (far k (by omega))]
    exact h.Kp.block k hk1 hkb
/-- One more value. -/
theorem Tab.val {b g cap H : Nat} {s : List UInt8} {w : World} {z r : List UInt8} {st st' : Jsn.St} {ks : List (List UInt8)} {kv cv a2 a3 : Value} {vs : List V4} {c : Jsn.J} {wr w2 w3 : World} (h : Tab b s w z st ks kv cv vs wr) (hb : b < w.heap.size)
    (hk : Kept b wr w2) (hP : Ps b s r st'.n w2) (e : st'.kids = st.kids ++ [c])
    (hg : (w2.alloc (.cells #[.int .i64 c.kind, .string (str c.text), a2, a3] 25)).grownBy w3 cv.ownBlock) (hat : cv.ownBlock = some g ∨ g = H) (hH : (w2.alloc (.cells #[.int .i64 c.kind, .string (str c.text), a2, a3] 25)).heap.size = H)
    (hr : RV (wr.heap.size ≤ ·) w2 c (vv (.int .i64 c.kind) (.string (str c.text)) a2 a3))
    (hown : w3.ownsRow (w.heap.size + 3) 25 4 (.slice (some ⟨g, 0, none⟩) (st.kids.length + 1) cap) (st.kids.length + 1) (flat vs ++ [.int .i64 c.kind, .string (str c.text), a2, a3])) :
    Tab b s w r st' ks kv (.slice (some ⟨g, 0, none⟩) (st.kids.length + 1) cap) (vs ++ [(.int .i64 c.kind, .string (str c.text), a2, a3)]) (w3.setCell ⟨w.heap.size + 1, 3, none⟩ (.slice (some ⟨g, 0, none⟩) (st.kids.length + 1) cap)) := by
  have hs := hk.size
  have hz := h.sz
  have hgs := hg.size
  simp at hgs hH
  have hkl := h.kl
  have hcl := h.cl
  have old : ∀ k, k < wr.heap.size → k ≠ b → some k ≠ cv.ownBlock → w3.heap[k]? = wr.heap[k]? := fun k hk1 hkb hne => by
    rw [hg.block k (by simp; omega) hne, Lib.alloc_old w2 _ k (by omega)]
    exact hk.block k hk1 hkb
  have old2 : ∀ k, k < w2.heap.size → some k ≠ cv.ownBlock → w3.heap[k]? = w2.heap[k]? := fun k hk1 hne => by
    rw [hg.block k (by simp; omega) hne, Lib.alloc_old w2 _ k hk1]
  have far : ∀ k, k < w.heap.size + 3 → some k ≠ cv.ownBlock := fun k hk1 e => by have := (hcl k e.symm).1; omega
  have setO : ∀ k, k ≠ w.heap.size + 1 → (w3.setCell ⟨w.heap.size + 1, 3, none⟩ (.slice (some ⟨g, 0, none⟩) (st.kids.length + 1) cap)).heap[k]? = w3.heap[k]? := fun k hk1 => Below.heap_setCell _ _ _ _ hk1
  have hL3 := (h.L.keep (old (w.heap.size + 1) (by omega) (by omega) (far _ (by omega)))).kids (.slice (some ⟨g, 0, none⟩) (st.kids.length + 1) cap)
  refine ⟨hL3, h.R.keep ((setO _ (by omega)).trans (old _ (by omega) (by omega) (far _ (by omega)))), h.M.keep ((setO _ (by omega)).trans (old _ h.M.lt (by omega) (far _ (by omega)))), ?_, ?_, hP.keep ((setO _ (by omega)).trans (old2 b hP.lt (far _ (by omega)))), ?_, by simp; omega⟩
  · refine ⟨h.K.1, ?_⟩
    rcases h.K.2 with h2 | ⟨g1, cap1, cur1, h1, h2, h3, h4⟩
    · exact .inl h2
    · refine .inr ⟨g1, cap1, cur1, h1, h2, ((setO g1 (by omega)).trans (old g1 (Array.getElem?_eq_some_iff.1 h3).1 (by omega) (fun e1 => ?_))).trans h3, h4⟩
      exact h.G.row g1 e1.symm (by rw [h1]; rfl)
  · rw [e]
    have hGa : GK (fun k => some k ≠ kv.ownBlock) (w.heap.size + 3) (w2.alloc (.cells #[.int .i64 c.kind, .string (str c.text), a2, a3] 25)) cv st.kids vs := h.G.keep (by simp; omega) (fun k hp hk1 hl => ⟨hp, (Lib.alloc_old w2 _ k (by omega)).trans (hk.block k hl (by omega))⟩)
    have hrv : RV (fun k => some k ≠ kv.ownBlock ∧ off (w.heap.size + 3) cv k) (w2.alloc (.cells #[.int .i64 c.kind, .string (str c.text), a2, a3] 25)) c (vv (.int .i64 c.kind) (.string (str c.text)) a2 a3) :=
      RV.keep (by simp) (fun k hk1 hl => ⟨⟨fun e1 => by have := (hkl k e1.symm).2; have : wr.heap.size ≤ k := hk1; omega, by have : wr.heap.size ≤ k := hk1; omega, fun e1 => by have := (hcl k e1.symm).2; have : wr.heap.size ≤ k := hk1; omega⟩, Lib.alloc_old w2 _ k hl⟩) hr
    have hG3 := hGa.more hg hat (by simp; omega) (fun e1 => by have := (hkl H e1.symm).2; omega) hown hrv
    exact hG3.keep (by simp) (fun k hp hk1 _ => ⟨hp, setO k (by omega)⟩)
  · refine ⟨hg.os.trans (hk.os.trans h.Kp.os), hg.tape.trans (hk.tape.trans h.Kp.tape), hg.output.trans (hk.output.trans h.Kp.output), by simp; omega, fun k hk1 hkb => ?_⟩
    rw [setO k (by omega), old k (by omega) hkb (far k (by omega))]
    exact h.Kp.block k hk1 hkb
end Go.Proofs.YtpnmiknikkhliaaDoor
/- The contract of the parser's table. -/
set_option linter.unusedVariables false
set_option linter.unusedSimpArgs false
namespace Go.Proofs.YtpnmiknikkhliaaDoor
open Go.RowKit
theorem tab_start {b n : Nat} {s l : List UInt8} {w : World} (h : Ps b s l n w) :
    Tab b s w l ⟨n, [], []⟩ [] (.slice none 0 0) (.slice none 0 0) [] (((w.alloc (.cells z4 25)).alloc (.cells #[.int .i64 6, .string ⟨#[]⟩, .slice none 0 0, .slice none 0 0] 25)).alloc (.map #[] 0)) := by
  have hbl := h.lt
  have hB : Below w.heap.size w (((w.alloc (.cells z4 25)).alloc (.cells #[.int .i64 6, .string ⟨#[]⟩, .slice none 0 0, .slice none 0 0] 25)).alloc (.map #[] 0)) := (((Below.refl _ w).alloc (Nat.le_refl _) _).alloc (by simp) _).alloc (by simp; omega) _
  refine ⟨?_, ?_, ?_, GTexts.nil _ _, GK.nil _ _ _, h.step hB, Kept.of hB, by simp⟩
  · unfold VAt
    have e : w.heap.size + 1 = (w.alloc (.cells z4 25)).heap.size := by simp
    rw [Lib.alloc_old _ _ _ (by simp), e]
    exact heap_alloc_last _ _
  · unfold VAt
    rw [Lib.alloc_old _ _ _ (by simp; omega), Lib.alloc_old _ _ _ (by simp)]
    exact heap_alloc_last w _
  · have := SetAt.made ((w.alloc (.cells z4 25)).alloc (.cells #[.int .i64 6, .string ⟨#[]⟩, .slice none 0 0, .slice none 0 0] 25)) 0
    simpa using this
set_option maxHeartbeats 8000000 in
set_option maxRecDepth 100000 in
theorem table_any {b n k : Nat} {d : Int} {s l : List UInt8} {w : World} (hV : ValC k d b s) (h : Ps b s l n w) :
    Calls Tryd.prog 67 #[.pointer (some ⟨b, 0, none⟩), .int .i64 d] w (ValPost b s w ((Jsn.nestR (Jsn.stepT (Jsn.valueR k)) 125 ⟨n, [], []⟩ l).map fun st => (.mk 6 [] st.keys st.kids, st.n))) := by
  obtain ⟨i0, hi, hz0, hz1, hz2⟩ := info_parts infoVal
  obtain ⟨j0, hj, hy0, hy1, hy2⟩ := info_parts infoStr
  have hzv := (zero_of_info zeroVal).1
  have hmm := @run_makeMap Tryd.prog
  have hfine := Jsn.stepT_fine (Jsn.value_fine k)
  have hbl := h.lt
  have hlen := h.len
  unfold ValPost
  generalize hX : (Jsn.nestR (Jsn.stepT (Jsn.valueR k)) 125 ⟨n, [], []⟩ l) = X
  have hX2 : X = (Jsn.takes 125 l).bind fun is r => if is = true then .ok ⟨n, [], []⟩ r else Jsn.loopR (Jsn.stepT (Jsn.valueR k)) 125 ⟨n, [], []⟩ r := hX.symm
  clear hX
  have hT0 := tab_start h
  have hT := takes_any (c := 125) hT0.P
  go_enter Tryd.func67, Tryd.ntmps67
  go_wp2_with fail
  generalize (((w.alloc (.cells z4 25)).alloc (.cells #[.int .i64 6, .string ⟨#[]⟩, .slice none 0 0, .slice none 0 0] 25)).alloc (.map #[] 0)) = W0 at hT0 hT ⊢
  go_at_call 80
  cases ht : Jsn.takes 125 l with
  | err y q =>
    rw [ht] at hT hX2
    refine hT.mono ?_
    rintro e w1 ⟨hK1, hA⟩
    replace hA : e = boom s y q := hA
    subst hA
    exact ⟨rfl, hT0.Kp.trans hK1, by rw [hX2]; rfl⟩
  | ok is r =>
    rw [ht] at hT hX2
    refine hT.mono ?_
    rintro e w1 ⟨hK1, rfl, hP1⟩
    have hrl : r.length ≤ l.length := by have := Jsn.takes_fine 125 l; rw [ht] at this; exact List.IsSuffix.length_le this
    have hle := h.le
    have hT1 := hT0.go hK1 hP1 rfl hbl
    have HX : Hid (X = if (!is) = true then Jsn.loopR (Jsn.stepT (Jsn.valueR k)) 125 ⟨n, [], []⟩ r else .ok ⟨n, [], []⟩ r) := by
      show _ = _
      rw [hX2]
      cases is <;> rfl
    clear hX2 hT hT0 hK1 ht
    go_wp2_with fail
    go_loopw [7] (fun mv wr => ∃ (m : Bool) (st : Jsn.St) (z : List UInt8) (kv cv : Value) (vs : List V4), mv = .bool m ∧ Tab b s w z st st.keys kv cv vs wr ∧ st.kids.length ≤ st.keys.length ∧ st.keys.length + z.length ≤ s.length ∧ Hid (X = if m = true then Jsn.loopR (Jsn.stepT (Jsn.valueR k)) 125 st z else .ok st z)) (fun mv wr => leftM b s mv wr)
    case atStart => exact ⟨!is, ⟨n, [], []⟩, r, _, _, [], rfl, hT1, Nat.le_refl _, by simp; omega, HX⟩
    case round =>
      obtain ⟨m, st, z, kv, cv, vs, rfl, hTab, hkk, hcnt, HE⟩ := hrel
      clear HX hT1
      have hL := hTab.L
      have hz3 := hTab.sz
      obtain ⟨a1, p1, hf1⟩ := hTab.K.form
      obtain ⟨a2, p2, hf2⟩ := hTab.G.form
      subst hf1; subst hf2
      cases m with
      | false =>
        have HY : Hid (X = .ok st z) := HE.out
        have hR := hTab.R
        have hR2 := setRow_V hR (.int .i64 6) (.string ⟨#[]⟩) (.slice a1 st.keys.length p1) (.slice a2 st.kids.length p2)
        go_wp2_with (first
          | ((with_reducible show wpList _ _ _ ({ op := Op.load 25 _, .. } :: _) _ _); refine wpList_load_V _ rfl rfl _ _ _ _ _ rfl hL ?_)
          | ((with_reducible show wpList _ _ _ ({ op := Op.store 25 _ _, .. } :: _) _ _); refine wpList_store_V _ _ rfl rfl _ _ _ _ _ rfl rfl hR (ones_mk _ _ _ _ _ _ _ _) ?_))
        refine ret_V rfl rfl rfl hR2 ⟨hTab.Kp.row (Nat.le_refl _) _, ?_⟩
        rw [HY.out]
        refine ⟨_, rfl, RV_mk.2 ⟨_, _, rfl, hTab.K.reads.keep (by rw [setRow_len]; exact Nat.le_refl _) (fun k hk _ => ⟨by omega, setRow_other _ (by omega)⟩), ?_⟩, hTab.P.keep (setRow_other _ (by omega))⟩
        exact hTab.G.kids.reads.keep (by rw [setRow_len]; exact Nat.le_refl _) (fun k hk _ => ⟨by omega, setRow_other _ (by omega)⟩)
      | true =>
        have hE : X = Jsn.loopR (Jsn.stepT (Jsn.valueR k)) 125 st z := HE.out
        clear HE
        have hst : Jsn.stepT (Jsn.valueR k) st z = (Jsn.keyR st.keys z).bind fun k' r => (Jsn.takes 58 r).bind fun is z => if is = true then (Jsn.valueR k st.n z).bind fun p y => .ok ⟨p.2, st.keys ++ [k'], st.kids ++ [p.1]⟩ y else .err 3 z.length := rfl
        have hky := fun W (hP : Ps b s z st.n W) (hM : SetAt (w.heap.size + 2) st.keys.length st.keys W) => key_any hP hM (by omega) (by omega)
        have c2 : wr.cell? ⟨w.heap.size + 1, 2, none⟩ = some (.slice a1 st.keys.length p1) := hL.cell 2
        have f2 := hL.free 2
        cases hkr : Jsn.keyR st.keys z with
        | err y q =>
          rw [hkr] at hst
          rw [loop_err hfine hst] at hE
          have HY := show Hid _ from hE
          clear hE hst
          go_wp2_with fail
          refine wp_region_held_drew (S := fun W => W.cell? ⟨w.heap.size + 1, 2, none⟩ = some (.slice a1 st.keys.length p1)) (by kernel_rfl) c2 (fun hS => ?_)
          refine takeH 0 16 (.pointer (some ⟨w.heap.size + 1, 2, none⟩)) rfl rfl (by kernel_rfl) (by kernel_rfl) (by kernel_rfl) (fun _ _ _ h => h) (Or.inl ⟨by kernel_rfl, fun W hSW => by go_simp⟩) hS ?_
          simp only [Act.put, List.setIfInBounds_toArray, List.set_cons_zero, List.set_cons_succ]
          refine takeH 1 17 (.slice a1 st.keys.length p1) rfl rfl (by kernel_rfl) (by kernel_rfl) (by kernel_rfl) (fun _ _ _ h => h) (Or.inl ⟨by kernel_rfl, fun W hSW => by go_simp⟩) hS ?_
          simp only [Act.put, List.setIfInBounds_toArray, List.set_cons_zero, List.set_cons_succ]
          refine takeH 2 18 (.pointer (some ⟨b, 0, none⟩)) rfl rfl (by kernel_rfl) (by kernel_rfl) (by kernel_rfl) (fun _ _ _ h => h) (Or.inl ⟨by kernel_rfl, fun W hSW => by go_simp⟩) hS ?_
          simp only [Act.put, List.setIfInBounds_toArray, List.set_cons_zero, List.set_cons_succ]
          refine takeH 3 19 (.map (some (w.heap.size + 2))) rfl rfl (by kernel_rfl) (by kernel_rfl) (by kernel_rfl) (fun _ _ _ h => h) (Or.inl ⟨by kernel_rfl, fun W hSW => by go_simp⟩) hS ?_
          simp only [Act.put, List.setIfInBounds_toArray, List.set_cons_zero, List.set_cons_succ]
          refine wpAnyH_ready (rs := [4]) (by kernel_rfl) (by simp) ?_
          refine AllReadyH.cons rfl (fun K hK0 => ?_) AllReadyH.nil
          go_simp
          refine (hky _ hTab.P.drew hTab.M).mono ?_
          rintro e w2 ⟨hK2, hA⟩
          rw [hkr] at hA
          replace hA : e = boom s y q := hA
          subst hA
          refine ⟨rfl, ⟨hK2.os.trans hTab.Kp.os, hK2.tape.trans hTab.Kp.tape, hK2.output.trans hTab.Kp.output, Nat.le_trans hTab.Kp.size hK2.size, fun i hi hib => (hK2.block i (show i < wr.heap.size by omega) hib (by omega)).trans (hTab.Kp.block i hi hib)⟩, by rw [HY.out]; rfl⟩
        | ok t r1 =>
          rw [hkr] at hst
          replace hst : Jsn.stepT (Jsn.valueR k) st z = (Jsn.takes 58 r1).bind fun is z => if is = true then (Jsn.valueR k st.n z).bind fun p y => .ok ⟨p.2, st.keys ++ [t], st.kids ++ [p.1]⟩ y else .err 3 z.length := hst
          have hr1 : r1.length ≤ z.length := by have := Jsn.key_fine st.keys z; rw [hkr] at this; exact List.IsSuffix.length_le this
          have HPL : Hid (leftOf b s wr = z.length) := hTab.P.left
          have hlast := World.ownsRow.lt hTab.K
          go_upto_region 6 with fail
          go_cut [] from 13 to 40 (fun wc => ∃ kv2, Tab b s w r1 st (st.keys ++ [t]) kv2 (.slice a2 st.kids.length p2) vs wc)
          case first =>
            go_region_law (first
              | (go_simp; refine (hky _ hTab.P.drew hTab.M).mono ?_; rintro e w2 ⟨hK2, hA⟩; rw [hkr] at hA; obtain ⟨rfl, hP2, hM2⟩ := hA; have hs2 : wr.heap.size ≤ w2.heap.size := hK2.size; have hL2 : VAt w2 (w.heap.size + 1) (.int .i64 6) (.string ⟨#[]⟩) (.slice a1 st.keys.length p1) (.slice a2 st.kids.length p2) := hL.keep (hK2.block (w.heap.size + 1) hL.lt (by omega) (by omega)); have c22 : w2.cell? ⟨w.heap.size + 1, 2, none⟩ = some (.slice a1 st.keys.length p1) := hL2.cell 2; have c2a : (w2.alloc (.cells #[.string (str t)] 9)).cell? ⟨w.heap.size + 1, 2, none⟩ = some (.slice a1 st.keys.length p1) := (hL2.keep (Lib.alloc_old w2 _ (w.heap.size + 1) (by omega))).cell 2; have hKa : (w2.alloc (.cells #[.string (str t)] 9)).ownsRow (w.heap.size + 3) 9 1 (.slice a1 st.keys.length p1) st.keys.length (st.keys.map fun t => .string (str t)) := own_keep hTab.K (fun k hk hl => (Lib.alloc_old w2 _ k (by omega)).trans (hK2.block k hl (by omega) (by omega))); have hLne : some (w.heap.size + 1) ≠ (Value.slice a1 st.keys.length p1).ownBlock := fun e => by have := (hlast _ e.symm).1; omega)
              | (refine step_append_lies _ rfl (.tmp 17) (.tmp 21) 22 rfl (w.heap.size + 3) 9 j0 (.string ⟨#[]⟩) 1 16 Tryd.underlying22 hj hy0 hy1 hy2 rfl (by decide) _ _ _ rfl hKa ⟨w2.heap.size, 0, none⟩ 1 1 [.string (str t)] rfl rfl (cell_one_new _ _ _) (fun x hx => by simp at hx; subst hx; rfl) (by decide) (by unfold maxLen; omega) (by omega) (by simp; omega) _ rfl ?_; intro g cap w3 hown' hgrow3 hat hglt; have hL3 : VAt w3 (w.heap.size + 1) (.int .i64 6) (.string ⟨#[]⟩) (.slice a1 st.keys.length p1) (.slice a2 st.kids.length p2) := hL2.keep ((hgrow3.block (w.heap.size + 1) (by simp; omega) hLne).trans (Lib.alloc_old w2 _ (w.heap.size + 1) (by omega))); have c23 : w3.cell? ⟨w.heap.size + 1, 2, none⟩ = some (.slice a1 st.keys.length p1) := hL3.cell 2; have f23 := hL3.free 2))
            all_goals (go_wp2_with fail; go_meet; exact ⟨_, hTab.key hbl ((Kept2.refl b (w.heap.size + 2) wr).drew.trans hK2) hP2 hM2 hgrow3 hat (by simp) hown'⟩)
          case rest =>
            obtain ⟨kv2, hT2⟩ := hcut
            clear hky c2 f2 hL hTab hlast
            have htk := takes_any (c := 58) hT2.P
            cases htr : Jsn.takes 58 r1 with
            | err y q =>
              rw [htr] at htk hst
              rw [loop_err hfine hst] at hE
              have HY := show Hid _ from hE
              clear hE hst
              go_wp2_with (first
                | (go_at_call 80; refine htk.mono ?_; rintro e w4 ⟨hK4, hA⟩; replace hA : e = boom s y q := hA; subst hA))
              exact ⟨rfl, hT2.Kp.trans hK4, by rw [HY.out]; rfl⟩
            | ok is2 r2 =>
              rw [htr] at htk hst
              have hr2 : r2.length ≤ r1.length := by have := Jsn.takes_fine 58 r1; rw [htr] at this; exact List.IsSuffix.length_le this
              cases is2 with
              | false =>
                replace hst : Jsn.stepT (Jsn.valueR k) st z = .err 3 r2.length := hst
                rw [loop_err hfine hst] at hE
                have HY := show Hid _ from hE
                clear hE hst
                go_wp2_with (first
                  | (go_at_call 80; refine htk.mono ?_; rintro e w4 ⟨hK4, rfl, hP4⟩; obtain ⟨p, hp, d1⟩ := hP4.c1))
                obtain rfl : p = s.length - r2.length := by omega
                exact ⟨rfl, hT2.Kp.trans hK4, by rw [HY.out]; rfl⟩
              | true =>
                replace hst : Jsn.stepT (Jsn.valueR k) st z = (Jsn.valueR k st.n r2).bind fun p y => .ok ⟨p.2, st.keys ++ [t], st.kids ++ [p.1]⟩ y := hst
                go_upto_region 9 with (first
                  | (go_at_call 80; refine htk.mono ?_; rintro e w4 ⟨hK4, rfl, hP4⟩))
                have hT4 := hT2.go (st' := st) hK4 hP4 rfl hbl
                clear htk hT2 hP4 hK4
                have hL := hT4.L
                have hz4 := hT4.sz
                have c3 : w4.cell? ⟨w.heap.size + 1, 3, none⟩ = some (.slice a2 st.kids.length p2) := hL.cell 3
                have f3 := hL.free 3
                have hVz := hV st.n r2
                cases hv : Jsn.valueR k st.n r2 with
                | err y q =>
                  rw [hv] at hst
                  rw [loop_err hfine hst] at hE
                  have HY := show Hid _ from hE
                  clear hE hst
                  refine wp_region_held_drew (S := fun W => W.cell? ⟨w.heap.size + 1, 3, none⟩ = some (.slice a2 st.kids.length p2)) (by kernel_rfl) c3 (fun hS => ?_)
                  refine takeH 0 33 (.pointer (some ⟨w.heap.size + 1, 3, none⟩)) rfl rfl (by kernel_rfl) (by kernel_rfl) (by kernel_rfl) (fun _ _ _ h => h) (Or.inl ⟨by kernel_rfl, fun W hSW => by go_simp⟩) hS ?_
                  simp only [Act.put, List.setIfInBounds_toArray, List.set_cons_zero, List.set_cons_succ]
                  refine takeH 1 34 (.slice a2 st.kids.length p2) rfl rfl (by kernel_rfl) (by kernel_rfl) (by kernel_rfl) (fun _ _ _ h => h) (Or.inl ⟨by kernel_rfl, fun W hSW => by go_simp⟩) hS ?_
                  simp only [Act.put, List.setIfInBounds_toArray, List.set_cons_zero, List.set_cons_succ]
                  refine takeH 2 35 (.pointer (some ⟨b, 0, none⟩)) rfl rfl (by kernel_rfl) (by kernel_rfl) (by kernel_rfl) (fun _ _ _ h => h) (Or.inl ⟨by kernel_rfl, fun W hSW => by go_simp⟩) hS ?_
                  simp only [Act.put, List.setIfInBounds_toArray, List.set_cons_zero, List.set_cons_succ]
                  refine takeH 3 36 (.int .i64 d) rfl rfl (by kernel_rfl) (by kernel_rfl) (by kernel_rfl) (fun _ _ _ h => h) (Or.inl ⟨by kernel_rfl, fun W hSW => by go_simp⟩) hS ?_
                  simp only [Act.put, List.setIfInBounds_toArray, List.set_cons_zero, List.set_cons_succ]
                  refine wpAnyH_ready (rs := [4]) (by kernel_rfl) (by simp) ?_
                  refine AllReadyH.cons rfl (fun K hK0 => ?_) AllReadyH.nil
                  go_simp
                  refine (hVz _ hT4.P.drew).mono ?_
                  rintro e w5 ⟨hK5, hA⟩
                  rw [hv] at hA
                  replace hA : e = boom s y q := hA
                  subst hA
                  exact ⟨rfl, hT4.Kp.drew.trans hK5, by rw [HY.out]; rfl⟩
                | ok pr r3 =>
                  rw [hv] at hst
                  replace hst : Jsn.stepT (Jsn.valueR k) st z = .ok ⟨pr.2, st.keys ++ [t], st.kids ++ [pr.1]⟩ r3 := hst
                  rw [loop_ok hfine hst] at hE
                  have hr3 : r3.length ≤ r2.length := by have := Jsn.value_fine k st.n r2; rw [hv] at this; exact List.IsSuffix.length_le this
                  have HY := show Hid _ from hE
                  clear hE hst
                  have hlast := World.ownsRow.lt hT4.G.own
                  go_region_law (first
                    | (go_simp; refine (hVz _ hT4.P.drew).mono ?_; rintro e w5 ⟨hK5, hA⟩; rw [hv] at hA; obtain ⟨v5, rfl, hr5, hP5⟩ := hA; obtain ⟨aa, na, ca, ab, nb, cb, rfl⟩ := hr5.shape; have hs5 : w4.heap.size ≤ w5.heap.size := hK5.size; have hL5 : VAt w5 (w.heap.size + 1) (.int .i64 6) (.string ⟨#[]⟩) kv2 (.slice a2 st.kids.length p2) := hL.keep (hK5.block (w.heap.size + 1) hL.lt (by omega)); have c35 : w5.cell? ⟨w.heap.size + 1, 3, none⟩ = some (.slice a2 st.kids.length p2) := hL5.cell 3; have c3a : (w5.alloc (.cells #[.int .i64 pr.1.kind, .string (str pr.1.text), .slice aa na ca, .slice ab nb cb] 25)).cell? ⟨w.heap.size + 1, 3, none⟩ = some (.slice a2 st.kids.length p2) := (hL5.keep (Lib.alloc_old w5 _ (w.heap.size + 1) (by omega))).cell 3; have hGa : (w5.alloc (.cells #[.int .i64 pr.1.kind, .string (str pr.1.text), .slice aa na ca, .slice ab nb cb] 25)).ownsRow (w.heap.size + 3) 25 4 (.slice a2 st.kids.length p2) st.kids.length (flat vs) := own_keep hT4.G.own (fun k hk hl => (Lib.alloc_old w5 _ k (by omega)).trans (hK5.block k hl (by omega))); have hnew := cell_four_new w5 (.int .i64 pr.1.kind) (.string (str pr.1.text)) (.slice aa na ca) (.slice ab nb cb) 25; have hLne : some (w.heap.size + 1) ≠ (Value.slice a2 st.kids.length p2).ownBlock := fun e => by have := (hlast _ e.symm).1; omega)
                    | (refine step_append_lies _ rfl (.tmp 34) (.tmp 38) 23 rfl (w.heap.size + 3) 25 i0 (vv (.int .i64 0) (.string ⟨#[]⟩) (.slice none 0 0) (.slice none 0 0)) 4 72 Tryd.underlying23 hi hz0 hz1 hz2 rfl (by decide) _ _ _ rfl hGa ⟨w5.heap.size, 0, none⟩ 1 1 [.int .i64 pr.1.kind, .string (str pr.1.text), .slice aa na ca, .slice ab nb cb] rfl rfl hnew (fun x hx => by simp at hx; rcases hx with rfl | rfl | rfl | rfl <;> rfl) (by decide) (by unfold maxLen; omega) (by omega) (by simp; omega) _ rfl ?_; intro g cap w6 hown' hgrow6 hat hglt; have hL6 : VAt w6 (w.heap.size + 1) (.int .i64 6) (.string ⟨#[]⟩) kv2 (.slice a2 st.kids.length p2) := hL5.keep ((hgrow6.block (w.heap.size + 1) (by simp; omega) hLne).trans (Lib.alloc_old w5 _ (w.heap.size + 1) (by omega))); have c36 : w6.cell? ⟨w.heap.size + 1, 3, none⟩ = some (.slice a2 st.kids.length p2) := hL6.cell 3; have f36 := hL6.free 3))
                  all_goals (
                    have hT6 := hT4.val (st' := ⟨pr.2, st.keys ++ [t], st.kids ++ [pr.1]⟩) hbl ((Kept.refl b w4).drew.trans hK5) hP5 rfl hgrow6 hat (by simp) hr5 hown'
                    generalize w6.setCell ⟨w.heap.size + 1, 3, none⟩ (.slice (some ⟨g, 0, none⟩) (st.kids.length + 1) cap) = W6 at hT6 ⊢
                    have hgo := goesOn_any (c := 125) hT6.P
                    clear hL6 hown' hgrow6 hGa hnew hr5 hP5 hL5 c36 f36 c35 c3a
                    cases hgr : Jsn.goesOn 125 r3 with
                    | err y q =>
                      rw [hgr] at hgo
                      have HZ : Hid (X = .err y q) := by show _ = _; rw [HY.out, hgr]; rfl
                      go_wp2_with (first
                        | (go_at_call 81; refine hgo.mono ?_; rintro e w7 ⟨hK7, hA7⟩; replace hA7 : e = boom s y q := hA7; subst hA7))
                      exact ⟨rfl, hT6.Kp.trans hK7, by rw [HZ.out]; rfl⟩
                    | ok m2 l2 =>
                      rw [hgr] at hgo
                      have hl2 := goes_lt hgr
                      have HZ : Hid (X = if m2 = true then Jsn.loopR (Jsn.stepT (Jsn.valueR k)) 125 ⟨pr.2, st.keys ++ [t], st.kids ++ [pr.1]⟩ l2 else .ok ⟨pr.2, st.keys ++ [t], st.kids ++ [pr.1]⟩ l2) := by show _ = _; rw [HY.out, hgr]; rfl
                      go_wp2_with (first
                        | (go_at_call 81; refine hgo.mono ?_; rintro e w7 ⟨hK7, rfl, hP7⟩))
                      go_roundw
                      case rel =>
                        exact ⟨m2, ⟨pr.2, st.keys ++ [t], st.kids ++ [pr.1]⟩, l2, _, _, _, rfl, hT6.go hK7 hP7 rfl hbl, by simp; omega, by simp; omega, HZ⟩
                      case measure =>
                        cases m2 with
                        | true =>
                          show leftOf b s w7 + 1 < leftOf b s wr + 1
                          rw [hP7.left, HPL.out]
                          omega
                        | false =>
                          show 0 < leftOf b s wr + 1
                          omega)
end Go.Proofs.YtpnmiknikkhliaaDoor
/- The contracts of the parser's nest and value, at every depth. -/
set_option linter.unusedVariables false
set_option linter.unusedSimpArgs false
namespace Go.Proofs.YtpnmiknikkhliaaDoor
open Go.RowKit
/-- A result's own block, laid first: what comes back is stored in it. -/
theorem val_back {b R : Nat} {s r : List UInt8} {w w0 w2 : World} {t : Jsn.J} {m : Nat} {x0 x1 x2 x3 : Value} (hR : R = w.heap.size) (hb : b < R) (hK : Kept b w w2) (hr : RV (R + 1 ≤ ·) w2 t (vv x0 x1 x2 x3)) (hP : Ps b s r m w2) :
    Kept b w (w2.setRow R #[x0, x1, x2, x3]) ∧ RV (w.heap.size ≤ ·) (w2.setRow R #[x0, x1, x2, x3]) t (vv x0 x1 x2 x3) ∧ Ps b s r m (w2.setRow R #[x0, x1, x2, x3]) :=
  ⟨hK.row (by omega) _, RV.keep (by rw [setRow_len]; exact Nat.le_refl _) (fun k hk _ => ⟨by omega, setRow_other _ (by omega)⟩) hr, hP.keep (setRow_other _ (by omega))⟩
/-- What nest reads. -/
def nestK (k : Nat) (c : UInt8) (n : Nat) (r : List UInt8) : Jsn.R (Jsn.J × Nat) := match k with
  | 0 => .err 8 (r.length + 1)
  | k + 1 => Jsn.nestG (Jsn.valueR k) c n r
theorem value_nest (k : Nat) : Jsn.valueR k = Jsn.valueG (nestK k) := by cases k <;> rfl
set_option maxHeartbeats 2000000 in
set_option maxRecDepth 100000 in
theorem nest_any {b n k : Nat} {d : Int} {s r : List UInt8} {c : UInt8} {w : World} (hk : k ≤ 64) (hd : d = 64 - (k : Int)) (hV : ∀ j, k = j + 1 → ValC j (d + 1) b s) (hc : c = 91 ∨ c = 123) (h : Ps b s (c :: r) n w) :
    Calls Tryd.prog 50 #[.pointer (some ⟨b, 0, none⟩), .int .u8 c.toNat, .int .i64 d] w (ValPost b s w (nestK k c n r)) := by
  have hzv := (zero_of_info zeroVal).1
  have hbl := h.lt
  have hlen := h.len
  have hP0 := h.step ((Below.refl _ w).alloc (o := .cells z4 25) (Nat.le_refl _))
  have hK0 : Kept b w (w.alloc (.cells z4 25)) := Kept.of ((Below.refl _ w).alloc (Nat.le_refl _) _)
  have hR0 : VAt (w.alloc (.cells z4 25)) w.heap.size (.int .i64 0) (.string ⟨#[]⟩) (.slice none 0 0) (.slice none 0 0) := heap_alloc_last w _
  obtain ⟨p, hp, c1⟩ := hP0.c1
  have f1 := hP0.free 1
  simp only [List.length_cons] at hp
  unfold ValPost
  cases k with
  | zero =>
    have hd2 : d = 64 := by omega
    subst hd2
    clear hV hd hk hc
    go_enter Tryd.func50, Tryd.ntmps50
    go_wp2_with fail
    obtain rfl : p = s.length - (r.length + 1) := by omega
    exact ⟨rfl, hK0, rfl⟩
  | succ k =>
    have hVk := hV k rfl
    have hlt : ¬ 64 ≤ d := by omega
    have hd0 : 0 ≤ d := by omega
    clear hV hd hk
    obtain ⟨p', hp', c1'⟩ := h.c1
    simp only [List.length_cons] at hp'
    obtain rfl : p' = p := by omega
    have f1' := h.free 1
    have hTS := (h.tail p' hp').step ((Below.refl _ _).alloc (o := .cells z4 25) (Nat.le_refl _))
    have hKS : Kept b w ((w.setCell ⟨b, 1, none⟩ (.int .i64 ((p' : Int) + 1))).alloc (.cells z4 25)) := (Kept.set b 1 _ (.int .i64 ((p' : Int) + 1))).trans (Kept.of ((Below.refl _ _).alloc (Nat.le_refl _) _))
    have hRS : VAt ((w.setCell ⟨b, 1, none⟩ (.int .i64 ((p' : Int) + 1))).alloc (.cells z4 25)) w.heap.size (.int .i64 0) (.string ⟨#[]⟩) (.slice none 0 0) (.slice none 0 0) := by
      have := heap_alloc_last (w.setCell ⟨b, 1, none⟩ (.int .i64 ((p' : Int) + 1))) (.cells z4 25)
      unfold VAt
      rw [show w.heap.size = (w.setCell ⟨b, 1, none⟩ (.int .i64 ((p' : Int) + 1))).heap.size from by simp]
      exact this
    have hdd : IntKind.i64.wrap (d + 1) = d + 1 := by rw [IntKind.wrap_i64]; omega
    rcases hc with rfl | rfl
    · have hC := fun W (hP : Ps b s r n W) => list_any hVk hP
      have hX : nestK (k + 1) 91 n r = (Jsn.nestR (Jsn.stepL (Jsn.valueR k)) 93 ⟨n, [], []⟩ r).map fun st => (.mk 5 [] [] st.kids, st.n) := rfl
      rw [hX]
      generalize (Jsn.nestR (Jsn.stepL (Jsn.valueR k)) 93 ⟨n, [], []⟩ r).map (fun st => (Jsn.J.mk 5 [] [] st.kids, st.n)) = Y at hC ⊢
      clear hX
      cases Y with
      | err y q =>
        go_enter Tryd.func50, Tryd.ntmps50
        go_wp2_with (first
          | (go_at_call 66; refine (hC _ hTS).mono ?_; rintro e w2 ⟨hK2, hA⟩; replace hA : e = boom s y q := hA; subst hA))
        exact ⟨rfl, hKS.trans hK2, rfl⟩
      | ok pr z =>
        go_enter Tryd.func50, Tryd.ntmps50
        go_wp2_with (first
          | (go_at_call 66; refine (hC _ hTS).mono ?_; rintro e w2 ⟨hK2, v2, rfl, hr2, hP2⟩; obtain ⟨aa, na, ca, ab, nb, cb, rfl⟩ := hr2.shape; have hs2 := hK2.size; have hR2 : VAt w2 w.heap.size (.int .i64 0) (.string ⟨#[]⟩) (.slice none 0 0) (.slice none 0 0) := hRS.keep (hK2.block w.heap.size hRS.lt (by omega)))
          | ((with_reducible show wpList _ _ _ ({ op := Op.store 25 _ _, .. } :: _) _ _); refine wpList_store_V _ _ rfl rfl _ _ _ _ _ rfl rfl hR2 (ones_mk _ _ _ _ _ _ _ _) ?_))
        obtain ⟨g1, g2, g3⟩ := val_back (w0 := w) rfl hbl (hKS.trans hK2) (RV.keep (Nat.le_refl _) (fun k hk _ => ⟨by have := hRS.lt; omega, rfl⟩) hr2) hP2
        exact ret_V rfl rfl rfl (setRow_V hR2 _ _ _ _) ⟨g1, _, rfl, g2, g3⟩
    · have hC := fun W (hP : Ps b s r n W) => table_any hVk hP
      have hX : nestK (k + 1) 123 n r = (Jsn.nestR (Jsn.stepT (Jsn.valueR k)) 125 ⟨n, [], []⟩ r).map fun st => (.mk 6 [] st.keys st.kids, st.n) := rfl
      rw [hX]
      generalize (Jsn.nestR (Jsn.stepT (Jsn.valueR k)) 125 ⟨n, [], []⟩ r).map (fun st => (Jsn.J.mk 6 [] st.keys st.kids, st.n)) = Y at hC ⊢
      clear hX
      cases Y with
      | err y q =>
        go_enter Tryd.func50, Tryd.ntmps50
        go_wp2_with (first
          | (go_at_call 67; refine (hC _ hTS).mono ?_; rintro e w2 ⟨hK2, hA⟩; replace hA : e = boom s y q := hA; subst hA))
        exact ⟨rfl, hKS.trans hK2, rfl⟩
      | ok pr z =>
        go_enter Tryd.func50, Tryd.ntmps50
        go_wp2_with (first
          | (go_at_call 67; refine (hC _ hTS).mono ?_; rintro e w2 ⟨hK2, v2, rfl, hr2, hP2⟩; obtain ⟨aa, na, ca, ab, nb, cb, rfl⟩ := hr2.shape; have hs2 := hK2.size; have hR2 : VAt w2 w.heap.size (.int .i64 0) (.string ⟨#[]⟩) (.slice none 0 0) (.slice none 0 0) := hRS.keep (hK2.block w.heap.size hRS.lt (by omega)))
          | ((with_reducible show wpList _ _ _ ({ op := Op.store 25 _ _, .. } :: _) _ _); refine wpList_store_V _ _ rfl rfl _ _ _ _ _ rfl rfl hR2 (ones_mk _ _ _ _ _ _ _ _) ?_))
        obtain ⟨g1, g2, g3⟩ := val_back (w0 := w) rfl hbl (hKS.trans hK2) (RV.keep (Nat.le_refl _) (fun k hk _ => ⟨by have := hRS.lt; omega, rfl⟩) hr2) hP2
        exact ret_V rfl rfl rfl (setRow_V hR2 _ _ _ _) ⟨g1, _, rfl, g2, g3⟩
end Go.Proofs.YtpnmiknikkhliaaDoor
/- The contract of the parser's value, at every depth. -/
set_option linter.unusedVariables false
set_option linter.unusedSimpArgs false
namespace Go.Proofs.YtpnmiknikkhliaaDoor
open Go.RowKit
set_option maxHeartbeats 4000000 in
set_option maxRecDepth 100000 in
theorem value_step {k b : Nat} {d : Int} {s : List UInt8} (hk : k ≤ 64) (hd : d = 64 - (k : Int)) (hV : ∀ j, k = j + 1 → ValC j (d + 1) b s) : ValC k d b s := by
  intro n l w h
  have hzv := (zero_of_info zeroVal).1
  have hbl := h.lt
  have hlen := h.len
  have hcnt := h.cnt
  have hP0 := h.step ((Below.refl _ w).alloc (o := .cells z4 25) (Nat.le_refl _))
  have hK0 : Kept b w (w.alloc (.cells z4 25)) := Kept.of ((Below.refl _ w).alloc (Nat.le_refl _) _)
  have hR0 : VAt (w.alloc (.cells z4 25)) w.heap.size (.int .i64 0) (.string ⟨#[]⟩) (.slice none 0 0) (.slice none 0 0) := heap_alloc_last w _
  have hNest := fun W n c r (hc : c = 91 ∨ c = 123) (hP : Ps b s (c :: r) n W) => nest_any hk hd hV hc hP
  clear hd hV
  rw [value_nest]
  unfold ValPost
  unfold Jsn.valueG
  cases hsk : Jsn.skip l with
  | nil =>
    go_enter Tryd.func38, Tryd.ntmps38
    go_wp2_with (first
      | (go_at_call 49; refine (part_end hP0 hsk).mono ?_; rintro e w1 ⟨rfl, hK1⟩))
    exact ⟨rfl, hK0.trans hK1, rfl⟩
  | cons c r =>
    dsimp only
    by_cases hn : n = 4096
    · rw [if_pos hn]
      subst hn
      go_enter Tryd.func38, Tryd.ntmps38
      go_wp2_with (first
        | (go_at_call 49; refine (part_ok hP0 hsk).mono ?_; rintro e w1 ⟨rfl, hP1, hK1⟩; have c2 := hP1.c2; obtain ⟨p, hp, c1⟩ := hP1.c1; simp only [List.length_cons] at hp))
      obtain rfl : p = s.length - (r.length + 1) := by omega
      exact ⟨rfl, hK0.trans hK1, rfl⟩
    rw [if_neg hn]
    have hn2 : (n : Int) < 4096 := by omega
    have hn3 : ((n : Int) == 4096) = false := beq_eq_false_iff_ne.2 (by omega)
    by_cases hc : c = 91 ∨ c = 123
    · rw [if_pos hc]
      have hNc := fun W (hP : Ps b s (c :: r) (n + 1) W) => hNest W (n + 1) c r hc hP
      clear hNest
      cases hq : nestK k c (n + 1) r with
      | err y q =>
        rw [hq] at hNc
        rcases hc with rfl | rfl
        · skip
          go_enter Tryd.func38, Tryd.ntmps38
          go_wp2_with (first
            | (go_at_call 49; refine (part_ok hP0 hsk).mono ?_; rintro e w1 ⟨rfl, hP1, hK1⟩; have c2 := hP1.c2; have f2 := hP1.free 2; have hP2 : Ps b s (91 :: r) (n + 1) (w1.setCell ⟨b, 2, none⟩ (.int .i64 ((n : Int) + 1))) := hP1.setCnt (n + 1) (by omega); have hK2 : Kept b w (w1.setCell ⟨b, 2, none⟩ (.int .i64 ((n : Int) + 1))) := (hK0.trans hK1).trans (Kept.set _ _ _ _); have hR2 : VAt (w1.setCell ⟨b, 2, none⟩ (.int .i64 ((n : Int) + 1))) w.heap.size (.int .i64 0) (.string ⟨#[]⟩) (.slice none 0 0) (.slice none 0 0) := (hR0.keep (hK1.block _ hR0.lt (by omega))).keep (Below.heap_setCell _ _ _ _ (by show w.heap.size ≠ b; omega)); have hsz := hR2.lt)
            | (go_at_call 50; refine (hNc _ hP2).mono ?_; rintro e w3 ⟨hK3, hA⟩; replace hA : e = boom s y q := hA; subst hA))
          exact ⟨rfl, hK2.trans hK3, rfl⟩
        · skip
          go_enter Tryd.func38, Tryd.ntmps38
          go_wp2_with (first
            | (go_at_call 49; refine (part_ok hP0 hsk).mono ?_; rintro e w1 ⟨rfl, hP1, hK1⟩; have c2 := hP1.c2; have f2 := hP1.free 2; have hP2 : Ps b s (123 :: r) (n + 1) (w1.setCell ⟨b, 2, none⟩ (.int .i64 ((n : Int) + 1))) := hP1.setCnt (n + 1) (by omega); have hK2 : Kept b w (w1.setCell ⟨b, 2, none⟩ (.int .i64 ((n : Int) + 1))) := (hK0.trans hK1).trans (Kept.set _ _ _ _); have hR2 : VAt (w1.setCell ⟨b, 2, none⟩ (.int .i64 ((n : Int) + 1))) w.heap.size (.int .i64 0) (.string ⟨#[]⟩) (.slice none 0 0) (.slice none 0 0) := (hR0.keep (hK1.block _ hR0.lt (by omega))).keep (Below.heap_setCell _ _ _ _ (by show w.heap.size ≠ b; omega)); have hsz := hR2.lt)
            | (go_at_call 50; refine (hNc _ hP2).mono ?_; rintro e w3 ⟨hK3, hA⟩; replace hA : e = boom s y q := hA; subst hA))
          exact ⟨rfl, hK2.trans hK3, rfl⟩
      | ok pr z =>
        rw [hq] at hNc
        rcases hc with rfl | rfl
        · skip
          go_enter Tryd.func38, Tryd.ntmps38
          go_wp2_with (first
            | (go_at_call 49; refine (part_ok hP0 hsk).mono ?_; rintro e w1 ⟨rfl, hP1, hK1⟩; have c2 := hP1.c2; have f2 := hP1.free 2; have hP2 : Ps b s (91 :: r) (n + 1) (w1.setCell ⟨b, 2, none⟩ (.int .i64 ((n : Int) + 1))) := hP1.setCnt (n + 1) (by omega); have hK2 : Kept b w (w1.setCell ⟨b, 2, none⟩ (.int .i64 ((n : Int) + 1))) := (hK0.trans hK1).trans (Kept.set _ _ _ _); have hR2 : VAt (w1.setCell ⟨b, 2, none⟩ (.int .i64 ((n : Int) + 1))) w.heap.size (.int .i64 0) (.string ⟨#[]⟩) (.slice none 0 0) (.slice none 0 0) := (hR0.keep (hK1.block _ hR0.lt (by omega))).keep (Below.heap_setCell _ _ _ _ (by show w.heap.size ≠ b; omega)); have hsz := hR2.lt)
            | (go_at_call 50; refine (hNc _ hP2).mono ?_; rintro e w3 ⟨hK3, v3, rfl, hr3, hP3⟩; obtain ⟨aa, na, ca, ab, nb, cb, rfl⟩ := hr3.shape; have hR3 := hR2.keep (hK3.block _ hR2.lt (by omega)))
            | ((with_reducible show wpList _ _ _ ({ op := Op.store 25 _ _, .. } :: _) _ _); refine wpList_store_V _ _ rfl rfl _ _ _ _ _ rfl rfl hR3 (ones_mk _ _ _ _ _ _ _ _) ?_))
          obtain ⟨g1, g2, g3⟩ := val_back (w0 := w) rfl hbl (hK2.trans hK3) (RV.keep (Nat.le_refl _) (fun k hk _ => ⟨Nat.le_trans (Nat.succ_le_of_lt hsz) hk, rfl⟩) hr3) hP3
          exact ret_V rfl rfl rfl (setRow_V hR3 _ _ _ _) ⟨g1, _, rfl, g2, g3⟩
        · skip
          go_enter Tryd.func38, Tryd.ntmps38
          go_wp2_with (first
            | (go_at_call 49; refine (part_ok hP0 hsk).mono ?_; rintro e w1 ⟨rfl, hP1, hK1⟩; have c2 := hP1.c2; have f2 := hP1.free 2; have hP2 : Ps b s (123 :: r) (n + 1) (w1.setCell ⟨b, 2, none⟩ (.int .i64 ((n : Int) + 1))) := hP1.setCnt (n + 1) (by omega); have hK2 : Kept b w (w1.setCell ⟨b, 2, none⟩ (.int .i64 ((n : Int) + 1))) := (hK0.trans hK1).trans (Kept.set _ _ _ _); have hR2 : VAt (w1.setCell ⟨b, 2, none⟩ (.int .i64 ((n : Int) + 1))) w.heap.size (.int .i64 0) (.string ⟨#[]⟩) (.slice none 0 0) (.slice none 0 0) := (hR0.keep (hK1.block _ hR0.lt (by omega))).keep (Below.heap_setCell _ _ _ _ (by show w.heap.size ≠ b; omega)); have hsz := hR2.lt)
            | (go_at_call 50; refine (hNc _ hP2).mono ?_; rintro e w3 ⟨hK3, v3, rfl, hr3, hP3⟩; obtain ⟨aa, na, ca, ab, nb, cb, rfl⟩ := hr3.shape; have hR3 := hR2.keep (hK3.block _ hR2.lt (by omega)))
            | ((with_reducible show wpList _ _ _ ({ op := Op.store 25 _ _, .. } :: _) _ _); refine wpList_store_V _ _ rfl rfl _ _ _ _ _ rfl rfl hR3 (ones_mk _ _ _ _ _ _ _ _) ?_))
          obtain ⟨g1, g2, g3⟩ := val_back (w0 := w) rfl hbl (hK2.trans hK3) (RV.keep (Nat.le_refl _) (fun k hk _ => ⟨Nat.le_trans (Nat.succ_le_of_lt hsz) hk, rfl⟩) hr3) hP3
          exact ret_V rfl rfl rfl (setRow_V hR3 _ _ _ _) ⟨g1, _, rfl, g2, g3⟩
    rw [if_neg hc]
    clear hNest
    have n91 : c ≠ 91 := fun e => hc (.inl e)
    have n123 : c ≠ 123 := fun e => hc (.inr e)
    clear hc
    have q91 : ((c.toNat : Int) == 91) = false := ne_byte n91
    have q123 : ((c.toNat : Int) == 123) = false := ne_byte n123
    unfold Jsn.plainR
    by_cases h34 : c = 34
    · rw [if_pos h34]
      subst h34
      cases hq : Jsn.quotedR r with
      | err y q =>
        go_enter Tryd.func38, Tryd.ntmps38
        go_wp2_with (first
          | (go_at_call 49; refine (part_ok hP0 hsk).mono ?_; rintro e w1 ⟨rfl, hP1, hK1⟩; have c2 := hP1.c2; have f2 := hP1.free 2; have hP2 : Ps b s (34 :: r) (n + 1) (w1.setCell ⟨b, 2, none⟩ (.int .i64 ((n : Int) + 1))) := hP1.setCnt (n + 1) (by omega); have hK2 : Kept b w (w1.setCell ⟨b, 2, none⟩ (.int .i64 ((n : Int) + 1))) := (hK0.trans hK1).trans (Kept.set _ _ _ _); have hR2 : VAt (w1.setCell ⟨b, 2, none⟩ (.int .i64 ((n : Int) + 1))) w.heap.size (.int .i64 0) (.string ⟨#[]⟩) (.slice none 0 0) (.slice none 0 0) := (hR0.keep (hK1.block _ hR0.lt (by omega))).keep (Below.heap_setCell _ _ _ _ (by show w.heap.size ≠ b; omega)); have hsz := hR2.lt)
          | (go_at_call 51; refine (quoted_any hP2).mono ?_; rintro e w3 ⟨hK3, hA⟩; rw [hq] at hA; replace hA : e = boom s y q := hA; subst hA))
        exact ⟨rfl, hK2.trans hK3, rfl⟩
      | ok t z =>
        go_enter Tryd.func38, Tryd.ntmps38
        go_wp2_with (first
          | (go_at_call 49; refine (part_ok hP0 hsk).mono ?_; rintro e w1 ⟨rfl, hP1, hK1⟩; have c2 := hP1.c2; have f2 := hP1.free 2; have hP2 : Ps b s (34 :: r) (n + 1) (w1.setCell ⟨b, 2, none⟩ (.int .i64 ((n : Int) + 1))) := hP1.setCnt (n + 1) (by omega); have hK2 : Kept b w (w1.setCell ⟨b, 2, none⟩ (.int .i64 ((n : Int) + 1))) := (hK0.trans hK1).trans (Kept.set _ _ _ _); have hR2 : VAt (w1.setCell ⟨b, 2, none⟩ (.int .i64 ((n : Int) + 1))) w.heap.size (.int .i64 0) (.string ⟨#[]⟩) (.slice none 0 0) (.slice none 0 0) := (hR0.keep (hK1.block _ hR0.lt (by omega))).keep (Below.heap_setCell _ _ _ _ (by show w.heap.size ≠ b; omega)); have hsz := hR2.lt)
          | (go_at_call 51; refine (quoted_any hP2).mono ?_; rintro e w3 ⟨hK3, hA⟩; rw [hq] at hA; obtain ⟨rfl, hP3⟩ := hA; have hR3 := hR2.keep (hK3.block _ hR2.lt (by omega)))
          | ((with_reducible show wpList _ _ _ ({ op := Op.store 25 _ _, .. } :: _) _ _); refine wpList_store_V _ _ rfl rfl _ _ _ _ _ rfl rfl hR3 (ones_mk _ _ _ _ _ _ _ _) ?_))
        obtain ⟨g1, g2, g3⟩ := val_back (w0 := w) rfl hbl (hK2.trans hK3) (RV.plain _ _ 4 t) hP3
        exact ret_V rfl rfl rfl (setRow_V hR3 _ _ _ _) ⟨g1, _, rfl, g2, g3⟩
    rw [if_neg h34]
    have q34 : ((c.toNat : Int) == 34) = false := ne_byte h34
    by_cases h110 : c = 110
    · rw [if_pos h110]
      subst h110
      have hw := fun W (hP : Ps b s (110 :: r) (n + 1) W) => word_any (wd := [110, 117, 108, 108]) hP (by simp)
      have hq0 : Jsn.wordR (r.length + 1) Jsn.nullT (110 :: r) = Jsn.wordR (110 :: r).length [110, 117, 108, 108] (110 :: r) := rfl
      rw [hq0]
      cases hq : Jsn.wordR (110 :: r).length [110, 117, 108, 108] (110 :: r) with
      | err y q =>
        go_enter Tryd.func38, Tryd.ntmps38
        go_wp2_with (first
          | (go_at_call 49; refine (part_ok hP0 hsk).mono ?_; rintro e w1 ⟨rfl, hP1, hK1⟩; have c2 := hP1.c2; have f2 := hP1.free 2; have hP2 : Ps b s (110 :: r) (n + 1) (w1.setCell ⟨b, 2, none⟩ (.int .i64 ((n : Int) + 1))) := hP1.setCnt (n + 1) (by omega); have hK2 : Kept b w (w1.setCell ⟨b, 2, none⟩ (.int .i64 ((n : Int) + 1))) := (hK0.trans hK1).trans (Kept.set _ _ _ _); have hR2 : VAt (w1.setCell ⟨b, 2, none⟩ (.int .i64 ((n : Int) + 1))) w.heap.size (.int .i64 0) (.string ⟨#[]⟩) (.slice none 0 0) (.slice none 0 0) := (hR0.keep (hK1.block _ hR0.lt (by omega))).keep (Below.heap_setCell _ _ _ _ (by show w.heap.size ≠ b; omega)); have hsz := hR2.lt)
          | (go_at_call 52; refine (hw _ hP2).mono ?_; rintro e w3 ⟨hK3, hA⟩; rw [hq] at hA; replace hA : e = boom s y q := hA; subst hA))
        exact ⟨rfl, hK2.trans hK3, rfl⟩
      | ok u z =>
        go_enter Tryd.func38, Tryd.ntmps38
        go_wp2_with (first
          | (go_at_call 49; refine (part_ok hP0 hsk).mono ?_; rintro e w1 ⟨rfl, hP1, hK1⟩; have c2 := hP1.c2; have f2 := hP1.free 2; have hP2 : Ps b s (110 :: r) (n + 1) (w1.setCell ⟨b, 2, none⟩ (.int .i64 ((n : Int) + 1))) := hP1.setCnt (n + 1) (by omega); have hK2 : Kept b w (w1.setCell ⟨b, 2, none⟩ (.int .i64 ((n : Int) + 1))) := (hK0.trans hK1).trans (Kept.set _ _ _ _); have hR2 : VAt (w1.setCell ⟨b, 2, none⟩ (.int .i64 ((n : Int) + 1))) w.heap.size (.int .i64 0) (.string ⟨#[]⟩) (.slice none 0 0) (.slice none 0 0) := (hR0.keep (hK1.block _ hR0.lt (by omega))).keep (Below.heap_setCell _ _ _ _ (by show w.heap.size ≠ b; omega)); have hsz := hR2.lt)
          | (go_at_call 52; refine (hw _ hP2).mono ?_; rintro e w3 ⟨hK3, hA⟩; rw [hq] at hA; obtain ⟨rfl, hP3⟩ := hA; have hR3 := hR2.keep (hK3.block _ hR2.lt (by omega)))
          | ((with_reducible show wpList _ _ _ ({ op := Op.store 25 _ _, .. } :: _) _ _); refine wpList_store_V _ _ rfl rfl _ _ _ _ _ rfl rfl hR3 (ones_mk _ _ _ _ _ _ _ _) ?_))
        obtain ⟨g1, g2, g3⟩ := val_back (w0 := w) rfl hbl (hK2.trans hK3) (RV.plain _ _ 1 []) hP3
        exact ret_V rfl rfl rfl (setRow_V hR3 _ _ _ _) ⟨g1, _, rfl, g2, g3⟩
    rw [if_neg h110]
    have q110 : ((c.toNat : Int) == 110) = false := ne_byte h110
    by_cases h116 : c = 116
    · rw [if_pos h116]
      subst h116
      have hw := fun W (hP : Ps b s (116 :: r) (n + 1) W) => word_any (wd := [116, 114, 117, 101]) hP (by simp)
      have hq0 : Jsn.wordR (r.length + 1) Jsn.trueT (116 :: r) = Jsn.wordR (116 :: r).length [116, 114, 117, 101] (116 :: r) := rfl
      rw [hq0]
      cases hq : Jsn.wordR (116 :: r).length [116, 114, 117, 101] (116 :: r) with
      | err y q =>
        go_enter Tryd.func38, Tryd.ntmps38
        go_wp2_with (first
          | (go_at_call 49; refine (part_ok hP0 hsk).mono ?_; rintro e w1 ⟨rfl, hP1, hK1⟩; have c2 := hP1.c2; have f2 := hP1.free 2; have hP2 : Ps b s (116 :: r) (n + 1) (w1.setCell ⟨b, 2, none⟩ (.int .i64 ((n : Int) + 1))) := hP1.setCnt (n + 1) (by omega); have hK2 : Kept b w (w1.setCell ⟨b, 2, none⟩ (.int .i64 ((n : Int) + 1))) := (hK0.trans hK1).trans (Kept.set _ _ _ _); have hR2 : VAt (w1.setCell ⟨b, 2, none⟩ (.int .i64 ((n : Int) + 1))) w.heap.size (.int .i64 0) (.string ⟨#[]⟩) (.slice none 0 0) (.slice none 0 0) := (hR0.keep (hK1.block _ hR0.lt (by omega))).keep (Below.heap_setCell _ _ _ _ (by show w.heap.size ≠ b; omega)); have hsz := hR2.lt)
          | (go_at_call 52; refine (hw _ hP2).mono ?_; rintro e w3 ⟨hK3, hA⟩; rw [hq] at hA; replace hA : e = boom s y q := hA; subst hA))
        exact ⟨rfl, hK2.trans hK3, rfl⟩
      | ok u z =>
        go_enter Tryd.func38, Tryd.ntmps38
        go_wp2_with (first
          | (go_at_call 49; refine (part_ok hP0 hsk).mono ?_; rintro e w1 ⟨rfl, hP1, hK1⟩; have c2 := hP1.c2; have f2 := hP1.free 2; have hP2 : Ps b s (116 :: r) (n + 1) (w1.setCell ⟨b, 2, none⟩ (.int .i64 ((n : Int) + 1))) := hP1.setCnt (n + 1) (by omega); have hK2 : Kept b w (w1.setCell ⟨b, 2, none⟩ (.int .i64 ((n : Int) + 1))) := (hK0.trans hK1).trans (Kept.set _ _ _ _); have hR2 : VAt (w1.setCell ⟨b, 2, none⟩ (.int .i64 ((n : Int) + 1))) w.heap.size (.int .i64 0) (.string ⟨#[]⟩) (.slice none 0 0) (.slice none 0 0) := (hR0.keep (hK1.block _ hR0.lt (by omega))).keep (Below.heap_setCell _ _ _ _ (by show w.heap.size ≠ b; omega)); have hsz := hR2.lt)
          | (go_at_call 52; refine (hw _ hP2).mono ?_; rintro e w3 ⟨hK3, hA⟩; rw [hq] at hA; obtain ⟨rfl, hP3⟩ := hA; have hR3 := hR2.keep (hK3.block _ hR2.lt (by omega)))
          | ((with_reducible show wpList _ _ _ ({ op := Op.store 25 _ _, .. } :: _) _ _); refine wpList_store_V _ _ rfl rfl _ _ _ _ _ rfl rfl hR3 (ones_mk _ _ _ _ _ _ _ _) ?_))
        obtain ⟨g1, g2, g3⟩ := val_back (w0 := w) rfl hbl (hK2.trans hK3) (RV.plain _ _ 2 Jsn.trueT) hP3
        exact ret_V rfl rfl rfl (setRow_V hR3 _ _ _ _) ⟨g1, _, rfl, g2, g3⟩
    rw [if_neg h116]
    have q116 : ((c.toNat : Int) == 116) = false := ne_byte h116
    by_cases h102 : c = 102
    · rw [if_pos h102]
      subst h102
      have hw := fun W (hP : Ps b s (102 :: r) (n + 1) W) => word_any (wd := [102, 97, 108, 115, 101]) hP (by simp)
      have hq0 : Jsn.wordR (r.length + 1) Jsn.falseT (102 :: r) = Jsn.wordR (102 :: r).length [102, 97, 108, 115, 101] (102 :: r) := rfl
      rw [hq0]
      cases hq : Jsn.wordR (102 :: r).length [102, 97, 108, 115, 101] (102 :: r) with
      | err y q =>
        go_enter Tryd.func38, Tryd.ntmps38
        go_wp2_with (first
          | (go_at_call 49; refine (part_ok hP0 hsk).mono ?_; rintro e w1 ⟨rfl, hP1, hK1⟩; have c2 := hP1.c2; have f2 := hP1.free 2; have hP2 : Ps b s (102 :: r) (n + 1) (w1.setCell ⟨b, 2, none⟩ (.int .i64 ((n : Int) + 1))) := hP1.setCnt (n + 1) (by omega); have hK2 : Kept b w (w1.setCell ⟨b, 2, none⟩ (.int .i64 ((n : Int) + 1))) := (hK0.trans hK1).trans (Kept.set _ _ _ _); have hR2 : VAt (w1.setCell ⟨b, 2, none⟩ (.int .i64 ((n : Int) + 1))) w.heap.size (.int .i64 0) (.string ⟨#[]⟩) (.slice none 0 0) (.slice none 0 0) := (hR0.keep (hK1.block _ hR0.lt (by omega))).keep (Below.heap_setCell _ _ _ _ (by show w.heap.size ≠ b; omega)); have hsz := hR2.lt)
          | (go_at_call 52; refine (hw _ hP2).mono ?_; rintro e w3 ⟨hK3, hA⟩; rw [hq] at hA; replace hA : e = boom s y q := hA; subst hA))
        exact ⟨rfl, hK2.trans hK3, rfl⟩
      | ok u z =>
        go_enter Tryd.func38, Tryd.ntmps38
        go_wp2_with (first
          | (go_at_call 49; refine (part_ok hP0 hsk).mono ?_; rintro e w1 ⟨rfl, hP1, hK1⟩; have c2 := hP1.c2; have f2 := hP1.free 2; have hP2 : Ps b s (102 :: r) (n + 1) (w1.setCell ⟨b, 2, none⟩ (.int .i64 ((n : Int) + 1))) := hP1.setCnt (n + 1) (by omega); have hK2 : Kept b w (w1.setCell ⟨b, 2, none⟩ (.int .i64 ((n : Int) + 1))) := (hK0.trans hK1).trans (Kept.set _ _ _ _); have hR2 : VAt (w1.setCell ⟨b, 2, none⟩ (.int .i64 ((n : Int) + 1))) w.heap.size (.int .i64 0) (.string ⟨#[]⟩) (.slice none 0 0) (.slice none 0 0) := (hR0.keep (hK1.block _ hR0.lt (by omega))).keep (Below.heap_setCell _ _ _ _ (by show w.heap.size ≠ b; omega)); have hsz := hR2.lt)
          | (go_at_call 52; refine (hw _ hP2).mono ?_; rintro e w3 ⟨hK3, hA⟩; rw [hq] at hA; obtain ⟨rfl, hP3⟩ := hA; have hR3 := hR2.keep (hK3.block _ hR2.lt (by omega)))
          | ((with_reducible show wpList _ _ _ ({ op := Op.store 25 _ _, .. } :: _) _ _); refine wpList_store_V _ _ rfl rfl _ _ _ _ _ rfl rfl hR3 (ones_mk _ _ _ _ _ _ _ _) ?_))
        obtain ⟨g1, g2, g3⟩ := val_back (w0 := w) rfl hbl (hK2.trans hK3) (RV.plain _ _ 2 Jsn.falseT) hP3
        exact ret_V rfl rfl rfl (setRow_V hR3 _ _ _ _) ⟨g1, _, rfl, g2, g3⟩
    rw [if_neg h102]
    have q102 : ((c.toNat : Int) == 102) = false := ne_byte h102
    cases hq : Jsn.numV (c :: r) with
    | err y q =>
      go_enter Tryd.func38, Tryd.ntmps38
      go_wp2_with (first
        | (go_at_call 49; refine (part_ok hP0 hsk).mono ?_; rintro e w1 ⟨rfl, hP1, hK1⟩; have c2 := hP1.c2; have f2 := hP1.free 2; have hP2 : Ps b s (c :: r) (n + 1) (w1.setCell ⟨b, 2, none⟩ (.int .i64 ((n : Int) + 1))) := hP1.setCnt (n + 1) (by omega); have hK2 : Kept b w (w1.setCell ⟨b, 2, none⟩ (.int .i64 ((n : Int) + 1))) := (hK0.trans hK1).trans (Kept.set _ _ _ _); have hR2 : VAt (w1.setCell ⟨b, 2, none⟩ (.int .i64 ((n : Int) + 1))) w.heap.size (.int .i64 0) (.string ⟨#[]⟩) (.slice none 0 0) (.slice none 0 0) := (hR0.keep (hK1.block _ hR0.lt (by omega))).keep (Below.heap_setCell _ _ _ _ (by show w.heap.size ≠ b; omega)); have hsz := hR2.lt)
        | (go_at_call 53; refine (number_p hP2).mono ?_; rintro e w3 ⟨hK3, hA⟩; rw [hq] at hA; replace hA : e = boom s y q := hA; subst hA))
      exact ⟨rfl, hK2.trans hK3, rfl⟩
    | ok t z =>
      go_enter Tryd.func38, Tryd.ntmps38
      go_wp2_with (first
        | (go_at_call 49; refine (part_ok hP0 hsk).mono ?_; rintro e w1 ⟨rfl, hP1, hK1⟩; have c2 := hP1.c2; have f2 := hP1.free 2; have hP2 : Ps b s (c :: r) (n + 1) (w1.setCell ⟨b, 2, none⟩ (.int .i64 ((n : Int) + 1))) := hP1.setCnt (n + 1) (by omega); have hK2 : Kept b w (w1.setCell ⟨b, 2, none⟩ (.int .i64 ((n : Int) + 1))) := (hK0.trans hK1).trans (Kept.set _ _ _ _); have hR2 : VAt (w1.setCell ⟨b, 2, none⟩ (.int .i64 ((n : Int) + 1))) w.heap.size (.int .i64 0) (.string ⟨#[]⟩) (.slice none 0 0) (.slice none 0 0) := (hR0.keep (hK1.block _ hR0.lt (by omega))).keep (Below.heap_setCell _ _ _ _ (by show w.heap.size ≠ b; omega)); have hsz := hR2.lt)
        | (go_at_call 53; refine (number_p hP2).mono ?_; rintro e w3 ⟨hK3, hA⟩; rw [hq] at hA; obtain ⟨rfl, hP3⟩ := hA; have hR3 := hR2.keep (hK3.block _ hR2.lt (by omega)))
        | ((with_reducible show wpList _ _ _ ({ op := Op.store 25 _ _, .. } :: _) _ _); refine wpList_store_V _ _ rfl rfl _ _ _ _ _ rfl rfl hR3 (ones_mk _ _ _ _ _ _ _ _) ?_))
      obtain ⟨g1, g2, g3⟩ := val_back (w0 := w) rfl hbl (hK2.trans hK3) (RV.plain _ _ 3 t) hP3
      exact ret_V rfl rfl rfl (setRow_V hR3 _ _ _ _) ⟨g1, _, rfl, g2, g3⟩
/-- What value reads, at every depth. -/
theorem value_any : ∀ (k : Nat), k ≤ 64 → ∀ (d : Int) (b : Nat) (s : List UInt8), d = 64 - (k : Int) → ValC k d b s
  | 0, hk, d, b, s, hd => value_step hk hd (fun j e => by cases e)
  | k + 1, hk, d, b, s, hd => value_step hk hd (fun j e => by
      obtain rfl : k = j := by omega
      exact value_any k (by omega) (d + 1) b s (by omega))
end Go.Proofs.YtpnmiknikkhliaaDoor
