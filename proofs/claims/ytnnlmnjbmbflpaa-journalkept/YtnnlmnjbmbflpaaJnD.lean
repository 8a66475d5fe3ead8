/- Records of one's own; the contracts of Scan and Frame. -/
import Derived.Test.YtnnlmnjbmbflpaaJnC
set_option linter.unusedVariables false
set_option linter.unusedSimpArgs false
namespace Go.Proofs.Ytnnlmnjbmbflpaa
open Go.RowKit
namespace Jn
theorem scanF_more (k : Nat) (l : List UInt8) (h : l.length ≤ k) : scanF k l = scan l := by
  obtain ⟨t, e, ht, ha⟩ := scanF_spec k l h
  generalize scanF k l = q at *
  rw [e, scan_frames q t ha ht]
theorem scan_none {l : List UInt8} (h : first l = none) : scan l = [] := by
  have := scan_frames [] l (fun r hr => by simp at hr) h
  simpa [frames] using this
theorem scan_some {l r : List UInt8} (h : first l = some r) : scan l = r :: scan (l.drop (8 + r.length)) := by
  have h1 := (first_some h).2.2
  have h2 : scan l = scanF (l.length + 1) l := (scanF_more _ l (by omega)).symm
  rw [h2, scanF, h]
  show r :: scanF l.length (l.drop (8 + r.length)) = _
  rw [scanF_more _ _ (by rw [List.length_drop]; omega)]
end Jn
theorem row_keep {w w' : World} {B : Nat} {e : TypeId} {s n : Nat} {v : Value} {xs : List Value} (h : w.ownsRow B e s v n xs) (hk : ∀ k, v.ownBlock = some k → k < w.heap.size → w'.heap[k]? = w.heap[k]?) : w'.ownsRow B e s v n xs := by
  refine ⟨h.1, ?_⟩
  rcases h.2 with hn | ⟨g, cap, cur, rfl, hb, hgg, rest⟩
  · exact .inl hn
  · exact .inr ⟨g, cap, cur, rfl, hb, by rw [hk g rfl (Array.getElem?_eq_some_iff.1 hgg).1]; exact hgg, rest⟩
/-- A row of rows of bytes of one's own, from block B on. -/
structure OR' (w : World) (B : Nat) (v : Value) (rs : List (List UInt8)) (xs : List Value) : Prop where
  len : xs.length = rs.length
  row : w.ownsRow B 27 1 v rs.length xs
  each : ∀ (j : Nat) x r, xs[j]? = some x → rs[j]? = some r → OwnsBytes w B x r ∧ Ap x v
def OR (w : World) (B : Nat) (v : Value) (rs : List (List UInt8)) : Prop := ∃ xs, OR' w B v rs xs
theorem OR.nil (w : World) (B : Nat) : OR w B (.slice none 0 0) [] := ⟨[], rfl, World.ownsRow_nil _ _ _ _, fun j x r h => by simp at h⟩
theorem OR.keep {w w' : World} {B : Nat} {v : Value} {rs : List (List UInt8)} (h : OR w B v rs) (hk : ∀ k, B ≤ k → k < w.heap.size → w'.heap[k]? = w.heap[k]?) : OR w' B v rs := by
  obtain ⟨xs, h⟩ := h
  refine ⟨xs, h.len, row_keep h.row (fun k e hl => hk k (World.ownsRow.lt h.row k e).1 hl), fun j x r h1 h2 => ⟨?_, (h.each j x r h1 h2).2⟩⟩
  have := (h.each j x r h1 h2).1
  exact this.keep (fun k e hl => hk k (this.lt e).1 hl)
theorem OR.below {w w' : World} {B : Nat} {v : Value} {rs : List (List UInt8)} (h : OR w B v rs) (hB : Below w.heap.size w w') : OR w' B v rs := h.keep (fun k _ hk => hB.block k hk)
theorem OR.form {w : World} {B : Nat} {v : Value} {rs : List (List UInt8)} (h : OR w B v rs) : ∃ a c, v = .slice a rs.length c := by
  obtain ⟨xs, h⟩ := h
  rcases h.row.2 with ⟨rfl, hz⟩ | ⟨g, cap, cur, rfl, _⟩
  · exact ⟨none, 0, by rw [hz]⟩
  · exact ⟨_, _, rfl⟩
theorem OR.rbs {w : World} {B : Nat} {v : Value} {rs : List (List UInt8)} (h : OR w B v rs) : RBs w v rs := by
  obtain ⟨xs, h⟩ := h
  have h0 := h.row
  rcases h.row.2 with ⟨rfl, hz⟩ | ⟨g, cap, cur, rfl, _, hg, hc, _⟩
  · exact .inl ⟨_, _, rfl, List.eq_nil_of_length_eq_zero hz⟩
  · refine .inr ⟨g, 0, cap, rfl, hc, fun j r hj => ?_⟩
    have hlt : j < rs.length := (List.getElem?_eq_some_iff.1 hj).1
    have := World.ownsRow.cellAt (w := w) (base := B) (e := 27) (size := 1) (g := g) (cap := cap) (n := rs.length) (xs := xs) h0 j (by omega)
    have hxl : j < xs.length := by rw [h.len]; exact hlt
    have hxj : xs[j]? = some xs[j] := List.getElem?_eq_getElem hxl
    exact ⟨xs[j], by rw [Nat.zero_add, this, hxj], (h.each j _ r hxj hj).1.reads⟩
theorem infoSl : (Try.prog.info? 27).map (fun i => (i.zero, i.size, i.bytes)) = some (some (.slice none 0 0), 1, 24) := by kernel_rfl
theorem slice_one {w : World} {B : Nat} {x : Value} {r : List UInt8} (h : OwnsBytes w B x r) : x.oneCell' = true := by
  obtain ⟨a, c, rfl⟩ := h.form
  rfl
/-- One further record. -/
theorem run_append_rec (w : World) (ty : TypeId) (B : Nat) (v : Value) (rs : List (List UInt8)) (h : OR w B v rs) (g c : Nat) (x : Value) (r : List UInt8) (hx : w.cell? ⟨g, 0, none⟩ = some x) (ho : OwnsBytes w B x r) (hap : Ap x v) (hlen : rs.length ≤ 10000000) (hB : B ≤ w.heap.size) :
    ∃ v' w', (Builtin.append_ #[54, 54] ty #[v, .slice (some ⟨g, 0, none⟩) 1 c]).run Try.prog w = .ok v' w' ∧ OR w' B v' (rs ++ [r]) ∧ w.grownBy w' v.ownBlock := by
  obtain ⟨i0, hi, hz0, hz1, hz2⟩ := info_parts infoSl
  obtain ⟨xs, h⟩ := h
  obtain ⟨v', w', h1, h2, h3, _, h5⟩ := run_append_own_at (P := Try.prog) w B 54 ty 27 i0 (.slice none 0 0) 1 24 Try.underlying54 hi hz0 hz1 hz2 rfl (by decide) v _ _ h.row ⟨g, 0, none⟩ 1 c [x] rfl (fun j u hj => by
    rcases j with _ | j
    · simp at hj
      subst hj
      rw [add_addr]
      exact hx
    · simp at hj) (fun u hu => by simp at hu; subst hu; exact slice_one ho) (by unfold maxLen; omega) (by omega) hB
  have hk : ∀ y q, OwnsBytes w B y q → Ap y v → OwnsBytes w' B y q ∧ Ap y v' := fun y q hy ha => ⟨hy.keep (fun k e hl => h3.block k hl (fun e2 => ha k e e2.symm)), fun k e1 e2 => by
    rcases h5 with e | e
    · exact ha k e1 (by rw [← e]; exact e2)
    · rw [e] at e2
      cases e2
      have := (hy.lt e1).2
      omega⟩
  refine ⟨v', w', h1, ⟨xs ++ [x], by simp [h.len], by rw [List.length_append]; exact h2, fun j y q hj hq => ?_⟩, h3⟩
  by_cases hlt : j < rs.length
  · rw [List.getElem?_append_left (by rw [h.len]; exact hlt)] at hj
    rw [List.getElem?_append_left hlt] at hq
    exact hk y q (h.each j y q hj hq).1 (h.each j y q hj hq).2
  · have hje : j = rs.length := by
      have := (List.getElem?_eq_some_iff.1 hq).1
      simp at this
      omega
    subst hje
    rw [List.getElem?_append_right (by rw [h.len]; exact Nat.le_refl _), h.len] at hj
    rw [List.getElem?_append_right (Nat.le_refl _)] at hq
    simp at hj hq
    subst hj
    subst hq
    exact hk x r ho hap
theorem wpList_append_rec {w : World} {ops : Array Oper} {rest : List Oper} {o : Oper} {a : Act} {Q : Exit → Act → World → Prop} (hgd : o.guard = none) (s x : Operand)
    (ho : o.op = .call { callee := .builtin .append, args := #[s, x], argTypes := #[54, 54] }) (B : Nat) (v : Value) (rs : List (List UInt8)) (hs : a.eval s = v) (hown : OR w B v rs) (g c : Nat) (hx : a.eval x = .slice (some ⟨g, 0, none⟩) 1 c) (y : Value) (r : List UInt8) (hg : w.cell? ⟨g, 0, none⟩ = some y) (hy : OwnsBytes w B y r) (hap : Ap y v) (hlen : rs.length ≤ 10000000) (hB : B ≤ w.heap.size)
    (h : ∀ v' w', OR w' B v' (rs ++ [r]) → w.grownBy w' v.ownBlock → wpList Try.prog ops Q rest (a.put o.dst v') w') : wpList Try.prog ops Q (o :: rest) a w :=
  wpList_plain hgd fun _ hK => by
    obtain ⟨v', w', hr, h2, h3⟩ := run_append_rec w o.type B v rs hown g c y r hg hy hap hlen hB
    unfold Oper.wp execOp
    simp only [ho, resolve, invoke, builtin, Sem.run_bind, Sem.run_pure, Result.andThen_ok, List.map_toArray, List.map_cons, List.map_nil, hs, hx, hr]
    exact hK _ _ (h v' w' h2 h3)
theorem box_at9 (w : World) (v : Value) (t : TypeId) : (w.alloc (.cells #[v] t)).cell? ⟨w.heap.size, 0, none⟩ = some v := by rw [Lib.cell_of_heap (heap_new w _)]; rfl
theorem OR.at_base {w : World} {B : Nat} {v : Value} {rs : List (List UInt8)} (h : OR w B v rs) {k : Nat} (hk : v.ownBlock = some k) : B ≤ k ∧ k < w.heap.size := by
  obtain ⟨xs, h⟩ := h
  exact World.ownsRow.lt h.row k hk
set_option maxHeartbeats 4000000 in
set_option maxRecDepth 100000 in
theorem Scan_any {w : World} {v : Value} {l : List UInt8} (hv : RB w v l) (hl : l.length ≤ 1100000) :
    Calls Try.prog 38 #[v] w fun e w' => ∃ u, e = .returned (.tuple #[u, .int .i64 ((Jn.frames (Jn.scan l)).length : Int)]) ∧ OR w' w.heap.size u (Jn.scan l) ∧ Below w.heap.size w w' := by
  obtain ⟨a, cp, rfl⟩ := RB.form hv
  have HV := hide9 hv
  clear hv
  go_enter Try.func38, Try.ntmps38
  go_wp2
  go_loopw [4, 5] (fun x s wr => ∃ (rs : List (List UInt8)) (xv : Value) (n : Nat), x = xv ∧ s = .int .i64 n ∧ Hid (Jn.scan l = rs ++ Jn.scan (l.drop n)) ∧ n ≤ l.length ∧ Hid (n = (Jn.frames rs).length) ∧ OR wr w.heap.size xv rs ∧ Below w.heap.size w wr) (fun _ s _ => l.length - (intOf s).toNat)
  case atStart => exact ⟨[], _, 0, rfl, rfl, (rfl : Jn.scan l = [] ++ Jn.scan (l.drop 0)), Nat.zero_le _, (rfl : 0 = (Jn.frames []).length), OR.nil _ _, Below.refl _ _⟩
  case round =>
    obtain ⟨rs, xv, n, rfl, rfl, HS, hn, HN, hO, hB⟩ := hrel
    obtain ⟨ma, mc, s1, q1, _⟩ := cut_from (HV.out.below hB) n hn
    have hdl : (l.drop n).length = l.length - n := List.length_drop
    obtain ⟨m, HM⟩ : ∃ m, Hid (m = l.length - n) := ⟨_, rfl⟩
    rw [← HM.out] at s1 q1
    have hrl : rs.length ≤ n := by rw [HN.out]; exact Jn.frames_length rs
    have C1 := first_any q1 (by omega)
    have HO := hide9 hO
    have HB := hide9 hB
    obtain ⟨xa, xc, rfl⟩ := hO.form
    clear hO hB
    cases hf : Jn.first (l.drop n) with
    | none =>
      have HE : Hid (Jn.scan l = rs) := by
        show Jn.scan l = rs
        rw [HS.out, Jn.scan_none hf, List.append_nil]
      rw [hf] at C1
      clear hf hdl q1
      go_wp2_with (go_at_call 67; refine C1.mono ?_; rintro e w1 ⟨u, rfl, _, hB1⟩)
      go_ret2
      rw [HE.out, ← HN.out]
      exact ⟨_, rfl, HO.out.below hB1, bel HB.out hB1⟩
    | some r =>
      obtain ⟨f1, _, f3⟩ := Jn.first_some hf
      rw [hdl] at f3
      have HE : Hid (Jn.scan l = (rs ++ [r]) ++ Jn.scan (l.drop (n + (8 + r.length)))) := by
        show Jn.scan l = _
        rw [HS.out, Jn.scan_some hf, List.drop_drop, List.append_assoc]
        rfl
      have HF : Hid (n + (8 + r.length) = (Jn.frames (rs ++ [r])).length) := by
        show n + (8 + r.length) = _
        rw [Jn.frames_app, List.length_append, ← HN.out]
        simp [Jn.frames, Jn.frame_length]
      have hr9 := f1.2
      rw [hf] at C1
      have HQ := hide9 (fun r (hr : (some r : Option (List UInt8)) = some r) => hr)
      clear hf hdl q1 f1
      go_wp2_with (first
        | (go_at_call 67; refine C1.mono ?_; rintro e w1 ⟨u, rfl, hu, hB1⟩; have hu1 := (hu r rfl).below hB1; obtain ⟨ua, uc, rfl⟩ := hu1.form; have C2 := Clone_any hu1 (by omega); clear hu hu1 C1)
        | (go_at_call 55; refine C2.mono ?_; rintro e w2 ⟨u2, rfl, ho2, hB2⟩; have hO2 := HO.out.below (bel hB1 hB2); obtain ⟨ya, yc, rfl⟩ := ho2.form; clear C2)
        | (refine wpList_append_rec rfl (.tmp 19) (.tmp 22) rfl w.heap.size _ _ rfl (hO2.below (alloc1 w2 _)) w2.heap.size _ rfl _ r (box_at9 w2 _ _) ((ho2.base (fun k e => Nat.le_trans (Nat.le_trans HB.out.size hB1.size) (ho2.lt e).1)).low9 (alloc1 w2 _)) (fun k e1 e2 => by have := (HO.out.at_base e2).2; have := (ho2.lt e1).1; have := hB1.size; omega) (by omega) (by rw [size_alloc]; have := HB.out.size; have := hB1.size; have := hB2.size; omega) ?_; intro v3 w3 h31 h32))
      refine ⟨⟨rs ++ [r], _, n + (8 + r.length), rfl, by go_num, HE, by omega, HF, h31, ?_⟩, by simp [intOf]; omega⟩
      have hB9 := bel (bel HB.out hB1) hB2
      exact (hB9.alloc hB9.size _).grown h32 (by rw [size_alloc]; have := hB9.size; omega) (fun k hk => (HO.out.at_base hk).1)
theorem own_nil {w w' : World} (h : Own (fun k => (Value.slice none 0 0).ownBlock = some k) w w') : Below w.heap.size w w' := ⟨h.os, h.tape, h.output, h.size, fun k hk => h.block k hk (fun e => by cases e)⟩
set_option maxHeartbeats 2000000 in
set_option maxRecDepth 100000 in
theorem Frame_yes {w : World} {v : Value} {l : List UInt8} (hv : RB w v l) (h : Jn.isRec l) :
    Calls Try.prog 36 #[v] w fun e w' => ∃ u, e = .returned (.tuple #[u, .int .i64 0]) ∧ OwnsBytes w' w.heap.size u (Jn.frame l) ∧ Below w.heap.size w w' := by
  obtain ⟨a, c, rfl⟩ := hv.form
  obtain ⟨h1, h2⟩ := h
  obtain ⟨xs, hx⟩ := (RBs.one w _ l hv 27).x
  have C1 := isRecord_any (l.length : Int)
  rw [show (decide (1 ≤ (l.length : Int)) && decide ((l.length : Int) ≤ 16384)) = true by simp; omega] at C1
  have C2 := frames_any (OwnsBytes.nil (w.alloc (.cells #[.slice a l.length c] 27)) 0) (fun w' hO => hx.below (own_nil hO)) (fun r hr => by simp at hr; subst hr; omega) (by simp [Jn.frames, Jn.frame_length]; omega)
  replace C1 := hide9 C1
  clear hx hv
  go_enter Try.func36, Try.ntmps36
  go_wp2_with (first
    | (go_at_call 63; refine (C1.out _).mono ?_; rintro e w3 ⟨rfl, he⟩; replace he := he.symm; subst he)
    | (go_at_call 64; refine C2.mono ?_; rintro e w4 ⟨u, rfl, ho, hg⟩))
  go_ret2
  refine ⟨_, rfl, ?_, bel (alloc1 w _) hg.nil⟩
  rw [show [] ++ Jn.frames [l] = Jn.frame l by simp [Jn.frames]] at ho
  exact ho.base (fun k hk => by have := hg.new hk; rw [size_alloc] at this; omega)
set_option maxHeartbeats 2000000 in
set_option maxRecDepth 100000 in
theorem Frame_no {w : World} {v : Value} {l : List UInt8} (hv : RB w v l) (hl : l.length ≤ maxLen) (h : ¬ Jn.isRec l) :
    Calls Try.prog 36 #[v] w fun e w' => e = .returned (.tuple #[.slice none 0 0, .int .i64 1]) ∧ w' = w := by
  obtain ⟨a, c, rfl⟩ := hv.form
  have C1 := isRecord_any (l.length : Int)
  rw [show (decide (1 ≤ (l.length : Int)) && decide ((l.length : Int) ≤ 16384)) = false by unfold Jn.isRec at h; simp; omega] at C1
  replace C1 := hide9 C1
  unfold maxLen at hl
  clear hv h
  go_enter Try.func36, Try.ntmps36
  go_wp2_with (go_at_call 63; refine (C1.out _).mono ?_; rintro e w3 ⟨rfl, he⟩; replace he := he.symm; subst he)
  go_ret2
  exact ⟨rfl, rfl⟩
end Go.Proofs.Ytnnlmnjbmbflpaa
