/- Rows of attributes: how they read, those of a call's own; the contract of token.add. -/
import Derived.Test.YtiodaahncadodaaGreatDoorKTkB
import Derived.Test.YtiodaahncadodaaGreatDoorKGround
import Derived.Test.YtiodaahncadodaaGreatDoorKUPut
set_option linter.unusedVariables false
set_option linter.unusedSimpArgs false
namespace Go.Proofs.YtiodaahncadodaaGreatDoor
open Go.RowKit
abbrev Pr := List UInt8 × List UInt8
def pairCells (ps : List Pr) : List Value := ps.flatMap fun p => [strV p.1, strV p.2]
theorem pairCells_snoc (ps : List Pr) (p : Pr) : pairCells (ps ++ [p]) = pairCells ps ++ [strV p.1, strV p.2] := by simp [pairCells]
theorem pairCells_length : ∀ ps : List Pr, (pairCells ps).length = ps.length * 2
  | [] => rfl
  | p :: ps => by
    have := pairCells_length ps
    simp only [pairCells, List.flatMap_cons, List.length_append, List.length_cons, List.length_nil] at this ⊢
    omega
theorem pairCells_at : ∀ (ps : List Pr) (j : Nat) (p : Pr), ps[j]? = some p → (pairCells ps)[j * 2]? = some (strV p.1) ∧ (pairCells ps)[j * 2 + 1]? = some (strV p.2)
  | [], j, p, h => by simp at h
  | q :: ps, 0, p, h => by
    simp at h
    subst h
    exact ⟨rfl, rfl⟩
  | q :: ps, j + 1, p, h => by
    have := pairCells_at ps j p (by simpa using h)
    have e : pairCells (q :: ps) = strV q.1 :: strV q.2 :: pairCells ps := rfl
    rw [e, show (j + 1) * 2 = j * 2 + 1 + 1 from by omega]
    simpa using this
/-- The slice owns these pairs, in memory from 'B' on; 't' is the pair's own type. -/
def OwnsPairs (t : TypeId) (w : World) (B : Nat) (v : Value) (ps : List Pr) : Prop := w.ownsRow B t 2 v ps.length (pairCells ps)
theorem OwnsPairs.nil (t : TypeId) (w : World) (B : Nat) : OwnsPairs t w B (.slice none 0 0) [] := World.ownsRow_nil _ _ _ _
theorem OwnsPairs.of {t : TypeId} {w : World} {B : Nat} {v x y : Value} {ps qs : List Pr} {p : Pr} (h : qs = ps ++ [p]) (hx : strV p.1 = x) (hy : strV p.2 = y) (ho : w.ownsRow B t 2 v (ps.length + 1) (pairCells ps ++ [x, y])) : OwnsPairs t w B v qs := by
  subst h; subst hx; subst hy
  unfold OwnsPairs
  rw [pairCells_snoc, List.length_append]
  exact ho
/-- The slice reads as these pairs. -/
def ReadsPairs (w : World) (v : Value) (ps : List Pr) : Prop :=
  (∃ a c, v = .slice a 0 c ∧ ps = []) ∨ ∃ b o c, v = .slice (some ⟨b, o, none⟩) ps.length c ∧ ps.length ≤ c ∧ ∀ (j : Nat) p, ps[j]? = some p → w.cell? ⟨b, o + j * 2, none⟩ = some (strV p.1) ∧ w.cell? ⟨b, o + j * 2 + 1, none⟩ = some (strV p.2)
theorem ReadsPairs.form {w : World} {v : Value} {ps : List Pr} (h : ReadsPairs w v ps) : ∃ a c, v = .slice a ps.length c := by
  rcases h with ⟨a, c, rfl, rfl⟩ | ⟨b, o, c, rfl, _, _⟩
  · exact ⟨_, _, rfl⟩
  · exact ⟨_, _, rfl⟩
theorem ReadsPairs.at {w : World} {a : Option Addr} {n c : Nat} {ps : List Pr} {k : Nat} {p : Pr} (h : ReadsPairs w (.slice a n c) ps) (hp : ps[k]? = some p) :
    ∃ b o, a = some ⟨b, o, none⟩ ∧ ps.length ≤ c ∧ b < w.heap.size ∧ w.cell? ⟨b, o + k * 2, none⟩ = some (.string (str p.1)) ∧ w.cell? ⟨b, o + k * 2 + 1, none⟩ = some (.string (str p.2)) := by
  rcases h with ⟨a, c, _, rfl⟩ | ⟨b, o, c, h1, h2, h3⟩
  · simp at hp
  · cases h1
    exact ⟨b, o, rfl, h2, cell_lt (h3 k p hp).1, h3 k p hp⟩
theorem ReadsPairs.below {w w' : World} {v : Value} {ps : List Pr} (h : ReadsPairs w v ps) (hb : Below w.heap.size w w') : ReadsPairs w' v ps := by
  rcases h with h | ⟨b, o, c, rfl, hc, hr⟩
  · exact .inl h
  · refine .inr ⟨b, o, c, rfl, hc, fun j p hj => ?_⟩
    have := hr j p hj
    exact ⟨(hb.cell (p := ⟨b, o + j * 2, none⟩) (cell_lt this.1)).trans this.1, (hb.cell (p := ⟨b, o + j * 2 + 1, none⟩) (cell_lt this.2)).trans this.2⟩
theorem OwnsPairs.reads {t : TypeId} {w : World} {B : Nat} {v : Value} {ps : List Pr} (h : OwnsPairs t w B v ps) : ReadsPairs w v ps := by
  rcases h.2 with ⟨rfl, h0⟩ | ⟨g, cap, cur, rfl, _, hg, hc, _, hcs, ht⟩
  · exact .inl ⟨_, _, rfl, List.eq_nil_of_length_eq_zero h0⟩
  · refine .inr ⟨g, 0, cap, rfl, hc, fun j p hj => ?_⟩
    have hlt : j < ps.length := (List.getElem?_eq_some_iff.1 hj).1
    have e := pairCells_at ps j p hj
    have e1 := World.ownsRow.cellAt (w := w) (base := B) (e := t) (size := 2) (g := g) (cap := cap) (n := ps.length) (xs := pairCells ps) h (j * 2) (by omega)
    have e2 := World.ownsRow.cellAt (w := w) (base := B) (e := t) (size := 2) (g := g) (cap := cap) (n := ps.length) (xs := pairCells ps) h (j * 2 + 1) (by omega)
    rw [Nat.zero_add, e1, e2]
    exact e
theorem ownsRow_below {w w' : World} {B : Nat} {e : TypeId} {size n : Nat} {v : Value} {xs : List Value} (h : w.ownsRow B e size v n xs) (hb : Below w.heap.size w w') : w'.ownsRow B e size v n xs := by
  refine ⟨h.1, ?_⟩
  rcases h.2 with h0 | ⟨g, cap, cur, hv, h1, hg, hc⟩
  · exact .inl h0
  · exact .inr ⟨g, cap, cur, hv, h1, (hb.block g (Array.getElem?_eq_some_iff.1 hg).1).trans hg, hc⟩
theorem infoAttr : (Tryz.prog.info? 67).map (fun i => (i.zero, i.size, i.bytes)) = some (some (.agg #[.string ByteArray.empty, .string ByteArray.empty]), 2, 32) := by kernel_rfl
abbrev OwnsA (w : World) (B : Nat) (v : Value) (ps : List Pr) : Prop := OwnsPairs 67 w B v ps
theorem str_beq (n q : List UInt8) : ((str n).toList == (str q).toList) = (n == q) := by rw [str_list, str_list]
set_option maxHeartbeats 1000000 in
theorem addFn_any (n v q : List UInt8) (g : Nat) (w : World) (hg : w.cell? ⟨g, 0, none⟩ = some (.string (str q))) :
    Calls Tryz.prog 182 #[.agg #[.string (str n), .string (str v)], .pointer (some ⟨g, 0, none⟩)] w fun e w' => e = .returned (.bool (n == q)) ∧ Below w.heap.size w w' := by
  have hlt := cell_lt hg
  have hb : Below w.heap.size w (w.alloc (.cells #[.string (str n), .string (str v)] 67)) := (Below.refl _ w).alloc (Nat.le_refl _) _
  have hg2 := (hb.cell (p := ⟨g, 0, none⟩) hlt).trans hg
  go_enter Tryz.func182, Tryz.ntmps182
  go_wp2
  go_ret
  exact ⟨ret_bool (str_beq n q), hb⟩
theorem has_take (ats : List Pr) (q : List UInt8) (j : Nat) (h : j < ats.length) : Tk.has (ats.take (j + 1)) q = (Tk.has (ats.take j) q || ats[j].1 == q) := by
  unfold Tk.has
  rw [List.take_succ_eq_append_getElem h, List.any_append]
  simp
theorem has_here (ats : List Pr) (q : List UInt8) (j : Nat) (h : j < ats.length) (hq : (ats[j].1 == q) = true) : Tk.has ats q = true := by
  unfold Tk.has
  rw [List.any_eq_true]
  exact ⟨ats[j], List.getElem_mem h, hq⟩
set_option maxHeartbeats 1000000 in
theorem attrIndex_any (ats : List Pr) (v : Value) (q : List UInt8) (g : Nat) (w : World) (hg : w.cell? ⟨g, 0, none⟩ = some (.string (str q))) (hv : ReadsPairs w v ats) (hl : ats.length ≤ 1000000) :
    Calls Tryz.prog 99 #[v, .func (.func 182) #[] #[.pointer (some ⟨g, 0, none⟩)]] w fun e w' => (∃ r, e = .returned (.int .i64 r) ∧ decide (0 ≤ r) = Tk.has ats q) ∧ Below w.heap.size w w' := by
  obtain ⟨a, c, rfl⟩ := hv.form
  have HV := hideT hv
  have hlt := cell_lt hg
  clear hv
  go_enter Tryz.func99, Tryz.ntmps99
  go_wp2
  go_loopw [8] (fun i wr => ∃ j : Nat, i = .int .i64 j ∧ j ≤ ats.length ∧ Hid (Tk.has (ats.take j) q = false) ∧ Below w.heap.size w wr) (fun i _ => ats.length - (intOf i).toNat)
  case atStart => exact ⟨0, rfl, Nat.zero_le _, rfl, Below.refl _ _⟩
  case round =>
    obtain ⟨j, rfl, hj, HE, hB⟩ := hrel
    by_cases hjl : j < ats.length
    · have hat : ats[j]? = some ats[j] := List.getElem?_eq_getElem hjl
      obtain ⟨b, o, rfl, hc, hbl, h1, h2⟩ := HV.out.at hat
      have g1 := (hB.cell (p := ⟨b, o + j * 2, none⟩) hbl).trans h1
      have g2 := (hB.cell (p := ⟨b, o + j * 2 + 1, none⟩) hbl).trans h2
      have gg := (hB.cell (p := ⟨g, 0, none⟩) hlt).trans hg
      have hF := addFn_any ats[j].1 ats[j].2 q g wr gg
      cases hq : (ats[j].1 == q)
      · have HN : Hid (Tk.has (ats.take (j + 1)) q = false) := by
          show _ = _
          rw [has_take ats q j hjl, HE.out, hq]
          rfl
        rw [hq] at hF
        clear hat h1 h2 gg hq
        generalize ats[j] = p at *
        go_wp2_with (go_at_call 182; refine hF.mono ?_; rintro e w1 ⟨rfl, hb1⟩)
        go_roundw
        case rel => exact ⟨j + 1, by go_num, by omega, HN, hB.trans (hb1.mono hB.size)⟩
        case measure => simp [intOf]; omega
      · have HN : Hid (Tk.has ats q = true) := has_here ats q j hjl hq
        rw [hq] at hF
        clear hat h1 h2 gg hq
        generalize ats[j] = p at *
        go_wp2_with (go_at_call 182; refine hF.mono ?_; rintro e w1 ⟨rfl, hb1⟩)
        go_ret
        exact ⟨⟨_, rfl, by rw [HN.out]; simp⟩, hB.trans (hb1.mono hB.size)⟩
    · have HN : Hid (Tk.has ats q = false) := by
        have h := HE.out
        rwa [List.take_of_length_le (by omega)] at h
      go_wp2
      go_ret
      exact ⟨⟨_, rfl, by rw [HN.out]; rfl⟩, hB⟩
set_option maxHeartbeats 1000000 in
theorem attrHas_any (ats : List Pr) (v : Value) (q : List UInt8) (g : Nat) (w : World) (hg : w.cell? ⟨g, 0, none⟩ = some (.string (str q))) (hv : ReadsPairs w v ats) (hl : ats.length ≤ 1000000) :
    Calls Tryz.prog 62 #[v, .func (.func 182) #[] #[.pointer (some ⟨g, 0, none⟩)]] w fun e w' => e = .returned (.bool (Tk.has ats q)) ∧ Below w.heap.size w w' := by
  have hI := attrIndex_any ats v q g w hg hv hl
  obtain ⟨a, c, rfl⟩ := hv.form
  clear hv hg
  go_enter Tryz.func62, Tryz.ntmps62
  go_wp2_with (go_at_call 99; refine hI.mono ?_; rintro e w1 ⟨⟨r, rfl, hr⟩, hK1⟩)
  go_ret
  exact ⟨by first | rfl | (rw [← hr]; rfl), hK1⟩
theorem OwnsPairs.below {t : TypeId} {w w' : World} {B : Nat} {v : Value} {ps : List Pr} (h : OwnsPairs t w B v ps) (hb : Below w.heap.size w w') : OwnsPairs t w' B v ps := ownsRow_below h hb
theorem OwnsPairs.kept {t : TypeId} {w w' : World} {B b : Nat} {v : Value} {ps : List Pr} (h : OwnsPairs t w B v ps) (hk : Kept b w w') (hb : b < B) : OwnsPairs t w' B v ps := by
  refine ⟨h.1, ?_⟩
  rcases h.2 with h0 | ⟨g, cap, cur, hv, h1, hg, hc⟩
  · exact .inl h0
  · exact .inr ⟨g, cap, cur, hv, h1, hk.heap hg (by omega), hc⟩
set_option maxHeartbeats 1000000 in
set_option maxRecDepth 100000 in
theorem add_any (ats : List Pr) (v : Value) (n x : List UInt8) (B : Nat) (w : World) (hv : OwnsA w B v ats) (hB : B ≤ w.heap.size) (hl : ats.length ≤ 64) :
    Calls Tryz.prog 158 #[v, .agg #[.string (str n), .string (str x)]] w fun e w' => ∃ u, e = .returned u ∧ OwnsA w' B u (Tk.add ats (n, x)) ∧ Below B w w' := by
  obtain ⟨i0, hi, hz0, hz1, hz2⟩ := info_parts infoAttr
  have hmf : ∀ (fn : Fn) (first cap : Array Value) (w : World), (Instr.makeFunc fn first cap).run Tryz.prog w = .ok (.func fn first cap) w := fun _ _ _ _ => rfl
  have HA : Hid (Tk.add ats (n, x) = if Tk.has ats n = false ∧ ats.length < 64 then ats ++ [(n, x)] else ats) := rfl
  have hb0 : Below w.heap.size w (w.alloc (.cells #[.string (str n), .string (str x)] 67)) := (Below.refl _ w).alloc (Nat.le_refl _) _
  have hv0 : OwnsA (w.alloc (.cells #[.string (str n), .string (str x)] 67)) B v ats := OwnsPairs.below hv hb0
  have hh0 : (w.alloc (.cells #[.string (str n), .string (str x)] 67)).heap[w.heap.size]? = some (.cells #[.string (str n), .string (str x)] 67 (0, 0)) := heap_new w _
  have hs0 : (w.alloc (.cells #[.string (str n), .string (str x)] 67)).heap.size = w.heap.size + 1 := by simp
  obtain ⟨a, c, rfl⟩ := hv.reads.form
  clear hv
  by_cases h64 : ats.length = 64
  · have q64 : ((ats.length : Int) == 64) = true := by rw [h64]; rfl
    have HN : Hid (Tk.add ats (n, x) = ats) := by show _ = _; rw [HA.out, if_neg (by omega)]
    clear h64
    go_enter Tryz.func158, Tryz.ntmps158
    go_wp2
    go_ret
    exact ⟨_, rfl, by rw [HN.out]; exact hv0, hb0.mono hB⟩
  · have q64 : ((ats.length : Int) == 64) = false := by rw [beq_eq_false_iff_ne]; omega
    have hH := attrHas_any ats _ n w.heap.size _ (Lib.cell_of_heap hh0 0) hv0.reads (by omega)
    have hlt : ats.length < 64 := by omega
    clear h64
    go_enter Tryz.func158, Tryz.ntmps158
    go_wp2_with fail
    generalize (w.alloc (.cells #[.string (str n), .string (str x)] 67)) = W at *
    cases hx : Tk.has ats n
    · have HN : Hid (Tk.add ats (n, x) = ats ++ [(n, x)]) := by show _ = _; rw [HA.out, if_pos ⟨hx, hlt⟩]
      rw [hx] at hH
      go_wp2_with (first
        | (go_at_call 62; refine hH.mono ?_; rintro e w1 ⟨rfl, hb1⟩; have hv1 := OwnsPairs.below hv0 hb1; have hh1 := (hb1.block w.heap.size (by omega)).trans hh0; have cc0 := Lib.cell_of_heap hh1 0; have cc1 := Lib.cell_of_heap hh1 1; have hs1 := hb1.size)
        | (at_builtin; refine wpList_append_own _ rfl _ _ 40 rfl B 67 i0 (.agg #[.string ByteArray.empty, .string ByteArray.empty]) 2 32 Tryz.underlying40 hi hz0 hz1 hz2 rfl (by decide) _ _ _ rfl (World.ownsRow.alloc hv1 _) ⟨w1.heap.size, 0, none⟩ 1 1 [.string (str n), .string (str x)] rfl rfl (cell_two_new w1 _ _ _) (fun x hx => by simp at hx; rcases hx with rfl | rfl <;> rfl) (by unfold maxLen; omega) (by omega) (by simp; omega) ?_; intro v' w3 hown' hgrow3 hnil3))
      go_ret
      exact ⟨_, rfl, OwnsPairs.of HN.out rfl rfl hown', (((hb0.trans (hb1.mono (by omega))).mono hB).alloc (by omega) _).grown hgrow3 (by simp; omega) (fun q hq => (World.ownsRow.lt hv1 q hq).1)⟩
    · have HN : Hid (Tk.add ats (n, x) = ats) := by show _ = _; rw [HA.out, if_neg (by rw [hx]; simp)]
      rw [hx] at hH
      go_wp2_with (go_at_call 62; refine hH.mono ?_; rintro e w1 ⟨rfl, hb1⟩)
      go_ret
      exact ⟨_, rfl, by rw [HN.out]; exact OwnsPairs.below hv0 hb1, (hb0.trans (hb1.mono (by omega))).mono hB⟩
end Go.Proofs.YtiodaahncadodaaGreatDoor
