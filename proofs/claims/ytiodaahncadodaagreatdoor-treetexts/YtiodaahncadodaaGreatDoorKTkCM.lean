/- Texts laid as one. -/
import Derived.Test.YtiodaahncadodaaGreatDoorKTkB
import Derived.Test.YtiodaahncadodaaGreatDoorKGround
import Derived.Test.YtiodaahncadodaaGreatDoorKUPut
import Derived.Test.YtiodaahncadodaaGreatDoorKRfGK
import Derived.Deep.MidRow
import Derived.Deep.WholeRow
import Derived.Deep.RegionWith
/- Rows of attributes: how they read, those of a call's own; the contract of token.add. -/
set_option linter.unusedVariables false
set_option linter.unusedSimpArgs false
namespace Go.Proofs.YtiodaahncadodaaGreatDoor
open Go.RowKit
abbrev Pr := List UInt8 × List UInt8
def pairCells (ps : List Pr) : List Value := ps.flatMap fun p => [strV p.1, strV p.2]
theorem pairCells_snoc (ps : List Pr) (p : Pr) : pairCells (ps ++ [p]) = pairCells ps ++ [strV p.1, strV p.2] := by simp [pairCells]
theorem pairCells_at : ∀ (ps : List Pr) (j : Nat) (p : Pr), ps[j]? = some p → (pairCells ps)[j * 2]? = some (strV p.1) ∧ (pairCells ps)[j * 2 + 1]? = some (strV p.2)
  | [], j, p, h => by simp at h
  | q :: ps, 0, p, h => by
    simp at h
    subst h
    exact ⟨rfl, rfl⟩
  | q :: ps, j + 1, p, h => by
    have := pairCells_at ps j p (by simpa using h)
    have e : pairCells (q :: ps) = strV q.1 :: strV q.2 :: pairCells ps := rfl
    rw [e, show (j + 1) * 2 = j * 2 + 1 + 1 from by omega]
    simpa using this
/-- The slice owns these pairs, in memory from 'B' on; 't' is the pair's own type. -/
def OwnsPairs (t : TypeId) (w : World) (B : Nat) (v : Value) (ps : List Pr) : Prop := w.ownsRow B t 2 v ps.length (pairCells ps)
theorem OwnsPairs.nil (t : TypeId) (w : World) (B : Nat) : OwnsPairs t w B (.slice none 0 0) [] := World.ownsRow_nil _ _ _ _
theorem OwnsPairs.of {t : TypeId} {w : World} {B : Nat} {v x y : Value} {ps qs : List Pr} {p : Pr} (h : qs = ps ++ [p]) (hx : strV p.1 = x) (hy : strV p.2 = y) (ho : w.ownsRow B t 2 v (ps.length + 1) (pairCells ps ++ [x, y])) : OwnsPairs t w B v qs := by
  subst h; subst hx; subst hy
  unfold OwnsPairs
  rw [pairCells_snoc, List.length_append]
  exact ho
/-- The slice reads as these pairs. -/
def ReadsPairs (w : World) (v : Value) (ps : List Pr) : Prop :=
  (∃ a c, v = .slice a 0 c ∧ ps = []) ∨ ∃ b o c, v = .slice (some ⟨b, o, none⟩) ps.length c ∧ ps.length ≤ c ∧ ∀ (j : Nat) p, ps[j]? = some p → w.cell? ⟨b, o + j * 2, none⟩ = some (strV p.1) ∧ w.cell? ⟨b, o + j * 2 + 1, none⟩ = some (strV p.2)
theorem ReadsPairs.form {w : World} {v : Value} {ps : List Pr} (h : ReadsPairs w v ps) : ∃ a c, v = .slice a ps.length c := by
  rcases h with ⟨a, c, rfl, rfl⟩ | ⟨b, o, c, rfl, _, _⟩
  · exact ⟨_, _, rfl⟩
  · exact ⟨_, _, rfl⟩
theorem ReadsPairs.at {w : World} {a : Option Addr} {n c : Nat} {ps : List Pr} {k : Nat} {p : Pr} (h : ReadsPairs w (.slice a n c) ps) (hp : ps[k]? = some p) :
    ∃ b o, a = some ⟨b, o, none⟩ ∧ ps.length ≤ c ∧ b < w.heap.size ∧ w.cell? ⟨b, o + k * 2, none⟩ = some (.string (str p.1)) ∧ w.cell? ⟨b, o + k * 2 + 1, none⟩ = some (.string (str p.2)) := by
  rcases h with ⟨a, c, _, rfl⟩ | ⟨b, o, c, h1, h2, h3⟩
  · simp at hp
  · cases h1
    exact ⟨b, o, rfl, h2, cell_lt (h3 k p hp).1, h3 k p hp⟩
theorem ReadsPairs.below {w w' : World} {v : Value} {ps : List Pr} (h : ReadsPairs w v ps) (hb : Below w.heap.size w w') : ReadsPairs w' v ps := by
  rcases h with h | ⟨b, o, c, rfl, hc, hr⟩
  · exact .inl h
  · refine .inr ⟨b, o, c, rfl, hc, fun j p hj => ?_⟩
    have := hr j p hj
    exact ⟨(hb.cell (p := ⟨b, o + j * 2, none⟩) (cell_lt this.1)).trans this.1, (hb.cell (p := ⟨b, o + j * 2 + 1, none⟩) (cell_lt this.2)).trans this.2⟩
theorem OwnsPairs.reads {t : TypeId} {w : World} {B : Nat} {v : Value} {ps : List Pr} (h : OwnsPairs t w B v ps) : ReadsPairs w v ps := by
  rcases h.2 with ⟨rfl, h0⟩ | ⟨g, cap, cur, rfl, _, hg, hc, _, hcs, ht⟩
  · exact .inl ⟨_, _, rfl, List.eq_nil_of_length_eq_zero h0⟩
  · refine .inr ⟨g, 0, cap, rfl, hc, fun j p hj => ?_⟩
    have hlt : j < ps.length := (List.getElem?_eq_some_iff.1 hj).1
    have e := pairCells_at ps j p hj
    have e1 := World.ownsRow.cellAt (w := w) (base := B) (e := t) (size := 2) (g := g) (cap := cap) (n := ps.length) (xs := pairCells ps) h (j * 2) (by omega)
    have e2 := World.ownsRow.cellAt (w := w) (base := B) (e := t) (size := 2) (g := g) (cap := cap) (n := ps.length) (xs := pairCells ps) h (j * 2 + 1) (by omega)
    rw [Nat.zero_add, e1, e2]
    exact e
theorem ownsRow_below {w w' : World} {B : Nat} {e : TypeId} {size n : Nat} {v : Value} {xs : List Value} (h : w.ownsRow B e size v n xs) (hb : Below w.heap.size w w') : w'.ownsRow B e size v n xs := by
  refine ⟨h.1, ?_⟩
  rcases h.2 with h0 | ⟨g, cap, cur, hv, h1, hg, hc⟩
  · exact .inl h0
  · exact .inr ⟨g, cap, cur, hv, h1, (hb.block g (Array.getElem?_eq_some_iff.1 hg).1).trans hg, hc⟩
theorem infoAttr : (Tryz.prog.info? 67).map (fun i => (i.zero, i.size, i.bytes)) = some (some (.agg #[.string ByteArray.empty, .string ByteArray.empty]), 2, 32) := by kernel_rfl
abbrev OwnsA (w : World) (B : Nat) (v : Value) (ps : List Pr) : Prop := OwnsPairs 67 w B v ps
theorem str_beq (n q : List UInt8) : ((str n).toList == (str q).toList) = (n == q) := by rw [str_list, str_list]
set_option maxHeartbeats 1000000 in
theorem addFn_any (n v q : List UInt8) (g : Nat) (w : World) (hg : w.cell? ⟨g, 0, none⟩ = some (.string (str q))) :
    Calls Tryz.prog 182 #[.agg #[.string (str n), .string (str v)], .pointer (some ⟨g, 0, none⟩)] w fun e w' => e = .returned (.bool (n == q)) ∧ Below w.heap.size w w' := by
  have hlt := cell_lt hg
  have hb : Below w.heap.size w (w.alloc (.cells #[.string (str n), .string (str v)] 67)) := (Below.refl _ w).alloc (Nat.le_refl _) _
  have hg2 := (hb.cell (p := ⟨g, 0, none⟩) hlt).trans hg
  go_enter Tryz.func182, Tryz.ntmps182
  go_wp2
  go_ret
  exact ⟨ret_bool (str_beq n q), hb⟩
theorem has_take (ats : List Pr) (q : List UInt8) (j : Nat) (h : j < ats.length) : Tk.has (ats.take (j + 1)) q = (Tk.has (ats.take j) q || ats[j].1 == q) := by
  unfold Tk.has
  rw [List.take_succ_eq_append_getElem h, List.any_append]
  simp
theorem has_here (ats : List Pr) (q : List UInt8) (j : Nat) (h : j < ats.length) (hq : (ats[j].1 == q) = true) : Tk.has ats q = true := by
  unfold Tk.has
  rw [List.any_eq_true]
  exact ⟨ats[j], List.getElem_mem h, hq⟩
set_option maxHeartbeats 1000000 in
theorem attrIndex_any (ats : List Pr) (v : Value) (q : List UInt8) (g : Nat) (w : World) (hg : w.cell? ⟨g, 0, none⟩ = some (.string (str q))) (hv : ReadsPairs w v ats) (hl : ats.length ≤ 1000000) :
    Calls Tryz.prog 99 #[v, .func (.func 182) #[] #[.pointer (some ⟨g, 0, none⟩)]] w fun e w' => (∃ r, e = .returned (.int .i64 r) ∧ decide (0 ≤ r) = Tk.has ats q) ∧ Below w.heap.size w w' := by
  obtain ⟨a, c, rfl⟩ := hv.form
  have HV := hideT hv
  have hlt := cell_lt hg
  clear hv
  go_enter Tryz.func99, Tryz.ntmps99
  go_wp2
  go_loopw [8] (fun i wr => ∃ j : Nat, i = .int .i64 j ∧ j ≤ ats.length ∧ Hid (Tk.has (ats.take j) q = false) ∧ Below w.heap.size w wr) (fun i _ => ats.length - (intOf i).toNat)
  case atStart => exact ⟨0, rfl, Nat.zero_le _, rfl, Below.refl _ _⟩
  case round =>
    obtain ⟨j, rfl, hj, HE, hB⟩ := hrel
    by_cases hjl : j < ats.length
    · have hat : ats[j]? = some ats[j] := List.getElem?_eq_getElem hjl
      obtain ⟨b, o, rfl, hc, hbl, h1, h2⟩ := HV.out.at hat
      have g1 := (hB.cell (p := ⟨b, o + j * 2, none⟩) hbl).trans h1
      have g2 := (hB.cell (p := ⟨b, o + j * 2 + 1, none⟩) hbl).trans h2
      have gg := (hB.cell (p := ⟨g, 0, none⟩) hlt).trans hg
      have hF := addFn_any ats[j].1 ats[j].2 q g wr gg
      cases hq : (ats[j].1 == q)
      · have HN : Hid (Tk.has (ats.take (j + 1)) q = false) := by
          show _ = _
          rw [has_take ats q j hjl, HE.out, hq]
          rfl
        rw [hq] at hF
        clear hat h1 h2 gg hq
        generalize ats[j] = p at *
        go_wp2_with (go_at_call 182; refine hF.mono ?_; rintro e w1 ⟨rfl, hb1⟩)
        go_roundw
        case rel => exact ⟨j + 1, by go_num, by omega, HN, hB.trans (hb1.mono hB.size)⟩
        case measure => simp [intOf]; omega
      · have HN : Hid (Tk.has ats q = true) := has_here ats q j hjl hq
        rw [hq] at hF
        clear hat h1 h2 gg hq
        generalize ats[j] = p at *
        go_wp2_with (go_at_call 182; refine hF.mono ?_; rintro e w1 ⟨rfl, hb1⟩)
        go_ret
        exact ⟨⟨_, rfl, by rw [HN.out]; simp⟩, hB.trans (hb1.mono hB.size)⟩
    · have HN : Hid (Tk.has ats q = false) := by
        have h := HE.out
        rwa [List.take_of_length_le (by omega)] at h
      go_wp2
      go_ret
      exact ⟨⟨_, rfl, by rw [HN.out]; rfl⟩, hB⟩
set_option maxHeartbeats 1000000 in
theorem attrHas_any (ats : List Pr) (v : Value) (q : List UInt8) (g : Nat) (w : World) (hg : w.cell? ⟨g, 0, none⟩ = some (.string (str q))) (hv : ReadsPairs w v ats) (hl : ats.length ≤ 1000000) :
    Calls Tryz.prog 62 #[v, .func (.func 182) #[] #[.pointer (some ⟨g, 0, none⟩)]] w fun e w' => e = .returned (.bool (Tk.has ats q)) ∧ Below w.heap.size w w' := by
  have hI := attrIndex_any ats v q g w hg hv hl
  obtain ⟨a, c, rfl⟩ := hv.form
  clear hv hg
  go_enter Tryz.func62, Tryz.ntmps62
  go_wp2_with (go_at_call 99; refine hI.mono ?_; rintro e w1 ⟨⟨r, rfl, hr⟩, hK1⟩)
  go_ret
  exact ⟨by first | rfl | (rw [← hr]; rfl), hK1⟩
theorem OwnsPairs.below {t : TypeId} {w w' : World} {B : Nat} {v : Value} {ps : List Pr} (h : OwnsPairs t w B v ps) (hb : Below w.heap.size w w') : OwnsPairs t w' B v ps := ownsRow_below h hb
theorem OwnsPairs.kept {t : TypeId} {w w' : World} {B b : Nat} {v : Value} {ps : List Pr} (h : OwnsPairs t w B v ps) (hk : Kept b w w') (hb : b < B) : OwnsPairs t w' B v ps := by
  refine ⟨h.1, ?_⟩
  rcases h.2 with h0 | ⟨g, cap, cur, hv, h1, hg, hc⟩
  · exact .inl h0
  · exact .inr ⟨g, cap, cur, hv, h1, hk.heap hg (by omega), hc⟩
set_option maxHeartbeats 1000000 in
set_option maxRecDepth 100000 in
theorem add_any (ats : List Pr) (v : Value) (n x : List UInt8) (B : Nat) (w : World) (hv : OwnsA w B v ats) (hB : B ≤ w.heap.size) (hl : ats.length ≤ 64) :
    Calls Tryz.prog 158 #[v, .agg #[.string (str n), .string (str x)]] w fun e w' => ∃ u, e = .returned u ∧ OwnsA w' B u (Tk.add ats (n, x)) ∧ Below B w w' := by
  obtain ⟨i0, hi, hz0, hz1, hz2⟩ := info_parts infoAttr
  have hmf : ∀ (fn : Fn) (first cap : Array Value) (w : World), (Instr.makeFunc fn first cap).run Tryz.prog w = .ok (.func fn first cap) w := fun _ _ _ _ => rfl
  have HA : Hid (Tk.add ats (n, x) = if Tk.has ats n = false ∧ ats.length < 64 then ats ++ [(n, x)] else ats) := rfl
  have hb0 : Below w.heap.size w (w.alloc (.cells #[.string (str n), .string (str x)] 67)) := (Below.refl _ w).alloc (Nat.le_refl _) _
  have hv0 : OwnsA (w.alloc (.cells #[.string (str n), .string (str x)] 67)) B v ats := OwnsPairs.below hv hb0
  have hh0 : (w.alloc (.cells #[.string (str n), .string (str x)] 67)).heap[w.heap.size]? = some (.cells #[.string (str n), .string (str x)] 67 (0, 0)) := heap_new w _
  have hs0 : (w.alloc (.cells #[.string (str n), .string (str x)] 67)).heap.size = w.heap.size + 1 := by simp
  obtain ⟨a, c, rfl⟩ := hv.reads.form
  clear hv
  by_cases h64 : ats.length = 64
  · have q64 : ((ats.length : Int) == 64) = true := by rw [h64]; rfl
    have HN : Hid (Tk.add ats (n, x) = ats) := by show _ = _; rw [HA.out, if_neg (by omega)]
    clear h64
    go_enter Tryz.func158, Tryz.ntmps158
    go_wp2
    go_ret
    exact ⟨_, rfl, by rw [HN.out]; exact hv0, hb0.mono hB⟩
  · have q64 : ((ats.length : Int) == 64) = false := by rw [beq_eq_false_iff_ne]; omega
    have hH := attrHas_any ats _ n w.heap.size _ (Lib.cell_of_heap hh0 0) hv0.reads (by omega)
    have hlt : ats.length < 64 := by omega
    clear h64
    go_enter Tryz.func158, Tryz.ntmps158
    go_wp2_with fail
    generalize (w.alloc (.cells #[.string (str n), .string (str x)] 67)) = W at *
    cases hx : Tk.has ats n
    · have HN : Hid (Tk.add ats (n, x) = ats ++ [(n, x)]) := by show _ = _; rw [HA.out, if_pos ⟨hx, hlt⟩]
      rw [hx] at hH
      go_wp2_with (first
        | (go_at_call 62; refine hH.mono ?_; rintro e w1 ⟨rfl, hb1⟩; have hv1 := OwnsPairs.below hv0 hb1; have hh1 := (hb1.block w.heap.size (by omega)).trans hh0; have cc0 := Lib.cell_of_heap hh1 0; have cc1 := Lib.cell_of_heap hh1 1; have hs1 := hb1.size)
        | (at_builtin; refine wpList_append_own _ rfl _ _ 40 rfl B 67 i0 (.agg #[.string ByteArray.empty, .string ByteArray.empty]) 2 32 Tryz.underlying40 hi hz0 hz1 hz2 rfl (by decide) _ _ _ rfl (World.ownsRow.alloc hv1 _) ⟨w1.heap.size, 0, none⟩ 1 1 [.string (str n), .string (str x)] rfl rfl (cell_two_new w1 _ _ _) (fun x hx => by simp at hx; rcases hx with rfl | rfl <;> rfl) (by unfold maxLen; omega) (by omega) (by simp; omega) ?_; intro v' w3 hown' hgrow3 hnil3))
      go_ret
      exact ⟨_, rfl, OwnsPairs.of HN.out rfl rfl hown', (((hb0.trans (hb1.mono (by omega))).mono hB).alloc (by omega) _).grown hgrow3 (by simp; omega) (fun q hq => (World.ownsRow.lt hv1 q hq).1)⟩
    · have HN : Hid (Tk.add ats (n, x) = ats) := by show _ = _; rw [HA.out, if_neg (by rw [hx]; simp)]
      rw [hx] at hH
      go_wp2_with (go_at_call 62; refine hH.mono ?_; rintro e w1 ⟨rfl, hb1⟩)
      go_ret
      exact ⟨_, rfl, by rw [HN.out]; exact OwnsPairs.below hv0 hb1, (hb0.trans (hb1.mono (by omega))).mono hB⟩
end Go.Proofs.YtiodaahncadodaaGreatDoor
/- The contracts of a reader's value and attr. -/
namespace Go.Proofs.YtiodaahncadodaaGreatDoor
open Go.RowKit
theorem fd_one (q : UInt8) : ∀ l : List UInt8, Tk.fd [q] l = (l.takeWhile (· != q)).length
  | [] => rfl
  | c :: t => by
    rw [Tk.fd, List.takeWhile_cons]
    by_cases h : c = q
    · subst h
      have e : [c].isPrefixOf (c :: t) = true := by simp [List.isPrefixOf]
      rw [e]
      simp
    · have e : [q].isPrefixOf (c :: t) = false := by
        have : (q == c) = false := beq_eq_false_iff_ne.2 fun e => h e.symm
        simp [List.isPrefixOf, this]
      have e2 : (c != q) = true := bne_iff_ne.2 h
      rw [e, e2, fd_one q t]
      simp
theorem past_one (q : UInt8) (l : List UInt8) : l.take (Tk.fd [q] l) = l.takeWhile (· != q) ∧ l.drop (Tk.fd [q] l + 1) = (l.dropWhile (· != q)).drop 1 := by
  have h := take_while (· != q) l
  rw [fd_one, h.1, ← List.drop_drop, h.2]
  exact ⟨rfl, rfl⟩
theorem took_yes {b : Nat} {l a : List UInt8} {w : World} (p r : List UInt8) (he : l = p ++ r) (h : Tr b l a w) :
    Calls Tryz.prog 88 #[.pointer (some ⟨b, 0, none⟩), .string (str p)] w fun e w' => e = .returned (.bool true) ∧ Tr b r a w' ∧ Kept b w w' := by
  have h1 := took_any p h
  have hp : p.isPrefixOf l = true := by rw [List.isPrefixOf_iff_prefix, he]; exact ⟨r, rfl⟩
  rw [hp, if_pos rfl, he, List.drop_left] at h1
  exact h1
theorem took_no {b : Nat} {l a : List UInt8} {w : World} (p : List UInt8) (hp : p.isPrefixOf l = false) (h : Tr b l a w) :
    Calls Tryz.prog 88 #[.pointer (some ⟨b, 0, none⟩), .string (str p)] w fun e w' => e = .returned (.bool false) ∧ Tr b l a w' ∧ Kept b w w' := by
  have h1 := took_any p h
  rw [hp, if_neg (by decide)] at h1
  exact h1
theorem past_q {b : Nat} {l a : List UInt8} {w : World} (q : UInt8) (h : Tr b l a w) :
    Calls Tryz.prog 89 #[.pointer (some ⟨b, 0, none⟩), .string (str [q])] w fun e w' => e = .returned (.string (str (l.takeWhile (· != q)))) ∧ Tr b ((l.dropWhile (· != q)).drop 1) a w' ∧ Kept b w w' := by
  have h1 := past_any [q] (by simp) h
  rw [(past_one q l).1] at h1
  rw [show [q].length = 1 from rfl, (past_one q l).2] at h1
  exact h1
/-- What value takes, and what it leaves. -/
def valueP (l : List UInt8) : List UInt8 × List UInt8 := match Tk.eqR l with
  | none => ([], l.dropWhile Asc.isBlank)
  | some r => (Tk.valRaw r, Tk.valR r)
theorem valueP_none (l : List UInt8) (h : [61].isPrefixOf (l.dropWhile Asc.isBlank) = false) : valueP l = ([], l.dropWhile Asc.isBlank) := by
  have e : Tk.eqR l = none := by
    unfold Tk.eqR
    split
    · rfl
    · rename_i c r e
      rw [e] at h
      rw [if_neg]
      rintro rfl
      simp [List.isPrefixOf] at h
  unfold valueP
  rw [e]
theorem valueP_some (l t : List UInt8) (h : l.dropWhile Asc.isBlank = [61] ++ t) : valueP l = (Tk.valRaw (t.dropWhile Asc.isBlank), Tk.valR (t.dropWhile Asc.isBlank)) := by
  have e : Tk.eqR l = some (t.dropWhile Asc.isBlank) := by
    unfold Tk.eqR
    rw [h]
    rfl
  unfold valueP
  rw [e]
theorem one_cases (q : UInt8) (l : List UInt8) : (∃ t, l = [q] ++ t) ∨ [q].isPrefixOf l = false := by
  cases l with
  | nil => right; rfl
  | cons c t =>
    by_cases h : c = q
    · left; exact ⟨t, by rw [h]; rfl⟩
    · right
      have : (q == c) = false := beq_eq_false_iff_ne.2 fun e => h e.symm
      simp [List.isPrefixOf, this]
theorem not_one (q : UInt8) (t : List UInt8) (c : UInt8) (h : [q].isPrefixOf (c :: t) = false) : c ≠ q := by
  rintro rfl
  simp [List.isPrefixOf] at h
set_option maxHeartbeats 1000000 in
theorem value_any {b : Nat} {l a : List UInt8} {w : World} (h : Tr b l a w) :
    Calls Tryz.prog 184 #[.pointer (some ⟨b, 0, none⟩)] w fun e w' => e = .returned (.string (str (valueP l).1)) ∧ Tr b (valueP l).2 a w' ∧ Kept b w w' := by
  rcases one_cases 61 (l.dropWhile Asc.isBlank) with ⟨t, ht⟩ | hn
  · have hW := while_blank h
    rw [ht] at hW
    rw [valueP_some l t ht]
    clear ht
    have hWt := fun (W : World) (h : Tr b t a W) => while_blank h
    generalize t.dropWhile Asc.isBlank = r at hWt ⊢
    go_enter Tryz.func184, Tryz.ntmps184
    go_wp2_with fail
    go_at_call 155
    refine hW.mono ?_
    rintro e w1 ⟨rfl, h1, k1⟩
    go_wp2_with fail
    go_at_call 88
    refine (took_yes [61] t rfl h1).mono ?_
    rintro e w2 ⟨rfl, h2, k2⟩
    go_wp2_with fail
    go_at_call 155
    refine (hWt _ h2).mono ?_
    rintro e w3 ⟨rfl, h3, k3⟩
    have hk3 := (k1.trans k2).trans k3
    clear k1 k2 k3 h1 h2 hW hWt
    go_wp2_with fail
    go_at_call 88
    rcases one_cases 34 r with ⟨s, rfl⟩ | h34
    · refine (took_yes [34] s rfl h3).mono ?_
      rintro e w4 ⟨rfl, h4, k4⟩
      go_wp2_with fail
      go_at_call 89
      refine (past_q 34 h4).mono ?_
      rintro e w5 ⟨rfl, h5, k5⟩
      go_wp2
      go_ret
      exact ⟨rfl, h5, (hk3.trans k4).trans k5⟩
    · refine (took_no [34] h34 h3).mono ?_
      rintro e w4 ⟨rfl, h4, k4⟩
      go_wp2_with fail
      go_at_call 88
      rcases one_cases 39 r with ⟨s, rfl⟩ | h39
      · refine (took_yes [39] s rfl h4).mono ?_
        rintro e w5 ⟨rfl, h5, k5⟩
        go_wp2_with fail
        go_at_call 89
        refine (past_q 39 h5).mono ?_
        rintro e w6 ⟨rfl, h6, k6⟩
        go_wp2
        go_ret
        exact ⟨rfl, h6, ((hk3.trans k4).trans k5).trans k6⟩
      · refine (took_no [39] h39 h4).mono ?_
        rintro e w5 ⟨rfl, h5, k5⟩
        have HV : Hid (Tk.valRaw r = r.takeWhile Tk.vn ∧ Tk.valR r = r.dropWhile Tk.vn) := by
          cases r with
          | nil => exact ⟨rfl, rfl⟩
          | cons c s =>
            have hq : Tk.isQ c = false := by
              unfold Tk.isQ
              rw [beq_eq_false_iff_ne.2 (not_one 34 s c h34), beq_eq_false_iff_ne.2 (not_one 39 s c h39)]
              rfl
            refine ⟨?_, ?_⟩
            · rw [Tk.valRaw, hq]; rfl
            · rw [Tk.valR, hq]; rfl
        clear h34 h39
        go_wp2_with fail
        go_at_call 155
        refine (while_vn h5).mono ?_
        rintro e w6 ⟨rfl, h6, k6⟩
        go_wp2
        go_ret
        exact ⟨by rw [HV.out.1]; rfl, by rw [HV.out.2]; exact h6, ((hk3.trans k4).trans k5).trans k6⟩
  · rw [valueP_none l hn]
    go_enter Tryz.func184, Tryz.ntmps184
    go_wp2_with fail
    go_at_call 155
    refine (while_blank h).mono ?_
    rintro e w1 ⟨rfl, h1, k1⟩
    go_wp2_with fail
    go_at_call 88
    refine (took_no [61] hn h1).mono ?_
    rintro e w2 ⟨rfl, h2, k2⟩
    go_wp2
    go_ret
    exact ⟨rfl, h2, k1.trans k2⟩
end Go.Proofs.YtiodaahncadodaaGreatDoor
/- The contract of a reader's attr. -/
namespace Go.Proofs.YtiodaahncadodaaGreatDoor
open Go.RowKit
def AAt (w : World) (b : Nat) (x y : Value) : Prop := w.heap[b]? = some (.cells #[x, y] 67 (0, 0))
theorem sizeA : (Tryz.prog.info? 67).map (·.size) = some 2 := by kernel_rfl
theorem zeroA : (Tryz.prog.info? 67).map (fun i => (i.zero, i.size)) = some (some (.agg #[.string ByteArray.empty, .string ByteArray.empty]), 2) := by kernel_rfl
theorem load_A {w : World} {b : Nat} {x y : Value} (h : AAt w b x y) : (loadVar 67 ⟨b, 0, none⟩).run Tryz.prog w = .ok (.agg #[x, y]) w :=
  run_loadVar_row _ _ _ _ _ _ _ h Tryz.underlying67 rfl sizeA
theorem results_cell {fn : Func} {p : Tmp} {ty : TypeId} (h : fn.results = #[.cell p ty]) (tmps : Array Value) (P : Program) (w : World) :
    (results fn tmps).run P w = ((asAddr (tmps.getD p undef)).run P w).andThen fun a w1 => (loadVar ty a).run P w1 := by
  simp only [results, h]
  simp [Sem.run_bind, Result.andThen]
theorem ret_A {fn : Func} {p : Tmp} {Q : Ending → World → Prop} {a : Act} {w : World} {b : Nat} {x y : Value} (hr : fn.results = #[.cell p 67]) (hd : a.defers = []) (hp : a.tmps.getD p undef = .pointer (some ⟨b, 0, none⟩)) (h : AAt w b x y) (hQ : Q (.returned (.agg #[x, y])) w) :
    bodyPost Tryz.prog fn Q .ret a w := by
  refine bodyPost_ret (v := .agg #[x, y]) ?_ hd hQ
  rw [results_cell hr, hp]
  simp [asAddr, Result.andThen, load_A h]
theorem storeAt_A {w : World} {b : Nat} {x y x0 y0 : Value} (h : AAt w b x0 y0) (hx : Value.oneCell' x = true) (hy : Value.oneCell' y = true) : (Instr.storeAt 67 (.pointer (some ⟨b, 0, none⟩)) (.agg #[x, y])).run Tryz.prog w = .ok () (w.setRow b #[x, y]) := by
  simp only [Instr.storeAt, Instr.sureAddr, Sem.run_bind, Sem.run_pure, Result.andThen]
  exact run_storeVar_row _ _ _ _ _ _ h sizeA rfl (by simp [hx, hy])
theorem wpList_store_A {ops : Array Oper} {rest : List Oper} {o : Oper} {a : Act} {w : World} {Q : Exit → Act → World → Prop} (p q : Operand) (ho : o.op = .store 67 p q) (hg : o.guard = none) (b : Nat) (x y x0 y0 : Value) (hx : a.eval p = .pointer (some ⟨b, 0, none⟩)) (hy : a.eval q = .agg #[x, y]) (h : AAt w b x0 y0) (h1 : Value.oneCell' x = true) (h2 : Value.oneCell' y = true)
    (hn : wpList Tryz.prog ops Q rest (a.put o.dst undef) (w.setRow b #[x, y])) : wpList Tryz.prog ops Q (o :: rest) a w := by
  refine wpList_plain hg fun K hK => ?_
  unfold Oper.wp
  have e : (execOp a.eval o).run Tryz.prog w = .ok .skip (w.setRow b #[x, y]) := by
    unfold execOp
    rw [ho]
    simp only [hx, hy, Sem.run_bind, storeAt_A h h1 h2, Result.andThen, Sem.run_pure]
  rw [e, Oper.upon_skip]
  exact hK _ _ hn
theorem setRow_A {w : World} {b : Nat} {x y x0 y0 : Value} (h : AAt w b x0 y0) : AAt (w.setRow b #[x, y]) b x y := by
  unfold AAt at *
  simp [World.setRow, Array.getElem?_modify, h]
theorem kept_setRow (b : Nat) (w : World) (cs : Array Value) : Kept b w (w.setRow b cs) :=
  ⟨rfl, rfl, rfl, by simp [World.setRow], fun k _ hb => by simp [World.setRow, Array.getElem?_modify, Ne.symm hb]⟩
theorem Tr.other {b c : Nat} {l a : List UInt8} {w w' : World} (h : Tr b l a w) (hk : Kept c w w') (hb : b < c) (hc : c ≤ w.heap.size) : Tr b l a w' :=
  ⟨hk.heap h.at_ (by omega), h.len, h.lo1, h.lo2, h.env.belowB (hk.below c (Nat.le_refl _) hc) (Nat.lt_trans h.lo1 hb) (Nat.lt_trans h.lo2 hb)⟩
/-- A block that came since may be written, too. -/
theorem Kept.more {b c : Nat} {w W W' : World} (h : Kept b w W) (h2 : Kept c W W') (hc : w.heap.size ≤ c) : Kept b w W' :=
  ⟨h2.os.trans h.os, h2.tape.trans h.tape, h2.output.trans h.output, Nat.le_trans h.size h2.size, fun k hk hb => (h2.block k (Nat.lt_of_lt_of_le hk h.size) (by omega)).trans (h.block k hk hb)⟩
/-- What attr takes, and what it leaves. -/
def attrP (l : List UInt8) : (List UInt8 × List UInt8) × List UInt8 := ((Asc.lower (Tk.attrN l), Rf.dec true (valueP (Tk.attrR l)).1), (valueP (Tk.attrR l)).2)
theorem valueP_le (l : List UInt8) : (valueP l).1.length ≤ l.length ∧ (valueP l).2.length ≤ l.length := by
  unfold valueP
  split
  · exact ⟨Nat.zero_le _, Tk.dropWhile_le _ _⟩
  · rename_i r e
    have h1 := Tk.eqR_le l r e
    have h2 := Tk.valR_le r
    refine ⟨?_, by show (Tk.valR r).length ≤ _; omega⟩
    show (Tk.valRaw r).length ≤ _
    cases r with
    | nil => exact Nat.zero_le _
    | cons q t =>
      rw [List.length_cons] at h1
      rw [Tk.valRaw]
      split
      · have := tkw_le (· != q) t
        omega
      · have := tkw_le Tk.vn (q :: t)
        rw [List.length_cons] at this
        omega
set_option maxHeartbeats 1000000 in
set_option maxRecDepth 100000 in
theorem attr_any {b : Nat} {c : UInt8} {t a : List UInt8} {w : World} (h : Tr b (c :: t) a w) :
    Calls Tryz.prog 159 #[.pointer (some ⟨b, 0, none⟩)] w fun e w' => e = .returned (.agg #[.string (str (attrP (c :: t)).1.1), .string (str (attrP (c :: t)).1.2)]) ∧ Tr b (attrP (c :: t)).2 a w' ∧ Kept b w w' := by
  have hz := (zero_of_info zeroA).1
  have hlen := h.len
  rw [List.length_cons] at hlen
  have hbw := h.lt
  have h0 := h.step ((Below.refl _ w).alloc (Nat.le_refl _) (.cells #[.string ByteArray.empty, .string ByteArray.empty] 67))
  have hk0 : Kept b w (w.alloc (.cells #[.string ByteArray.empty, .string ByteArray.empty] 67)) := Kept.of ((Below.refl _ w).alloc (Nat.le_refl _) _)
  have ha0 : AAt (w.alloc (.cells #[.string ByteArray.empty, .string ByteArray.empty] 67)) w.heap.size (.string ByteArray.empty) (.string ByteArray.empty) := heap_new w _
  have hT : ∀ W, Tr b (c :: t) a W → Calls Tryz.prog 120 #[.pointer (some ⟨b, 0, none⟩), .int .i64 1] W fun e w' => e = .returned (.string (str [c])) ∧ Tr b t a w' ∧ Kept b W w' := fun W h => take_any 1 h (by simp)
  have hWh := fun W (h : Tr b t a W) => while_an h
  have HP : Hid (attrP (c :: t) = ((Asc.lower (c :: t.takeWhile Tk.an), Rf.dec true (valueP (t.dropWhile Tk.an)).1), (valueP (t.dropWhile Tk.an)).2)) := rfl
  have hxl := tkw_le Tk.an t
  have hrl := Tk.dropWhile_le Tk.an t
  have hvl := valueP_le (t.dropWhile Tk.an)
  have hval := fun W (h : Tr b (t.dropWhile Tk.an) a W) => value_any h
  generalize t.takeWhile Tk.an = x at *
  generalize t.dropWhile Tk.an = r at *
  generalize valueP r = vr at *
  obtain ⟨v, r2⟩ := vr
  have hs1 : (str [c]).size = 1 := str_size [c]
  have hs2 : (str x).size = x.length := str_size x
  have hx6 : x.length ≤ 1000000 := by omega
  have hcat : str [c] ++ str x = str (c :: x) := by
    apply str_eq
    rw [ByteArray.data_append, Array.toList_append, str_data, str_data]
    rfl
  have hLo := fun W => Lower_any (str (c :: x)) W (by rw [str_size, List.length_cons]; omega)
  rw [str_data] at hLo
  generalize Asc.lower (c :: x) = n at hLo HP
  have hDe := fun W (hW : Win W) => Decode_any v true W (by have := hvl.1; simp only at this; omega) hW
  generalize Rf.dec true v = y at hDe HP
  rw [HP.out]
  simp only at hval
  clear hxl hrl hvl HP
  go_enter Tryz.func159, Tryz.ntmps159
  go_wp2_with fail
  generalize w.alloc (.cells #[.string ByteArray.empty, .string ByteArray.empty] 67) = W at *
  have h0' : Tr b (c :: t) a W.drew := h0.step (Below.refl _ _).drew
  have hkd : Kept b w W.drew := hk0.drew
  have had : AAt W.drew w.heap.size (.string ByteArray.empty) (.string ByteArray.empty) := ha0
  have HT := hideT hT
  have HWh := hideT hWh
  have HLo := hideT hLo
  have HDe := hideT hDe
  have HVa := hideT hval
  clear hT hWh hLo hDe hval
  go_region_with (first
    | (go_at_call 120; refine (HT.out _ h0').mono ?_; rintro e w1 ⟨rfl, h1, k1⟩)
    | (go_at_call 155; refine (HWh.out _ h1).mono ?_; rintro e w2 ⟨rfl, h2, k2⟩))
  have ha2 : AAt w2 w.heap.size (.string ByteArray.empty) (.string ByteArray.empty) := k2.heap (k1.heap had (by omega)) (by omega)
  have hk2 := (hkd.trans k1).trans k2
  have hw2 := hk2.size
  clear h0 hk0 ha0 h0' hkd had h1 k1 k2
  go_wp2_with fail
  go_at_call 154
  (try rw [hcat])
  refine (HLo.out _).mono ?_
  rintro e w3 ⟨rfl, hb3⟩
  have h3 := h2.step hb3
  have ha3 : AAt w3 w.heap.size (.string ByteArray.empty) (.string ByteArray.empty) := (hb3.block _ (Array.getElem?_eq_some_iff.1 ha2).1).trans ha2
  have hk3 := hk2.trans (Kept.of hb3)
  clear h2 ha2 hk2 hb3
  go_wp2_with fail
  go_at_call 184
  refine (HVa.out _ h3).mono ?_
  rintro e w4 ⟨rfl, h4, k4⟩
  have ha4 : AAt w4 w.heap.size (.string ByteArray.empty) (.string ByteArray.empty) := k4.heap ha3 (by omega)
  have hk4 := hk3.trans k4
  clear h3 ha3 hk3 k4
  go_wp2_with fail
  go_at_call 121
  refine (HDe.out _ h4.env.1).mono ?_
  rintro e w5 ⟨rfl, hb5⟩
  have h5 := h4.step hb5
  have ha5 : AAt w5 w.heap.size (.string ByteArray.empty) (.string ByteArray.empty) := (hb5.block _ (Array.getElem?_eq_some_iff.1 ha4).1).trans ha4
  have hk5 := hk4.trans (Kept.of hb5)
  clear h4 ha4 hk4 hb5
  go_wp2_with (refine wpList_store_A _ _ rfl rfl w.heap.size (.string (str n)) (.string (str y)) _ _ rfl rfl ha5 rfl rfl ?_)
  exact ret_A rfl rfl rfl (setRow_A ha5) ⟨rfl, h5.other (kept_setRow _ _ _) hbw hk5.size, hk5.more (kept_setRow _ _ _) (Nat.le_refl _)⟩
end Go.Proofs.YtiodaahncadodaaGreatDoor
/- Plain mathematics of a tag as the program reads it: gaps at a stroke, blanks behind a name without a value. -/
namespace Go.Proofs.YtiodaahncadodaaGreatDoor
open Go.RowKit
def lastS (sl : Bool) (g : List UInt8) : Bool := (g.getLast?.map (· == 47)).getD sl
theorem lastS_cons (sl : Bool) (c : UInt8) (g : List UInt8) : lastS sl (c :: g) = lastS (c == 47) g := by
  cases g with
  | nil => rfl
  | cons d g => unfold lastS; rw [List.getLast?_cons_cons]; cases h : (d :: g).getLast? with
    | none => simp at h
    | some x => rfl
theorem gp_62 (c : UInt8) (h : gp c = true) : c ≠ 62 := by
  rintro rfl
  revert h
  decide
theorem gp_or (c : UInt8) (h : gp c = true) : c = 47 ∨ Asc.isBlank c = true := by
  unfold gp at h
  rcases Bool.or_eq_true _ _ ▸ h with h | h
  · exact .inr h
  · exact .inl (by simpa using h)
theorem tg_gaps (ats : List Pr) : ∀ (l : List UInt8) (sl : Bool), Tk.tg l ats sl = Tk.tg (l.dropWhile gp) ats (lastS sl (l.takeWhile gp))
  | [], sl => rfl
  | c :: t, sl => by
    cases h : gp c
    · rw [List.dropWhile_cons, List.takeWhile_cons, h]
      rfl
    · rw [List.dropWhile_cons, List.takeWhile_cons, h, if_pos rfl, if_pos rfl, lastS_cons, Tk.tg_gap c t ats sl (gp_62 c h) (gp_or c h)]
      exact tg_gaps ats t (c == 47)
theorem blank_47 (c : UInt8) (h : Asc.isBlank c = true) : (c == 47) = false ∧ c ≠ 62 := by
  constructor
  · rw [beq_eq_false_iff_ne]; rintro rfl; revert h; decide
  · rintro rfl; revert h; decide
theorem tg_blanks (ats : List Pr) : ∀ l : List UInt8, Tk.tg (l.dropWhile Asc.isBlank) ats false = Tk.tg l ats false
  | [] => rfl
  | c :: t => by
    cases h : Asc.isBlank c
    · rw [List.dropWhile_cons, h]
      rfl
    · rw [List.dropWhile_cons, h, if_pos rfl, tg_blanks ats t, Tk.tg_gap c t ats false (blank_47 c h).2 (.inr h), (blank_47 c h).1]
theorem attrP_fst (l : List UInt8) : (attrP l).1 = (Tk.attr l).1 := by
  unfold attrP valueP Tk.attr
  cases Tk.eqR (Tk.attrR l) with
  | none => show (_, Rf.dec true []) = _; rw [Rf.dec_nil]
  | some r => rfl
theorem attrP_tg (l : List UInt8) (X : List Pr) : Tk.tg (attrP l).2 X false = Tk.tg (Tk.attr l).2 X false := by
  unfold attrP valueP Tk.attr
  cases Tk.eqR (Tk.attrR l) with
  | none => exact tg_blanks X _
  | some r => rfl
theorem attrP_lt (c : UInt8) (t : List UInt8) : (attrP (c :: t)).2.length ≤ t.length := by
  have h1 := (valueP_le (Tk.attrR (c :: t))).2
  have h2 := Tk.attrR_le (c :: t) (by simp)
  rw [List.length_cons] at h2
  show (valueP (Tk.attrR (c :: t))).2.length ≤ _
  omega
/-- One attribute more. -/
theorem tg_step (c : UInt8) (t : List UInt8) (ats : List Pr) (sl : Bool) (h1 : gp c = false) (h2 : c ≠ 62) : Tk.tg (c :: t) ats sl = Tk.tg (attrP (c :: t)).2 (Tk.add ats (attrP (c :: t)).1) false := by
  have htn : Tk.tn c = true := by rw [tn_gp, h1]; simpa using h2
  rw [Tk.tg_attr c t ats sl htn, attrP_tg, attrP_fst]
theorem suffix_last (g : List UInt8) : [47].isSuffixOf g = lastS false g := by
  rcases List.eq_nil_or_concat g with rfl | ⟨i, x, rfl⟩
  · rfl
  · unfold lastS
    have e : (47 == x) = (x == 47) := Bool.beq_comm ..
    simp [List.isSuffixOf, List.isPrefixOf, e]
theorem HasSuffix_l (g : List UInt8) (w : World) (hz : g.length ≤ 1000000000) :
    Calls Tryz.prog 157 #[.string (str g), .string (str [47])] w fun e w' => e = .returned (.bool (lastS false g)) ∧ w' = w := by
  have h := Tryz.strings_HasSuffix (str g) (str [47]) w (by rw [str_size]; omega)
  rw [str_data, str_data] at h
  rw [← suffix_last]
  exact h
theorem add_len (ats : List Pr) (x : Pr) (h : ats.length ≤ 64) : (Tk.add ats x).length ≤ 64 := by
  unfold Tk.add
  split
  · rename_i h2; rw [List.length_append]; show ats.length + 1 ≤ 64; omega
  · exact h
end Go.Proofs.YtiodaahncadodaaGreatDoor
