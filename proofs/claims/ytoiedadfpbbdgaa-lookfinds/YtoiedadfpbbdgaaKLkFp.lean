/- The contract of look's Find. -/
import Derived.Test.YtoiedadfpbbdgaaKLkR
import Derived.Test.YtoiedadfpbbdgaaKLkT
import Derived.Test.YtoiedadfpbbdgaaKLkF
import Derived.RangeFuncCalls
import Derived.Shelf.RegionOpen
set_option linter.unusedVariables false
set_option linter.unusedSimpArgs false
namespace Go.Proofs.Ytoiedadfpbbdgaa
open Go Go.RowKit Go.Shelf
attribute [local go_sem] Oper.semAt_some
/-- What the caller's own cells hold between two rounds: the places that have come. -/
def CollF (w : World) (dv nv : Value) (f : List Int → List Int) (L : Nat) (pre : List Int) (W : World) : Prop :=
  (∃ v, Boxed W (w.heap.size + 2) 39 v ∧ OwnsI W (w.heap.size + 5) v (f pre) ∧ v.ownBlock ≠ some L) ∧ w.heap.size + 5 ≤ L ∧ L < W.heap.size ∧ Below w.heap.size w W ∧ W.heap[w.heap.size]? = some (.cells #[dv] 24 (0, 0)) ∧ W.heap[w.heap.size + 1]? = some (.cells #[nv] 31 (0, 0))
theorem CollF.below {w A B : World} {dv nv : Value} {L : Nat} {f : List Int → List Int} {pre : List Int} (h : CollF w dv nv f L pre A) (hb : Below A.heap.size A B) : CollF w dv nv f L pre B := by
  obtain ⟨⟨v, h1, h2, h3⟩, h4, h6, h7, h8, h9⟩ := h
  exact ⟨⟨v, (hb.block _ h1.lt).trans h1, ownsRow_below h2 hb, h3⟩, h4, Nat.lt_of_lt_of_le h6 hb.size, h7.trans (hb.mono h7.size), (hb.block _ (Array.getElem?_eq_some_iff.1 h8).1).trans h8, (hb.block _ (Array.getElem?_eq_some_iff.1 h9).1).trans h9⟩
theorem CollF.set {w A : World} {dv nv : Value} {L i : Nat} {u : Value} {f : List Int → List Int} {pre : List Int} (h : CollF w dv nv f L pre A) : CollF w dv nv f L pre (A.setCell ⟨L, i, none⟩ u) := by
  obtain ⟨⟨v, h1, h2, h3⟩, h4, h6, h7, h8, h9⟩ := h
  refine ⟨⟨v, (Below.heap_setCell A ⟨L, i, none⟩ u _ (by show _ ≠ L; omega)).trans h1, row_keepK h2 (fun k hk _ => Below.heap_setCell A ⟨L, i, none⟩ u k (fun e => h3 (by rw [hk]; exact congrArg some e))), h3⟩, h4, by simpa [World.setCell] using h6, h7.setCell (p := ⟨L, i, none⟩) (by show _ ≤ L; omega) _, (Below.heap_setCell A ⟨L, i, none⟩ u _ (by show _ ≠ L; omega)).trans h8, (Below.heap_setCell A ⟨L, i, none⟩ u _ (by show _ ≠ L; omega)).trans h9⟩
theorem CollF.put {w A : World} {dv nv : Value} {L l : Nat} {o o' : Obj} {f : List Int → List Int} {pre : List Int} (h : CollF w dv nv f L pre A) (hl : w.heap.size ≤ l) (ho : A.heap[l]? = some o) (hc : o.isCells = false) : CollF w dv nv f L pre (A.putObj l o') := by
  obtain ⟨⟨v, h1, h2, h3⟩, h4, h6, h7, h8, h9⟩ := h
  have ne : ∀ {k : Nat} {cs : Array Value} {t : TypeId}, A.heap[k]? = some (.cells cs t (0, 0)) → k ≠ l := fun hk e => by
    subst e
    rw [hk] at ho
    cases ho
    cases hc
  refine ⟨⟨v, (World.putObj_heap_other (ne h1)).trans h1, row_keepK h2 (fun k hk _ => World.putObj_heap_other ?_), h3⟩, h4, by simpa using h6, h7.grown (grownBy_putObj' A l o') h7.size (fun k e => by cases e; exact hl), (World.putObj_heap_other (ne h8)).trans h8, (World.putObj_heap_other (ne h9)).trans h9⟩
  rcases h2.2 with ⟨rfl, _⟩ | ⟨g, cap, cur, rfl, _, hg, _⟩
  · cases hk
  · have : g = k := by simpa [Value.ownBlock] using hk
    subst this
    exact ne hg
/-- A place more is put to them. -/
theorem CollF.more {w W w1 : World} {dv nv v v' : Value} {L : Nat} {f : List Int → List Int} {pre : List Int} {x : Int} {tmp : Obj} (h1 : Boxed W (w.heap.size + 2) 39 v) (h2 : OwnsI W (w.heap.size + 5) v (f pre)) (h3 : v.ownBlock ≠ some L) (h4 : w.heap.size + 5 ≤ L) (h6 : L < W.heap.size) (h7 : Below w.heap.size w W) (h8 : W.heap[w.heap.size]? = some (.cells #[dv] 24 (0, 0))) (h9 : W.heap[w.heap.size + 1]? = some (.cells #[nv] 31 (0, 0)))
    (ho : OwnsI w1 (w.heap.size + 5) v' (f pre ++ [x])) (hg : (W.alloc tmp).grownBy w1 v.ownBlock) (ha : v'.ownBlock = v.ownBlock ∨ v'.ownBlock = some (W.alloc tmp).heap.size) (hs : w.heap.size + 5 ≤ W.heap.size) (hf : f (pre ++ [x]) = f pre ++ [x]) :
    KeepsOthers W (w1.setCell ⟨w.heap.size + 2, 0, none⟩ v') ∧ Keeps3 w.heap.size (w.heap.size + 3) (w.heap.size + 4) L W (w1.setCell ⟨w.heap.size + 2, 0, none⟩ v') ∧ CollF w dv nv f L (pre ++ [x]) (w1.setCell ⟨w.heap.size + 2, 0, none⟩ v') := by
  have hlow : ∀ k, v.ownBlock = some k → w.heap.size + 5 ≤ k := fun k hk => (World.ownsRow.lt h2 k hk).1
  have hlt : ∀ k, v.ownBlock = some k → k < W.heap.size := fun k hk => (World.ownsRow.lt h2 k hk).2
  have hb1 : Below w.heap.size W (w1.setCell ⟨w.heap.size + 2, 0, none⟩ v') := by
    refine (((Below.refl w.heap.size W).alloc (by omega) tmp).grown hg (by simp; omega) (fun k hk => by have := hlow k hk; omega)).setCell (p := ⟨w.heap.size + 2, 0, none⟩) (by show _ ≤ w.heap.size + 2; omega) _
  have hne : ∀ k, k < w.heap.size + 5 → v.ownBlock ≠ some k := fun k hk e => by have := hlow k e; omega
  have hbx : w1.heap[w.heap.size + 2]? = some (.cells #[v] 39 (0, 0)) := by
    rw [hg.block _ (by simp; omega) (fun e => hne _ (by omega) e.symm), Below.heap_alloc _ _ _ (by omega)]
    exact h1
  have hw1 : W.heap.size ≤ w1.heap.size := by have := hg.size; simp at this; omega
  refine ⟨?_, ⟨hb1, appended_block hg (by omega) (by omega) (hne _ (by omega)), appended_block hg (by omega) (by omega) (hne _ (by omega)), appended_block hg h6 (by omega) h3⟩, ⟨v', Boxed.set v' hbx, ?_, ?_⟩, h4, by simp [World.setCell]; omega, h7.trans hb1, (appended_block hg (by omega) (by omega) (hne _ (by omega))).trans h8, (appended_block hg (by omega) (by omega) (hne _ (by omega))).trans h9⟩
  · refine ((KeepsOthers.alloc W tmp).trans (KeepsOthers.of_grownBy hg fun j o ej hj => ?_)).trans (KeepsOthers.setCell _ _ _)
    rcases h2.2 with ⟨rfl, _⟩ | ⟨g, cap, cur, rfl, _, hgb, _⟩
    · simp [Value.ownBlock] at ej
    · obtain rfl : g = j := by simpa [Value.ownBlock] using ej
      rw [Below.heap_alloc _ _ _ (hlt _ ej), hgb] at hj
      cases hj
      rfl
  · rw [hf]
    refine row_keepK ho (fun k hk _ => Below.heap_setCell w1 ⟨w.heap.size + 2, 0, none⟩ v' k ?_)
    have := (World.ownsRow.lt ho k hk).1
    show k ≠ w.heap.size + 2
    omega
  · rcases ha with e | e
    · rw [e]; exact h3
    · rw [e]
      intro h
      have h := Option.some.inj h
      simp at h
      omega
set_option maxHeartbeats 8000000 in
set_option maxRecDepth 100000 in
theorem Find14_any (ns : List Nd) (v : Value) (at_ : Int) (nl : List (List UInt8)) (nv : Value) (w : World) (hv : ReadsN w v ns) (hf : Fair14 ns) (hn : ReadsTexts w nv nl) (hnl : nl.length ≤ 1000000) :
    Calls Try.prog 24 #[.agg #[v], .int .i64 at_, nv] w fun e w' => ∃ x, e = .returned x ∧ OwnsI w' w.heap.size x (findR14 ns at_ nl) ∧ Below w.heap.size w w' := by
  obtain ⟨a, c, rfl⟩ := hv.form
  obtain ⟨xn, xm, rfl⟩ := ReadsTexts13.form hn
  obtain ⟨xs, hxs⟩ : ∃ xs, belowR14 ns at_ = xs := ⟨_, rfl⟩
  have hXF : findR14 ns at_ nl = xs.filter (Lk.nameK ns nl) := by unfold findR14; rw [hxs]
  rw [hXF]
  clear hXF
  refine (callsIn_wide (n := 6)).1 ?_
  refine callsIn_of_wp_marks Try.func24 rfl trivial ?_ rfl
  simp only [Try.ntmps24, List.size_toArray, List.length_cons, List.length_nil, Nat.reduceAdd, Nat.reduceSub, Array.replicate_succ, Array.replicate_zero, List.push_toArray, List.append_toArray, List.nil_append, List.cons_append]
  gi_wp2_with (refine ⟨trivial, ?_⟩; gi_at_call 43; refine (callsIn_wide.2 (below14_any _ _ _ _ _)).mono ?_; rintro e w' ⟨rfl, rfl⟩)
  have hsz : (((((w.alloc (.cells #[.slice a ns.length c] 24)).alloc (.cells #[.slice xn nl.length xm] 31)).alloc (.cells #[.slice none 0 0] 39)).alloc (.cells #[.slice a ns.length c] 24)).alloc (.cells #[.int .i64 at_] 3)).heap.size = w.heap.size + 5 := by simp
  have hB0 : Below w.heap.size w (((((w.alloc (.cells #[.slice a ns.length c] 24)).alloc (.cells #[.slice xn nl.length xm] 31)).alloc (.cells #[.slice none 0 0] 39)).alloc (.cells #[.slice a ns.length c] 24)).alloc (.cells #[.int .i64 at_] 3)) := ((((((Below.refl _ w).alloc (Nat.le_refl _) _).alloc (by simp) _).alloc (by simp; omega) _).alloc (by simp; omega) _).alloc (by simp; omega) _)
  obtain ⟨hd1, hd2, hd3, hd4⟩ := alloc4 (w.alloc (.cells #[.slice a ns.length c] 24)) (.cells #[.slice xn nl.length xm] 31) (.cells #[.slice none 0 0] 39) (.cells #[.slice a ns.length c] 24) (.cells #[.int .i64 at_] 3)
  have hd0 : (((((w.alloc (.cells #[.slice a ns.length c] 24)).alloc (.cells #[.slice xn nl.length xm] 31)).alloc (.cells #[.slice none 0 0] 39)).alloc (.cells #[.slice a ns.length c] 24)).alloc (.cells #[.int .i64 at_] 3)).heap[w.heap.size]? = some (.cells #[.slice a ns.length c] 24) := by
    rw [Below.heap_alloc _ _ _ (by simp only [World.size_alloc]; omega)]
    exact (alloc4 w (.cells #[.slice a ns.length c] 24) (.cells #[.slice xn nl.length xm] 31) (.cells #[.slice none 0 0] 39) (.cells #[.slice a ns.length c] 24)).1
  rw [World.size_alloc] at hd1 hd2 hd3 hd4
  rw [show w.heap.size + 1 + 1 = w.heap.size + 2 from rfl] at hd2
  rw [show w.heap.size + 1 + 2 = w.heap.size + 3 from rfl] at hd3
  rw [show w.heap.size + 1 + 3 = w.heap.size + 4 from rfl] at hd4
  have hseq := below1_seq ns a c at_ (w.heap.size + 3) (w.heap.size + 4) 5 (by omega) w _ hv hf hB0 hd3 hd4
  have hxl : (belowR14 ns at_).length ≤ 1000 := by
    unfold belowR14
    split
    · rename_i h
      obtain ⟨i, rfl, hi, hm⟩ := Lk.place_yes h
      have := Lk.belowTo_len ns i ns.length
      have := hf.few hm
      rw [Int.toNat_natCast]
      unfold Lk.belowL
      omega
    · exact Nat.zero_le _
  have HMem : Hid (∀ k ∈ xs, ∃ kx : Nat, k = (kx : Int) ∧ kx < ns.length) := fun k h => by
    rw [← hxs] at h
    unfold belowR14 at h
    split at h
    · exact belowL_mem h
    · cases h
  have hXS : (if Lk.placeB ns at_ = true then Lk.belowL ns at_.toNat else []) = belowR14 ns at_ := rfl
  rw [hXS, hxs] at hseq
  rw [hxs] at hxl
  clear hXS
  rw [show w.heap.size + 1 + 1 + 1 + 1 = w.heap.size + 4 from rfl, show w.heap.size + 1 + 1 + 1 = w.heap.size + 3 from rfl, show w.heap.size + 1 + 1 = w.heap.size + 2 from rfl]
  generalize (((((w.alloc (.cells #[.slice a ns.length c] 24)).alloc (.cells #[.slice xn nl.length xm] 31)).alloc (.cells #[.slice none 0 0] 39)).alloc (.cells #[.slice a ns.length c] 24)).alloc (.cells #[.int .i64 at_] 3)) = W0 at *
  clear hxs
  refine wp_range_cells (gf := 61) (lb := #[.pointer (some ⟨w.heap.size + 3, 0, none⟩), .pointer (some ⟨w.heap.size + 4, 0, none⟩)]) rfl (enters_of Try.func61 (by kernel_rfl) rfl) rfl (n₀ := w.heap.size) (b1 := w.heap.size + 3) (b2 := w.heap.size + 4) (xs := xs) (by omega) (by omega) (by omega) hseq
    (CollF w (.slice a ns.length c) (.slice xn nl.length xm) (fun l => l.filter (Lk.nameK ns nl))) (fun L pre A B h hb => h.below hb) (fun L pre A i v h => h.set) (fun L pre A l o o' h hl ho hc => h.put (by omega) ho hc)
    (fun A L hA hL hLA => ⟨⟨.slice none 0 0, (hA.block _ (by omega)).trans hd2, World.ownsRow_nil _ _ _ _, by simp [Value.ownBlock]⟩, by omega, hLA, hB0.trans (hA.mono (by omega)), (hA.block _ (by omega)).trans hd0, (hA.block _ (by omega)).trans hd1⟩)
    (fun x => { tmps := #[.agg #[.slice a ns.length c], .int .i64 at_, .slice xn nl.length xm, .pointer (some ⟨w.heap.size, 0, none⟩), undef, .pointer (some ⟨w.heap.size + 1, 0, none⟩), .slice none 0 0, .pointer (some ⟨w.heap.size + 2, 0, none⟩), .int .i64 x, .agg #[.slice a ns.length c], .int .i64 at_, .func (.func 61) #[] #[.pointer (some ⟨w.heap.size + 3, 0, none⟩), .pointer (some ⟨w.heap.size + 4, 0, none⟩)], .int .i64 x, undef, undef, undef, undef, undef, undef, undef, undef, undef, undef, undef, undef], defers := [] }) ?assign ?body ?done
  case assign =>
    intro l x W K hK
    gi_wp2
    exact hK
  case body =>
    rintro l L pre x W ⟨⟨v, h1, h2, h3⟩, h4, h6, h7, h8, h9⟩ hpre hL hLW hsW
    obtain ⟨kx, rfl, hkn⟩ := HMem.out x (hpre.subset (by simp))
    have hmx : Try.prog.follows .mixedOrders = true := by kernel_rfl
    obtain ⟨g, o, xa, xc, xk, xd, rfl, _, hr⟩ := (hv.below h7).at hkn
    have hkI : (kx : Int) < (ns.length : Int) := by omega
    have d0 : W.drew.cell? ⟨w.heap.size, 0, none⟩ = some (.slice (some ⟨g, o, none⟩) ns.length c) := doc_cell h8
    have d1 : W.drew.cell? ⟨w.heap.size + 1, 0, none⟩ = some (.slice xn nl.length xm) := Lib.cell_of_heap h9 0
    have e0 : W.drew.cell? ⟨g, o + kx * 6, none⟩ = _ := hr.c0
    have e1 : W.drew.cell? ⟨g, o + kx * 6 + 1, none⟩ = _ := hr.c1
    have e2 : W.drew.cell? ⟨g, o + kx * 6 + 2, none⟩ = _ := hr.c2
    have e3 : W.drew.cell? ⟨g, o + kx * 6 + 3, none⟩ = _ := hr.c3
    have e4 : W.drew.cell? ⟨g, o + kx * 6 + 4, none⟩ = _ := hr.c4
    have e5 : W.drew.cell? ⟨g, o + kx * 6 + 5, none⟩ = _ := hr.c5
    have hbd : Below W.heap.size W W.drew := (Below.refl _ _).drew
    have HNW := hideT (ReadsTexts13.below (ReadsTexts13.below hn h7) hbd)
    have HOf := hideT (isOf14_any (Tre.ndAt ns kx) xa xc xk xd nl _ W.drew HNW.out hnl)
    have hE : Lk.nameK ns nl (kx : Int) = nl.contains (Tre.ndAt ns kx).name := by unfold Lk.nameK; rw [Int.toNat_natCast]
    have H1 := hideT h1
    have H2 := hideT h2
    have H8 := hideT h8
    have H9 := hideT h9
    have HD := hideT hbd
    clear h1 h2 h8 h9 hseq hd0 hd1 hd2 hd3 hd4 hv hn hr hbd HMem
    generalize Tre.ndAt ns kx = nd at *
    obtain ⟨q0, q1, q2, q3, q4, q5⟩ := nd
    simp only at e0 e1 e2 e3 e4 e5 hE
    have hpl : (pre.filter (Lk.nameK ns nl)).length ≤ 1000 := by
      have := hpre.length_le
      rw [List.length_append] at this
      have := List.length_filter_le (Lk.nameK ns nl) pre
      omega
    cases hcn : nl.contains q1
    · rw [hcn] at hE
      have hfl : (pre ++ [(kx : Int)]).filter (Lk.nameK ns nl) = pre.filter (Lk.nameK ns nl) := by
        rw [List.filter_append]
        simp [hE]
      have HC : Hid (CollF w (.slice (some ⟨g, o, none⟩) ns.length c) (.slice xn nl.length xm) (fun l => l.filter (Lk.nameK ns nl)) L (pre ++ [(kx : Int)]) W) :=
        ⟨⟨v, H1.out, by show OwnsI W _ v ((pre ++ [(kx : Int)]).filter (Lk.nameK ns nl)); rw [hfl]; exact H2.out, h3⟩, h4, h6, h7, H8.out, H9.out⟩
      clear hE hfl
      rw [show (Tre.Nd.name ⟨q0, q1, q2, q3, q4, q5⟩) = q1 from rfl, hcn] at HOf
      gi_wp2
      gi_region_with_o (refine ⟨trivial, ?_⟩; gi_at_call 46; refine (CallsIn.inRound _ (callsIn_wide.2 HOf.out)).mono ?_; rintro e w5 ⟨rfl, hb5⟩; have HB5 := hideT hb5; clear hb5)
      all_goals gi_wp2
      all_goals (have hbw := HD.out.trans (HB5.out.mono HD.out.size))
      all_goals exact ⟨⟨hbw.size, fun k ob h _ => (hbw.block _ (Array.getElem?_eq_some_iff.1 h).1).trans h⟩, Keeps3.of hbw h7.size (by omega) (by omega) h6, HC.out.below hbw⟩
    · rw [hcn] at hE
      have hfl : (pre ++ [(kx : Int)]).filter (Lk.nameK ns nl) = pre.filter (Lk.nameK ns nl) ++ [(kx : Int)] := by
        rw [List.filter_append]
        simp [hE]
      have HFL := hideT hfl
      clear hE hfl
      rw [show (Tre.Nd.name ⟨q0, q1, q2, q3, q4, q5⟩) = q1 from rfl, hcn] at HOf
      gi_wp2
      gi_region_with_o (refine ⟨trivial, ?_⟩; gi_at_call 46; refine (CallsIn.inRound _ (callsIn_wide.2 HOf.out)).mono ?_; rintro e w5 ⟨rfl, hb5⟩; have HB5 := hideT (HD.out.trans (hb5.mono HD.out.size)); clear hb5; have B1 : Boxed w5 (w.heap.size + 2) 39 v := (HB5.out.block _ H1.out.lt).trans H1.out; have bc := B1.cell; have HB1 := hideT B1; clear B1)
      all_goals (have hs5 := HB5.out.size)
      all_goals (gi_wp2_with (gi_at_builtin; refine wpListIn_append_I rfl _ _ rfl (w.heap.size + 5) v (pre.filter (Lk.nameK ns nl)) rfl (ownsRow_below (ownsRow_below H2.out HB5.out) ((Below.refl _ w5).alloc (Nat.le_refl _) _)) w5.heap.size 1 rfl (kx : Int) (Lib.cell_of_heap (heap_new w5 _) 0) (by omega) (by simp; omega) ?_; intro v' w1 hO' hgrow hat; have HM := hideT (CollF.more (f := fun l => l.filter (Lk.nameK ns nl)) HB1.out (ownsRow_below H2.out HB5.out) h3 h4 (Nat.lt_of_lt_of_le h6 hs5) (h7.trans (HB5.out.mono h7.size)) ((HB5.out.block _ (Array.getElem?_eq_some_iff.1 H8.out).1).trans H8.out) ((HB5.out.block _ (Array.getElem?_eq_some_iff.1 H9.out).1).trans H9.out) hO' hgrow hat (by omega) HFL.out); have hbx : Boxed w1 (w.heap.size + 2) 39 v := (hgrow.block _ (by simp; have := HB1.out.lt; omega) (fun e => by have := (World.ownsRow.lt H2.out _ e.symm).1; omega)).trans ((Below.heap_alloc _ _ _ HB1.out.lt).trans HB1.out); have hc1 := hbx.cell; have hf1 := hbx.frozen; obtain ⟨ya, yc, e7⟩ := (OwnsI.reads hO').form; rw [List.length_append, List.length_singleton] at e7; subst e7; clear hO' hgrow hat hbx))
      all_goals exact ⟨(⟨HB5.out.size, fun k ob h _ => (HB5.out.block _ (Array.getElem?_eq_some_iff.1 h).1).trans h⟩ : KeepsOthers W w5).trans HM.out.1, (Keeps3.of HB5.out h7.size (by omega) (by omega) h6).trans HM.out.2.1, HM.out.2.2⟩
  case done =>
    rintro D W hD hor hK
    obtain ⟨v, h1, h2, h7⟩ : ∃ v, Boxed W (w.heap.size + 2) 39 v ∧ OwnsI W (w.heap.size + 5) v (xs.filter (Lk.nameK ns nl)) ∧ Below w.heap.size w W := by
      rcases hor with ⟨L, ⟨v, h1, h2, _⟩, _, _, h7, _⟩ | ⟨rfl, hb⟩
      · exact ⟨v, h1, h2, h7⟩
      · exact ⟨_, (hb.block _ (by omega)).trans hd2, World.ownsRow_nil _ _ _ _, hB0.trans (hb.mono (by omega))⟩
    have hc := h1.cell
    have H2 := hideT h2
    clear h1 h2 hor hseq hd0 hd1 hd2 hd3 hd4 hv
    gi_wp2
    refine ⟨by simp, .inl ⟨_, _, rfl, run_takeDeferred hK, ?_⟩⟩
    exact ⟨_, results_tmp rfl _ _ _, v, rfl, row_mono (B := w.heap.size) (C := w.heap.size + 5) (ownsRow_putObj H2.out _ hK rfl) (by omega), h7.trans (belowK_b (w := w) (Nat.le_refl _) W D _ _ (by omega) hK rfl rfl)⟩
end Go.Proofs.Ytoiedadfpbbdgaa
