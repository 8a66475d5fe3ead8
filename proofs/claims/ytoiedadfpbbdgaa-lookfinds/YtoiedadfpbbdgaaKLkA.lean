/- Texts laid as one. -/
import Derived.Test.YtoiedadfpbbdgaaKTreAE
import Derived.Test.YtoiedadfpbbdgaaKTreH
import Derived.Test.YtoiedadfpbbdgaaKTreGI
import Derived.Test.YtoiedadfpbbdgaaKLkM
import Derived.Test.YtoiedadfpbbdgaaKAscii
import Derived.Test.YtoiedadfpbbdgaaKTkQR
import Derived.Maps.Own
import Derived.Maps.OwnSet
/- The contracts of look's isPlace, attr, Attr, isOf, Has; the reference's Is and AttrIn. -/
set_option linter.unusedVariables false
set_option linter.unusedSimpArgs false
namespace Go.Proofs.Ytoiedadfpbbdgaa
open Go.RowKit
theorem doc_cell {w : World} {b : Nat} {x : Value} (h : w.heap[b]? = some (.cells #[x] 24 (0, 0))) : w.cell? ⟨b, 0, none⟩ = some x := Lib.cell_of_heap h 0
/-- A tree that is no greater than the contracts take. -/
structure Fair14 (ns : List Nd) : Prop where
  len : ns.length ≤ 140737488351232
  ats : ns.length ≤ 4096 → ∀ i, i < ns.length → (Tre.ndAt ns i).attrs.length ≤ 1000000
  val : Tre.mayB ns = true → ∀ i, i < ns.length → ∀ a ∈ (Tre.ndAt ns i).attrs, a.1.length ≤ 100000 ∧ a.2.length ≤ 100000
  txt : Tre.mayB ns = true → ∀ i, i < ns.length → (Tre.ndAt ns i).text.length ≤ 100000
  few : Tre.mayB ns = true → ns.length ≤ 1000
theorem Fair14.val_attr {ns : List Nd} (h : Fair14 ns) (hm : Tre.mayB ns = true) {i : Nat} (hi : i < ns.length) (q : List UInt8) : (Lk.attrF (Tre.ndAt ns i).attrs q).1.length ≤ 100000 := by
  rcases Lk.attr_mem (q := q) (Tre.ndAt ns i).attrs with e | ⟨a, ha, e⟩
  · rw [e]; exact Nat.zero_le _
  · rw [e]; exact (h.val hm i hi a ha).2
set_option maxHeartbeats 1000000 in
set_option maxRecDepth 100000 in
theorem isPlace_any (ns : List Nd) (v : Value) (at_ : Int) (w : World) (hv : ReadsN w v ns) (hf : Fair14 ns) :
    Calls Try.prog 33 #[.agg #[v], .int .i64 at_] w fun e w' => e = .returned (.bool (Lk.placeB ns at_)) ∧ Below w.heap.size w w' := by
  obtain ⟨a, c, rfl⟩ := hv.form
  have hb0 : Below w.heap.size w (w.alloc (.cells #[.slice a ns.length c] 24)) := (Below.refl _ _).alloc (Nat.le_refl _) _
  have cc0 := doc_cell (heap_new w (.cells #[.slice a ns.length c] 24))
  have HM := hideT (May_any ns _ _ (hv.below hb0) hf.len hf.ats)
  have HB0 := hideT hb0
  clear hv hb0 hf
  by_cases h1 : 0 ≤ at_
  · by_cases h2 : at_ < (ns.length : Int)
    · have HX : Hid (Lk.placeB ns at_ = Tre.mayB ns) := by
        show _ = _
        unfold Lk.placeB
        rw [decide_eq_true h1, decide_eq_true h2, Bool.true_and, Bool.true_and]
      generalize Tre.mayB ns = m at *
      go_enter Try.func33, Try.ntmps33
      go_wp2_with (go_at_call 55; refine HM.out.mono ?_; rintro e w1 ⟨rfl, b1⟩; have HQ := hideT (bel HB0.out b1); clear b1)
      go_ret
      exact ⟨ret_bool HX.out.symm, HQ.out⟩
    · have HX : Hid (Lk.placeB ns at_ = false) := Lk.place_high (by omega)
      clear HM
      go_enter Try.func33, Try.ntmps33
      go_wp2
      go_ret
      exact ⟨ret_bool HX.out.symm, HB0.out⟩
  · have HX : Hid (Lk.placeB ns at_ = false) := Lk.place_low (by omega)
    clear HM
    go_enter Try.func33, Try.ntmps33
    go_wp2
    go_ret
    exact ⟨ret_bool HX.out.symm, HB0.out⟩
set_option maxHeartbeats 1000000 in
set_option maxRecDepth 100000 in
theorem RIs14_any (ns : List Nd) (v : Value) (at_ : Int) (w : World) (hv : ReadsN w v ns) (hf : Fair14 ns) (hk : ns.length ≤ 4096 → ∀ i, i < ns.length → (Tre.ndAt ns i).kids.length ≤ 140737488351232) :
    Calls Try.prog 28 #[.agg #[v], .int .i64 at_] w fun e w' => e = .returned (.bool (Lk.placeB ns at_)) ∧ Below w.heap.size w w' := by
  obtain ⟨a, c, rfl⟩ := hv.form
  have hb0 : Below w.heap.size w (w.alloc (.cells #[.slice a ns.length c] 24)) := (Below.refl _ _).alloc (Nat.le_refl _) _
  have cc0 := doc_cell (heap_new w (.cells #[.slice a ns.length c] 24))
  have HM := hideT (RMay_any ns _ _ (hv.below hb0) hf.len (fun h4 i hi => ⟨hf.ats h4 i hi, hk h4 i hi⟩))
  have HB0 := hideT hb0
  clear hv hb0 hf hk
  by_cases h1 : 0 ≤ at_
  · by_cases h2 : at_ < (ns.length : Int)
    · have HX : Hid (Lk.placeB ns at_ = Tre.mayB ns) := by
        show _ = _
        unfold Lk.placeB
        rw [decide_eq_true h1, decide_eq_true h2, Bool.true_and, Bool.true_and]
      generalize Tre.mayB ns = m at *
      go_enter Try.func28, Try.ntmps28
      go_wp2_with (go_at_call 48; refine HM.out.mono ?_; rintro e w1 ⟨rfl, b1⟩; have HQ := hideT (bel HB0.out b1); clear b1)
      go_ret
      exact ⟨ret_bool HX.out.symm, HQ.out⟩
    · have HX : Hid (Lk.placeB ns at_ = false) := Lk.place_high (by omega)
      clear HM
      go_enter Try.func28, Try.ntmps28
      go_wp2
      go_ret
      exact ⟨ret_bool HX.out.symm, HB0.out⟩
  · have HX : Hid (Lk.placeB ns at_ = false) := Lk.place_low (by omega)
    clear HM
    go_enter Try.func28, Try.ntmps28
    go_wp2
    go_ret
    exact ⟨ret_bool HX.out.symm, HB0.out⟩
set_option maxHeartbeats 1000000 in
set_option maxRecDepth 100000 in
theorem attr14_any (n : Nd) (aa : Option Addr) (ac : Nat) (ka : Option Addr) (kc : Nat) (q : List UInt8) (w : World) (hv : ReadsPairs w (.slice aa n.attrs.length ac) n.attrs) (hl : n.attrs.length ≤ 1000000) :
    Calls Try.prog 34 #[nodeV n aa ac ka kc, .string (str q)] w fun e w' => e = .returned (.tuple #[.string (str (Lk.attrF n.attrs q).1), .bool (Lk.attrF n.attrs q).2]) ∧ Below w.heap.size w w' := by
  obtain ⟨k, nm, ats, tx, up, ks⟩ := n
  simp only at hv hl
  have hb0 : Below w.heap.size w (w.alloc (.cells #[.int .i64 k, .string (str nm), .slice aa ats.length ac, .string (str tx), .int .i64 up, .slice ka ks.length kc] 50)) := (Below.refl _ w).alloc (Nat.le_refl _) _
  have hh := heap_new w (.cells #[.int .i64 k, .string (str nm), .slice aa ats.length ac, .string (str tx), .int .i64 up, .slice ka ks.length kc] 50)
  have HV := hideT (hv.below hb0)
  have HB0 := hideT hb0
  have c2 := Lib.cell_of_heap hh 2
  clear hv hb0 hh
  go_enter Try.func34, Try.ntmps34
  go_wp2
  generalize (w.alloc (.cells #[.int .i64 k, .string (str nm), .slice aa ats.length ac, .string (str tx), .int .i64 up, .slice ka ks.length kc] 50)) = W0 at *
  clear c2
  go_loopw [11] (fun i wr => ∃ j : Nat, i = .int .i64 j ∧ j ≤ ats.length ∧ Hid (Tk.has (ats.take j) q = false) ∧ Below W0.heap.size W0 wr) (fun i _ => ats.length - (intOf i).toNat)
  case atStart => exact ⟨0, rfl, Nat.zero_le _, rfl, Below.refl _ _⟩
  case round =>
    obtain ⟨j, rfl, hj, HE, hB⟩ := hrel
    rename World => X
    by_cases hjl : j < ats.length
    · have hat : ats[j]? = some ats[j] := List.getElem?_eq_getElem hjl
      obtain ⟨b, o, rfl, hc, hbl, h1, h2⟩ := HV.out.at hat
      have g1 := (hB.cell (p := ⟨b, o + j * 2, none⟩) hbl).trans h1
      have g2 := (hB.cell (p := ⟨b, o + j * 2 + 1, none⟩) hbl).trans h2
      have hb2 : Below X.heap.size X (X.alloc (.cells #[.string (str ats[j].1), .string (str ats[j].2)] 54)) := (Below.refl _ _).alloc (Nat.le_refl _) _
      have HB2 := hideT (bel hB hb2)
      have qq := str_beq ats[j].1 q
      cases hq : (ats[j].1 == q)
      · have HN : Hid (Tk.has (ats.take (j + 1)) q = false) := by
          show _ = _
          rw [has_take ats q j hjl, HE.out, hq]
          rfl
        rw [hq] at qq
        clear hat h1 h2 hq hb2
        generalize ats[j] = p at *
        go_wp2
        go_roundw
        case rel => exact ⟨j + 1, by go_num, by omega, HN, HB2.out⟩
        case measure => simp [intOf]; omega
      · have HN := hideT (Lk.attr_here hjl HE.out hq)
        rw [hq] at qq
        clear hat h1 h2 hq hb2
        generalize ats[j] = p at *
        go_wp2
        go_ret2
        exact ⟨by rw [HN.out]; rfl, bel HB0.out HB2.out⟩
    · have HN : Hid (Lk.attrF ats q = ([], false)) := Lk.attr_none (by
        have h := HE.out
        rwa [List.take_of_length_le (by omega)] at h)
      go_wp2
      go_ret2
      exact ⟨by rw [HN.out]; rfl, bel HB0.out hB⟩
/-- What an attribute is told at a place. -/
def attrR14 (ns : List Nd) (at_ : Int) (q : List UInt8) : List UInt8 × Bool := if Lk.placeB ns at_ = true then Lk.attrF (Tre.ndAt ns at_.toNat).attrs q else ([], false)
set_option maxHeartbeats 2000000 in
set_option maxRecDepth 100000 in
theorem Attr14_any (ns : List Nd) (v : Value) (at_ : Int) (q : List UInt8) (w : World) (hv : ReadsN w v ns) (hf : Fair14 ns) :
    Calls Try.prog 10 #[.agg #[v], .int .i64 at_, .string (str q)] w fun e w' => e = .returned (.tuple #[.string (str (attrR14 ns at_ q).1), .bool (attrR14 ns at_ q).2]) ∧ Below w.heap.size w w' := by
  obtain ⟨a, c, rfl⟩ := hv.form
  have hb0 : Below w.heap.size w (w.alloc (.cells #[.slice a ns.length c] 24)) := (Below.refl _ _).alloc (Nat.le_refl _) _
  have cc0 := doc_cell (heap_new w (.cells #[.slice a ns.length c] 24))
  have lc := cell_lt cc0
  have HI := hideT (isPlace_any ns _ at_ _ (hv.below hb0) hf)
  have HB0 := hideT hb0
  cases hp : Lk.placeB ns at_
  · have HX : Hid (attrR14 ns at_ q = ([], false)) := by
      show _ = _
      unfold attrR14
      rw [hp]
      rfl
    rw [hp] at HI
    clear hv hb0 hf hp lc
    go_enter Try.func10, Try.ntmps10
    go_wp2_with (go_at_call 33; refine HI.out.mono ?_; rintro e w1 ⟨rfl, b1⟩; have HQ := hideT (bel HB0.out b1); clear b1)
    go_ret2
    exact ⟨by rw [HX.out]; rfl, HQ.out⟩
  · obtain ⟨i, rfl, hi, hm⟩ := Lk.place_yes hp
    have hn4 := ((Tre.mayB_iff ns).1 hm).1.2
    have HX : Hid (attrR14 ns (i : Int) q = Lk.attrF (Tre.ndAt ns i).attrs q) := by
      show _ = _
      unfold attrR14
      rw [hp, if_pos rfl, Int.toNat_natCast]
    rw [hp] at HI
    obtain ⟨g, o, aa, ac, ka, kc, rfl, hcc, hr⟩ := (hv.below hb0).at hi
    have hin : (i : Int) < (ns.length : Int) := by omega
    have hal := hf.ats hn4 i hi
    have HR := hideT hr
    clear hv hb0 hf hp hm hr
    go_enter Try.func10, Try.ntmps10
    generalize Tre.ndAt ns i = n at *
    go_wp2_with (first
      | (go_at_call 33; refine HI.out.mono ?_; rintro e w1 ⟨rfl, b1⟩; have HQ := hideT (bel HB0.out b1); have cc1 := (b1.cell (p := ⟨w.heap.size, 0, none⟩) lc).trans cc0; have HR1 := hideT (HR.out.below b1); clear b1 HR HI)
      | ((with_reducible show wpList _ _ _ ({ op := Op.load 50 _, .. } :: _) _ _); refine wpList_load_N (by rfl) _ rfl g (o + i * 6) rfl _ _ _ _ _ _ HR1.out.rng ?_)
      | (go_at_call 34; refine (attr14_any n aa ac ka kc q _ HR1.out.ats hal).mono ?_; rintro e w2 ⟨rfl, b2⟩; have HQ2 := hideT (bel HQ.out b2); clear b2))
    go_ret2
    exact ⟨by rw [HX.out]; rfl, HQ2.out⟩
set_option maxHeartbeats 1000000 in
set_option maxRecDepth 100000 in
theorem isOf14_any (n : Nd) (aa : Option Addr) (ac : Nat) (ka : Option Addr) (kc : Nat) (ts : List (List UInt8)) (v : Value) (w : World) (hv : ReadsTexts w v ts) (hl : ts.length ≤ 1000000) :
    Calls Try.prog 46 #[nodeV n aa ac ka kc, v] w fun e w' => e = .returned (.bool (ts.contains n.name)) ∧ Below w.heap.size w w' := by
  obtain ⟨k, nm, ats, tx, up, ks⟩ := n
  obtain ⟨a, c, rfl⟩ := ReadsTexts13.form hv
  have hb0 : Below w.heap.size w (w.alloc (.cells #[.int .i64 k, .string (str nm), .slice aa ats.length ac, .string (str tx), .int .i64 up, .slice ka ks.length kc] 50)) := (Below.refl _ w).alloc (Nat.le_refl _) _
  have hh := heap_new w (.cells #[.int .i64 k, .string (str nm), .slice aa ats.length ac, .string (str tx), .int .i64 up, .slice ka ks.length kc] 50)
  have HC := hideT (SContains_any ts _ nm _ (ReadsTexts13.below hv hb0) hl)
  have HB0 := hideT hb0
  have c1 := Lib.cell_of_heap hh 1
  clear hv hb0 hh
  go_enter Try.func46, Try.ntmps46
  go_wp2_with (go_at_call 38; refine HC.out.mono ?_; rintro e w1 ⟨rfl, hw1⟩; first | subst hw1 | have HQ := hideT (bel HB0.out hw1))
  go_ret
  refine ⟨?_, by first | exact HB0.out | exact HQ.out⟩
  first | rfl | exact ret_bool rfl | exact ret_bool (by simp)
end Go.Proofs.Ytoiedadfpbbdgaa
/- The contracts of look's Words and Has. -/
namespace Go.Proofs.Ytoiedadfpbbdgaa
open Go.RowKit Go.Maps Go.WideMaps
theorem lawS14 : Keyed Try.prog 9 := string_keyed Try.underlying9
theorem zeroE14 (w : World) : (zeroValue 60).run Try.prog w = .ok (.agg #[]) w := by kernel_rfl
/-- The map at g is the set of these words; at most c were put into it. -/
def Met14 (g c : Nat) (ks : List (List UInt8)) (w : World) : Prop :=
  ∃ n D, n ≤ c ∧ w.ownsMap Try.prog 9 (unitElem (H := Unit)) g n D ∧ ∀ t : List UInt8, Maps.has D (.string t) = ks.contains t
theorem Met14.keep {g c : Nat} {ks : List (List UInt8)} {w w' : World} (h : Met14 g c ks w) (hb : w'.heap[g]? = w.heap[g]?) : Met14 g c ks w' := by
  obtain ⟨n, D, hn, ⟨es, clock, h1, h2⟩, h3⟩ := h
  exact ⟨n, D, hn, ⟨es, clock, hb.trans h1, h2⟩, h3⟩
theorem Met14.lt {g c : Nat} {ks : List (List UInt8)} {w : World} (h : Met14 g c ks w) : g < w.heap.size := by
  obtain ⟨n, D, hn, ⟨es, clock, h1, h2⟩, h3⟩ := h
  exact (Array.getElem?_eq_some_iff.1 h1).1
theorem Met14.more {g c d : Nat} {ks : List (List UInt8)} {w : World} (h : Met14 g c ks w) (hc : c ≤ d) : Met14 g d ks w := by
  obtain ⟨n, D, hn, h2⟩ := h
  exact ⟨n, D, Nat.le_trans hn hc, h2⟩
theorem Met14.made (w : World) : Met14 w.heap.size 0 [] (w.alloc (.map #[] 0)) := ⟨0, .map [], Nat.le_refl _, World.ownsMap_made _ _ _ _, fun t => rfl⟩
def wordsR14 (ns : List Nd) (at_ : Int) (q : List UInt8) : List (List UInt8) := Lk.once (Asc.words (attrR14 ns at_ q).1)
theorem attrR14_len {ns : List Nd} (hf : Fair14 ns) (at_ : Int) (q : List UInt8) : (attrR14 ns at_ q).1.length ≤ 100000 := by
  unfold attrR14
  split
  · rename_i h
    obtain ⟨i, rfl, hi, hm⟩ := Lk.place_yes h
    rw [Int.toNat_natCast]
    exact hf.val_attr hm hi q
  · exact Nat.zero_le _
theorem map_other {A B : World} {g n : Nat} {D : DataW Unit} {P : Program} {k : TypeId} {R : Value → Option (DataW Unit × List MemPlace)} (h : A.ownsMap P k R g n D) (hb : B.heap[g]? = A.heap[g]?) : B.ownsMap P k R g n D := by
  obtain ⟨es, clock, h1, h2⟩ := h
  exact ⟨es, clock, hb.trans h1, h2⟩
set_option maxHeartbeats 8000000 in
set_option maxRecDepth 100000 in
theorem Words14_any (ns : List Nd) (v : Value) (at_ : Int) (q : List UInt8) (w : World) (hv : ReadsN w v ns) (hf : Fair14 ns) :
    Calls Try.prog 13 #[.agg #[v], .int .i64 at_, .string (str q)] w fun e w' => ∃ x, e = .returned x ∧ OwnsTexts w' w.heap.size x (wordsR14 ns at_ q) ∧ Below w.heap.size w w' := by
  obtain ⟨i0, hi, hz0, hz1, hz2⟩ := info_parts info9
  have hmm := @run_makeMap Try.prog
  obtain ⟨a, c, rfl⟩ := hv.form
  have hb0 : Below w.heap.size w (w.alloc (.cells #[.slice a ns.length c] 24)) := (Below.refl _ _).alloc (Nat.le_refl _) _
  have cc0 := doc_cell (heap_new w (.cells #[.slice a ns.length c] 24))
  have lc := cell_lt cc0
  have HA := hideT (Attr14_any ns _ at_ q _ (hv.below hb0) hf)
  have hal := attrR14_len hf at_ q
  have HB0 := hideT hb0
  have HX : Hid (wordsR14 ns at_ q = Lk.once (Asc.words (attrR14 ns at_ q).1)) := rfl
  generalize attrR14 ns at_ q = p at *
  obtain ⟨val, ok⟩ := p
  simp only at hal HX
  clear hv hb0 hf
  go_enter Try.func13, Try.ntmps13
  go_upto_region 4 with (go_at_call 10; refine HA.out.mono ?_; rintro e w1 ⟨rfl, b1⟩; have HB1 := hideT (bel HB0.out b1); clear b1)
  have HM0 := hideT (Met14.made w1)
  have HB2 : Hid (Below w.heap.size w (w1.alloc (.map #[] 0))) := HB1.out.alloc HB1.out.size _
  have hg : w1.heap.size < (w1.alloc (.map #[] 0)).heap.size := by simp
  have HGW := hideT HB1.out.size
  generalize (w1.alloc (.map #[] 0)) = W2 at *
  generalize w1.heap.size = g at *
  have HWo := hideT (Words_any (str val) W2 (by rw [str_size]; omega))
  rw [str_data] at HWo
  have hwl := Asc.words_len val
  have hws := fun x hx => Nat.le_trans (Lk.words_size val x hx) hal
  generalize Asc.words val = ts at *
  go_wp2_with (go_at_call 36; refine HWo.out.mono ?_; rintro e w3 ⟨x3, rfl, hO3, b3⟩; obtain ⟨a3, c3, rfl⟩ := ReadsTexts13.form hO3.reads; have HO3 := hideT hO3; have HB3 := hideT b3; clear hO3 b3)
  have HM3 := hideT (HM0.out.keep (HB3.out.block g hg))
  have HSZ := hideT HB3.out.size
  clear HM0 HA cc0 lc HWo
  go_loopw [9, 26] (fun x i wr => ∃ j : Nat, i = .int .i64 j ∧ j ≤ ts.length ∧ Hid (OwnsTexts wr w3.heap.size x (Lk.once (ts.take j))) ∧ Hid (Met14 g j (Lk.once (ts.take j)) wr) ∧ Hid (Below g w3 wr) ∧ Hid (∀ k, g < k → k < w3.heap.size → wr.heap[k]? = w3.heap[k]?)) (fun _ i _ => ts.length - (intOf i).toNat)
  case atStart => exact ⟨0, by go_num, Nat.zero_le _, OwnsTexts.nil _ _, HM3.out, Below.refl _ _, fun _ _ _ => rfl⟩
  case round =>
    obtain ⟨j, rfl, hj, HO, HM, HB, HK⟩ := hrel
    rename World => X
    have HOX : Hid (OwnsTexts X W2.heap.size (.slice a3 ts.length c3) ts) := row_keepK HO3.out (fun k hk hl => HK.out k (by have := (World.ownsRow.lt HO3.out k hk).1; omega) hl)
    by_cases hjl : j < ts.length
    · have hat : ts[j]? = some ts[j] := List.getElem?_eq_getElem hjl
      obtain ⟨tb, t0, rfl, htc, htl, tcell⟩ := ReadsTexts13.at HOX.out.reads hat
      obtain ⟨n, D, hn, hown, hhas⟩ := HM.out
      have HN := hideT (Lk.once_next ts j hjl)
      have hol := Lk.once_len ts j
      have hxl : ts[j].length ≤ 100000 := hws _ (List.getElem_mem hjl)
      generalize ts[j] = x at *
      have hkey : keyOf Try.prog 9 (.string (str x)) = some (.string x) := by
        have := keyOf_string_mk (s := str x) Try.underlying9 (by rw [str_size]; unfold maxLen; omega)
        rw [str_data] at this
        exact this
      have hh := hhas x
      have tcell : X.cell? ⟨tb, t0 + j, none⟩ = some (.string (str x)) := tcell
      have hgX : g < X.heap.size := HM.out.lt
      have hgW : g < w3.heap.size := Nat.lt_of_lt_of_le hg HSZ.out
      have hwX : w3.heap.size ≤ X.heap.size := HB.out.size
      have HHas := hideT hhas
      have HJ : Hid (j + 1 ≤ ts.length) := hjl
      have htidy := hown.tidy lawS14
      have HSame := hideT (has_put_same (k := .string x) htidy.isMap trivial (.agg [] : DataW Unit))
      have HOth := hideT (fun (y : List UInt8) (hy : y ≠ x) => (has_put_other (D := D) (fun e => hy (Lit.string.inj e)) (.agg [] : DataW Unit) : Maps.has (D.put (.string x) (.agg [])) (.string y) = Maps.has D (.string y)))
      clear hhas hat htidy
      cases hx : (Lk.once (ts.take j)).contains x
      · rw [hx] at hh
        have HN2 : Hid (Lk.once (ts.take (j + 1)) = Lk.once (ts.take j) ++ [x]) := by
          show _ = _
          rw [HN.out, Lk.ostep, hx]
          rfl
        have HX2 := hideT hx
        have hownA : (X.alloc (.cells #[] 60)).ownsMap Try.prog 9 (unitElem (H := Unit)) g n D := map_other hown (Below.heap_alloc _ _ _ hgX)
        clear hx
        go_wp2_with (first
          | (at_lookup; refine wpList_lookup_own_unit _ rfl _ _ 58 rfl 9 60 lawS14 Try.underlying58 (zeroE14 _) g n D rfl hown _ _ rfl hkey ?_)
          | (at_mapUpdate; refine wpList_mapUpdate_own _ rfl _ _ _ 58 rfl 9 60 lawS14 Try.underlying58 (unitElem (H := Unit)) g n D rfl hownA (by unfold maxLen; omega) _ _ _ rfl rfl hkey (.agg []) [] unitElem_mk ?_; intro w5 hown5 hgrow5; have hg5 := hgrow5.size; have HO5 := hideT (row_keepK HO.out (fun k hk hl => (hgrow5.block k (by simp; omega) (fun e => by have := (World.ownsRow.lt HO.out k hk).1; cases e; omega)).trans (Below.heap_alloc _ _ _ hl))); have HM5 := hideT hown5; have HG5 := hideT hgrow5; clear hown5 hgrow5)
          | (at_builtin; refine wpList_append_own _ rfl _ _ 31 rfl w3.heap.size 9 i0 (.string ByteArray.empty) 1 16 Try.underlying31 hi hz0 hz1 hz2 rfl (by decide) _ _ _ rfl (World.ownsRow.alloc HO5.out _) ⟨w5.heap.size, 0, none⟩ 1 1 [.string (str x)] rfl rfl (cell_one_new _ _ _) (fun y hy => by simp at hy; subst hy; rfl) (by unfold maxLen; omega) (by omega) (by simp at hg5 ⊢; omega) ?_; intro v6 w6 hown6 hgrow6 hnil6))
        have hk6 : ∀ k, k < X.heap.size → k ≠ g → k < w3.heap.size → w6.heap[k]? = X.heap[k]? := fun k hk hne hk3 => by
          rw [hgrow6.block k (by simp at hg5 ⊢; omega) (fun e => by have := (World.ownsRow.lt HO5.out k e.symm).1; omega), Below.heap_alloc _ _ _ (by simp at hg5; omega), HG5.out.block k (by simp; omega) (fun e => hne (by cases e; rfl)), Below.heap_alloc _ _ _ hk]
        have HK6 : Hid (∀ k, g < k → k < w3.heap.size → w6.heap[k]? = w3.heap[k]?) := fun k h1 h2 => (hk6 k (by omega) (by omega) h2).trans (HK.out k h1 h2)
        have HB6 : Hid (Below g w3 w6) := by
          have b1 := HB.out.alloc (by omega) (.cells #[] 60)
          have b2 := b1.grown HG5.out (by simp; omega) (fun k e => by cases e; exact Nat.le_refl _)
          have b3 := b2.alloc (by simp at hg5; omega) (.cells #[.string (str x)] 9)
          exact b3.grown hgrow6 (by simp at hg5 ⊢; omega) (fun k e => by have := (World.ownsRow.lt HO5.out k e).1; omega)
        have HO6 : Hid (OwnsTexts w6 w3.heap.size v6 (Lk.once (ts.take (j + 1)))) := OwnsTexts.of HN2.out rfl hown6
        have HM6 : Hid (Met14 g (j + 1) (Lk.once (ts.take (j + 1))) w6) := by
          refine ⟨n + 1, _, by omega, map_other HM5.out ?_, fun y => ?_⟩
          · rw [hgrow6.block g (by simp at hg5 ⊢; omega) (fun e => by have := (World.ownsRow.lt HO5.out g e.symm).1; omega), Below.heap_alloc _ _ _ (by simp at hg5; omega)]
          · rw [HN2.out]
            by_cases hy : y = x
            · rw [hy, HSame.out]
              simp
            · rw [HOth.out y hy, HHas.out y]
              simp [hy]
        clear hown6 hgrow6 hnil6 hk6
        go_roundw
        case rel => exact ⟨j + 1, by go_num, HJ.out, HO6, HM6, HB6, HK6⟩
        case measure => have := HJ.out; simp [intOf]; omega
      · rw [hx] at hh
        have HN2 : Hid (Lk.once (ts.take (j + 1)) = Lk.once (ts.take j)) := by
          show _ = _
          rw [HN.out, Lk.ostep, hx]
          rfl
        have HO6 : Hid (OwnsTexts (X.alloc (.cells #[] 60)) w3.heap.size u9 (Lk.once (ts.take (j + 1)))) := by
          rw [HN2.out]
          exact ownsRow_below HO.out ((Below.refl _ X).alloc (Nat.le_refl _) _)
        have HM6 : Hid (Met14 g (j + 1) (Lk.once (ts.take (j + 1))) (X.alloc (.cells #[] 60))) := by
          rw [HN2.out]
          exact (HM.out.keep (Below.heap_alloc _ _ _ hgX)).more (by omega)
        have HB6 : Hid (Below g w3 (X.alloc (.cells #[] 60))) := HB.out.alloc (by omega) _
        have HK6 : Hid (∀ k, g < k → k < w3.heap.size → (X.alloc (.cells #[] 60)).heap[k]? = w3.heap[k]?) := fun k h1 h2 => (Below.heap_alloc _ _ _ (by omega)).trans (HK.out k h1 h2)
        clear hx
        go_wp2_with (first
          | (at_lookup; refine wpList_lookup_own_unit _ rfl _ _ 58 rfl 9 60 lawS14 Try.underlying58 (zeroE14 _) g n D rfl hown _ _ rfl hkey ?_))
        go_roundw
        case rel => exact ⟨j + 1, by go_num, HJ.out, HO6, HM6, HB6, HK6⟩
        case measure => have := HJ.out; simp [intOf]; omega
    · have hje : j = ts.length := by omega
      have HR : Hid (Lk.once (ts.take j) = wordsR14 ns at_ q) := by
        show _ = _
        rw [hje, List.take_length, HX.out]
      have HBX : Hid (Below w.heap.size w X) := (HB2.out.trans (HB3.out.mono HB2.out.size)).trans (HB.out.mono HGW.out)
      clear hje
      go_wp2
      go_ret
      exact ⟨_, rfl, by rw [← HR.out]; exact OwnsTexts13.mono HO.out (by have := HB2.out.size; have := HB3.out.size; omega), HBX.out⟩
end Go.Proofs.Ytoiedadfpbbdgaa
/- The contracts of look's Has, Kids and Only. -/
namespace Go.Proofs.Ytoiedadfpbbdgaa
open Go.RowKit
def hasR14 (ns : List Nd) (at_ : Int) (q : List UInt8) : Bool := (Asc.words (attrR14 ns at_ Lk.classN).1).contains q
set_option maxHeartbeats 2000000 in
set_option maxRecDepth 100000 in
theorem Has14_any (ns : List Nd) (v : Value) (at_ : Int) (q : List UInt8) (w : World) (hv : ReadsN w v ns) (hf : Fair14 ns) :
    Calls Try.prog 15 #[.agg #[v], .int .i64 at_, .string (str q)] w fun e w' => e = .returned (.bool (hasR14 ns at_ q)) ∧ Below w.heap.size w w' := by
  obtain ⟨a, c, rfl⟩ := hv.form
  have hb0 : Below w.heap.size w (w.alloc (.cells #[.slice a ns.length c] 24)) := (Below.refl _ _).alloc (Nat.le_refl _) _
  have cc0 := doc_cell (heap_new w (.cells #[.slice a ns.length c] 24))
  have HA := hideT (Attr14_any ns _ at_ Lk.classN _ (hv.below hb0) hf)
  rw [show str Lk.classN = ⟨#[99, 108, 97, 115, 115]⟩ from rfl] at HA
  have hal := attrR14_len hf at_ Lk.classN
  have HB0 := hideT hb0
  have HX : Hid (hasR14 ns at_ q = (Asc.words (attrR14 ns at_ Lk.classN).1).contains q) := rfl
  generalize attrR14 ns at_ Lk.classN = p at *
  obtain ⟨val, ok⟩ := p
  simp only at hal HX
  have hwl := Asc.words_len val
  have HWo := hideT (fun W => Words_any (str val) W (by rw [str_size]; omega))
  simp only [str_data] at HWo
  generalize Asc.words val = ts at *
  clear hv hb0 hf
  go_enter Try.func15, Try.ntmps15
  go_wp2_with (first
    | (go_at_call 10; refine HA.out.mono ?_; rintro e w1 ⟨rfl, b1⟩; have HB1 := hideT (bel HB0.out b1); clear b1)
    | (go_at_call 36; refine (HWo.out _).mono ?_; rintro e w3 ⟨x3, rfl, hO3, b3⟩; obtain ⟨a3, c3, rfl⟩ := ReadsTexts13.form hO3.reads; have HO3 := hideT hO3.reads; have HB3 := hideT (bel HB1.out b3); clear hO3 b3)
    | (go_at_call 38; refine (SContains_any ts _ q _ HO3.out (by omega)).mono ?_; rintro e w4 ⟨rfl, hw4⟩; first | subst hw4 | have HB4 := hideT (bel HB3.out hw4)))
  go_ret
  exact ⟨by rw [HX.out]; first | rfl | exact ret_bool (by simp), by first | exact HB3.out | exact HB4.out⟩
def kidsR14 (ns : List Nd) (at_ : Int) : List Int := if Lk.placeB ns at_ = true then Lk.kidsE ns at_.toNat else []
theorem kidsE_len {ns : List Nd} (hm : Tre.mayB ns = true) {i : Nat} (hi : i < ns.length) : (Lk.kidsE ns i).length ≤ ns.length := by
  unfold Lk.kidsE
  refine Nat.le_trans (List.length_filter_le _ _) ?_
  rw [Tre.may_kids hm hi]
  exact Tre.kidsTo_le ns i _
theorem filter_next {α : Type} (p : α → Bool) (l : List α) (j : Nat) (h : j < l.length) : (l.take (j + 1)).filter p = (l.take j).filter p ++ (if p l[j] = true then [l[j]] else []) := by
  rw [List.take_succ_eq_append_getElem h, List.filter_append]
  congr 1
  by_cases hp : p l[j] = true
  · rw [if_pos hp, List.filter_cons_of_pos hp, List.filter_nil]
  · rw [if_neg hp, List.filter_cons_of_neg hp, List.filter_nil]
set_option maxHeartbeats 4000000 in
set_option maxRecDepth 100000 in
theorem Kids14_any (ns : List Nd) (v : Value) (at_ : Int) (w : World) (hv : ReadsN w v ns) (hf : Fair14 ns) :
    Calls Try.prog 22 #[.agg #[v], .int .i64 at_] w fun e w' => ∃ x, e = .returned x ∧ OwnsI w' w.heap.size x (kidsR14 ns at_) ∧ Below w.heap.size w w' := by
  obtain ⟨a, c, rfl⟩ := hv.form
  have hb0 : Below w.heap.size w (w.alloc (.cells #[.slice a ns.length c] 24)) := (Below.refl _ _).alloc (Nat.le_refl _) _
  have cc0 := doc_cell (heap_new w (.cells #[.slice a ns.length c] 24))
  have lc := cell_lt cc0
  have HI := hideT (isPlace_any ns _ at_ _ (hv.below hb0) hf)
  have HB0 := hideT hb0
  have HV0 := hideT (hv.below hb0)
  cases hp : Lk.placeB ns at_
  · have HX : Hid (kidsR14 ns at_ = []) := by
      show _ = _
      unfold kidsR14
      rw [hp]
      rfl
    rw [hp] at HI
    clear hv hb0 hf hp lc HV0
    go_enter Try.func22, Try.ntmps22
    go_wp2_with (go_at_call 33; refine HI.out.mono ?_; rintro e w1 ⟨rfl, b1⟩; have HQ := hideT (bel HB0.out b1); clear b1)
    go_ret
    exact ⟨_, rfl, by rw [HX.out]; exact World.ownsRow_nil _ _ _ _, HQ.out⟩
  · obtain ⟨i, rfl, hi, hm⟩ := Lk.place_yes hp
    have hn4 := hf.few hm
    have HX : Hid (kidsR14 ns (i : Int) = (Tre.ndAt ns i).kids.filter (Lk.elemK ns)) := by
      show _ = _
      unfold kidsR14
      rw [hp, if_pos rfl, Int.toNat_natCast]
      rfl
    have HMem := hideT (fun k hk => Tre.may_kid hm hi (k := k) hk)
    have hkl : (Tre.ndAt ns i).kids.length ≤ 1000 := by
      rw [Tre.may_kids hm hi]
      exact Nat.le_trans (Tre.kidsTo_le ns i _) hn4
    rw [hp] at HI
    obtain ⟨g, o, rfl, hcc, hgl, hall⟩ := HV0.out.spot (by omega)
    obtain ⟨aa, ac, ka, kc, hr⟩ := hall i hi
    have hin : (i : Int) < (ns.length : Int) := by omega
    have HR := hideT hr
    clear hv hb0 hf hp hm hr hall
    go_enter Try.func22, Try.ntmps22
    generalize (Tre.ndAt ns i) = nd at *
    go_upto_region 4 with (go_at_call 33; refine HI.out.mono ?_; rintro e w1 ⟨rfl, b1⟩; have HQ := hideT (bel HB0.out b1); have cc1 := (b1.cell (p := ⟨w.heap.size, 0, none⟩) lc).trans cc0; have HR1 := hideT (HR.out.below b1); have HV1 := hideT (HV0.out.below b1); have lc1 := Nat.lt_of_lt_of_le lc b1.size; clear b1 HR HI cc0)
    have c5 := HR1.out.c5
    have HKD := hideT HR1.out.kds
    clear HR1 HV0
    go_wp2
    go_loopw [5, 19] (fun x i wr => ∃ j : Nat, i = .int .i64 j ∧ j ≤ nd.kids.length ∧ Hid (OwnsI wr w1.heap.size x ((nd.kids.take j).filter (Lk.elemK ns))) ∧ Hid (Below w1.heap.size w1 wr)) (fun _ i _ => nd.kids.length - (intOf i).toNat)
    case atStart => exact ⟨0, by go_num, Nat.zero_le _, OwnsI.nil _ _, Below.refl _ _⟩
    case round =>
      obtain ⟨j, rfl, hj, HO, HB⟩ := hrel
      rename World => X
      by_cases hjl : j < nd.kids.length
      · have hat : nd.kids[j]? = some nd.kids[j] := List.getElem?_eq_getElem hjl
        obtain ⟨kb, ko, rfl, hkc, hkb, hcell⟩ := (HKD.out.below HB.out).at hat
        obtain ⟨kx, hkx, hik, hkn, _⟩ := HMem.out nd.kids[j] (List.getElem_mem hjl)
        have HF := hideT (filter_next (Lk.elemK ns) nd.kids j hjl)
        rw [hkx] at hcell HF
        obtain ⟨aa2, ac2, ka2, kc2, hr2⟩ := (by
          obtain ⟨b', o', aa, ac, ka, kc, e, _, hr⟩ := (HV1.out.below HB.out).at hkn
          cases e
          exact ⟨aa, ac, ka, kc, hr⟩ : ∃ aa ac ka kc, NdR X g (o + kx * 6) (Tre.ndAt ns kx) aa ac ka kc)
        have c0 := hr2.c0
        have cdX := (HB.out.cell (p := ⟨w.heap.size, 0, none⟩) lc1).trans cc1
        have hE : Lk.elemK ns (kx : Int) = ((Tre.ndAt ns kx).kind == 2) := by unfold Lk.elemK; rw [Int.toNat_natCast]
        rw [hE] at HF
        have HJ : Hid (j + 1 ≤ nd.kids.length) := hjl
        have hfl : ((nd.kids.take j).filter (Lk.elemK ns)).length ≤ 1000 := Nat.le_trans (List.length_filter_le _ _) (by rw [List.length_take]; omega)
        clear hat hkx hr2 hE hkb
        generalize (Tre.ndAt ns kx).kind = kd at *
        cases hk2 : (kd == (2 : Int))
        · rw [hk2] at HF
          have hk3 := hk2
          clear hk2
          go_wp2
          go_roundw
          case rel => exact ⟨j + 1, by go_num, HJ.out, by rw [HF.out, if_neg (by simp), List.append_nil]; exact HO.out, HB⟩
          case measure => have := HJ.out; simp [intOf]; omega
        · rw [hk2] at HF
          have hkd : kd = 2 := by simpa using hk2
          subst hkd
          clear hk2
          go_wp2_with (at_builtin; refine wpList_append_I rfl _ _ rfl w1.heap.size _ _ rfl (ownsRow_below HO.out ((Below.refl _ X).alloc (Nat.le_refl _) _)) X.heap.size 1 rfl (kx : Int) (Lib.cell_of_heap (heap_new X _) 0) (by omega) (by have := HB.out.size; simp; omega) ?_; intro v7 w7 hO7 g7 hat7)
          have HB7 : Hid (Below w1.heap.size w1 w7) := (HB.out.alloc HB.out.size (.cells #[.int .i64 (kx : Int)] 3)).grown g7 (by have := HB.out.size; simp; omega) (fun q e => (World.ownsRow.lt HO.out q e).1)
          have HO7 := hideT hO7
          clear hO7 g7 hat7
          go_roundw
          case rel => exact ⟨j + 1, by go_num, HJ.out, by rw [HF.out, if_pos rfl]; exact HO7.out, HB7⟩
          case measure => have := HJ.out; simp [intOf]; omega
      · have hje : j = nd.kids.length := by omega
        have HR2 : Hid ((nd.kids.take j).filter (Lk.elemK ns) = kidsR14 ns (i : Int)) := by
          show _ = _
          rw [hje, List.take_length, HX.out]
        have HBX := hideT (bel HQ.out HB.out)
        clear hje
        go_wp2
        go_ret
        exact ⟨_, rfl, by rw [← HR2.out]; exact row_mono HO.out HQ.out.size, HBX.out⟩
end Go.Proofs.Ytoiedadfpbbdgaa
/- The contract of the laws' far (written by tools/mklkfar.py). -/
namespace Go.Proofs.Ytoiedadfpbbdgaa
open Go.RowKit
set_option maxHeartbeats 8000000 in
set_option maxRecDepth 100000 in
theorem far14_any (ns : List Nd) (v : Value) (w : World) (hv : ReadsN w v ns) (hl : ns.length ≤ 140737488351232) :
    Calls Try.prog 8 #[.agg #[v]] w fun e w' => e = .returned (.bool (Lk.farL 3000 200 ns)) ∧ Below w.heap.size w w' := by
  obtain ⟨a, c, rfl⟩ := hv.form
  have hb0 : Below w.heap.size w (w.alloc (.cells #[.slice a ns.length c] 24)) := (Below.refl _ w).alloc (Nat.le_refl _) _
  have cd := doc_cell (heap_new w (.cells #[.slice a ns.length c] 24))
  have HV := hideT (hv.below hb0)
  have hcap : ns.length ≤ c := by
    rcases hv with ⟨_, _, e, rfl⟩ | ⟨_, _, _, e, hc, _⟩
    · exact Nat.zero_le _
    · cases e; exact hc
  have HB0 := hideT hb0
  have hds := cell_lt cd
  obtain ⟨m, hm⟩ : ∃ m, min ns.length 200 = m := ⟨_, rfl⟩
  have hmI : min (ns.length : Int) 200 = (m : Int) := by omega
  have hm1 : m ≤ ns.length := by omega
  have hm2 : m ≤ 200 := by omega
  have hmc : m ≤ c := by omega
  have HM := hideT hm
  have HL := hideT hl
  clear hv hb0 hm
  go_enter Try.func8, Try.ntmps8
  go_wp2
  generalize (w.alloc (.cells #[.slice a ns.length c] 24)) = W0 at *
  clear hcap
  go_loopw [3, 16] (fun x i wr => ∃ j N : Nat, x = .int .i64 N ∧ i = .int .i64 j ∧ j ≤ m ∧ Hid (N = Lk.nTo 3000 ns j) ∧ Hid (∀ i, i < j → (Tre.ndAt ns i).attrs.length ≤ 100) ∧ Hid (Below W0.heap.size W0 wr)) (fun _ i _ => m - (intOf i).toNat)
  case atStart => exact ⟨0, 0, by go_num, rfl, Nat.zero_le _, rfl, fun i hi => absurd hi (Nat.not_lt_zero _), Below.refl _ _⟩
  case round =>
    obtain ⟨j, N, rfl, rfl, hj, HN, HS, HB⟩ := hrel
    have hfl := Lk.nTo_le 3000 (by decide) ns j (by omega) HS.out
    have hNb : N ≤ 140000000 := by have := HN.out; omega
    have cdX := (HB.out.cell (p := ⟨w.heap.size, 0, none⟩) hds).trans cd
    rename World => X
    clear hfl
    by_cases hjm : j < m
    · have hjl : j < ns.length := by omega
      obtain ⟨g, o, aa, ac, ka, kc, rfl, hc, hr⟩ := (HV.out.below HB.out).at hjl
      have hrng := hideT hr.rng
      have HA := hideT hr.ats
      have hacap : (Tre.ndAt ns j).attrs.length ≤ ac := by
        rcases hr.ats with ⟨_, _, e, e2⟩ | ⟨_, _, _, e, hc, _⟩
        · rw [e2]; exact Nat.zero_le _
        · cases e; exact hc
      have HNX := hideT (Lk.nTo_next 3000 ns j hjl)
      have HBIG := hideT (fun h => Lk.farL_big (M := 3000) (K := 200) hjl (by omega : j < 200) h)
      have HJ : Hid (j + 1 ≤ m) := hjm
      have HSx : Hid ((Tre.ndAt ns j).attrs.length ≤ 100 → ∀ i, i < j + 1 → (Tre.ndAt ns i).attrs.length ≤ 100) := fun h i hi => by
        by_cases e : i = j
        · rw [e]; exact h
        · exact HS.out i (by omega)
      clear hr HS
      generalize Tre.ndAt ns j = q at *
      obtain ⟨qk, qn, qa, qx, qu, qs⟩ := q
      simp only at hacap
      have sp1 := str_size qn
      have sp2 := str_size qx
      obtain ⟨y1, hy1⟩ : ∃ y, min qn.length 3000 = y := ⟨_, rfl⟩
      obtain ⟨y2, hy2⟩ : ∃ y, min qx.length 3000 = y := ⟨_, rfl⟩
      obtain ⟨y3, hy3⟩ : ∃ y, min qs.length 3000 = y := ⟨_, rfl⟩
      have hy1I : min (qn.length : Int) 3000 = (y1 : Int) := by omega
      have hy2I : min (qx.length : Int) 3000 = (y2 : Int) := by omega
      have hy3I : min (qs.length : Int) 3000 = (y3 : Int) := by omega
      have hy1b : y1 ≤ 3000 := by omega
      have hy2b : y2 ≤ 3000 := by omega
      have hy3b : y3 ≤ 3000 := by omega
      have HN2 : Hid (N + (y1 + y2 + y3) + Lk.aTo 3000 qa qa.length = Lk.nTo 3000 ns (j + 1)) := by
        show _ = _
        rw [HNX.out]
        unfold Lk.wNd
        rw [hy1, hy2, hy3, ← HN.out]
        simp only
        omega
      have hb1 : Below X.heap.size X (X.alloc (.cells #[.int .i64 qk, .string (str qn), .slice aa qa.length ac, .string (str qx), .int .i64 qu, .slice ka qs.length kc] 50)) := (Below.refl _ _).alloc (Nat.le_refl _) _
      have hq1 := heap_new X (.cells #[.int .i64 qk, .string (str qn), .slice aa qa.length ac, .string (str qx), .int .i64 qu, .slice ka qs.length kc] 50)
      have HA1 := hideT (HA.out.below hb1)
      have HB1 := hideT (bel HB.out hb1)
      have hlt1 := cell_lt (Lib.cell_of_heap hq1 0)
      have HQ1 := hideT hq1
      have HLT1 := hideT hlt1
      have c2 := Lib.cell_of_heap hq1 2
      clear hy1 hy2 hy3 HNX hb1 hq1 hlt1 HN HA
      by_cases h100 : 100 < qa.length
      · have h1I : (100 : Int) < (qa.length : Int) := by omega
        have HR := hideT (HBIG.out h100)
        clear h100 HBIG HSx HA1 HQ1
        go_wp2_with ((with_reducible show wpList _ _ _ ({ op := Op.load 50 _, .. } :: _) _ _); refine wpList_load_N (by rfl) _ rfl g (o + j * 6) rfl _ _ _ _ _ _ hrng.out ?_)
        go_ret
        exact ⟨by rw [HR.out]; rfl, HB0.out.trans (HB1.out.mono HB0.out.size)⟩
      have h1I : ¬ (100 : Int) < (qa.length : Int) := by omega
      have HS2 := hideT (HSx.out (by show qa.length ≤ 100; omega))
      have hq100 : qa.length ≤ 100 := by omega
      clear h100 HBIG HSx
      go_wp2_with ((with_reducible show wpList _ _ _ ({ op := Op.load 50 _, .. } :: _) _ _); refine wpList_load_N (by rfl) _ rfl g (o + j * 6) rfl _ _ _ _ _ _ hrng.out ?_)
      generalize (X.alloc (.cells #[.int .i64 qk, .string (str qn), .slice aa qa.length ac, .string (str qx), .int .i64 qu, .slice ka qs.length kc] 50)) = X1 at *
      clear hacap c2
      go_loopw [3, 43] (fun x i wr => ∃ k M : Nat, x = .int .i64 M ∧ i = .int .i64 k ∧ k ≤ qa.length ∧ Hid (M = N + (y1 + y2 + y3) + Lk.aTo 3000 qa k) ∧ Hid (Below X1.heap.size X1 wr)) (fun _ i _ => qa.length - (intOf i).toNat)
      case atStart => exact ⟨0, N + (y1 + y2 + y3), by go_num, rfl, Nat.zero_le _, by show _ = _; simp [Lk.aTo], Below.refl _ _⟩
      case round =>
        obtain ⟨k, M, rfl, rfl, hk, HM2, HC⟩ := hrel
        have hal := Lk.aTo_le 3000 (by decide) qa k
        have hMb : M ≤ 150000000 := by have := HM2.out; omega
        rename World => Y
        clear hal
        by_cases hkm : k < qa.length
        · have hkl : k < qa.length := by omega
          have hat : qa[k]? = some qa[k] := List.getElem?_eq_getElem hkl
          obtain ⟨b', o', rfl, hc', hbl, z1, z2⟩ := (HA1.out.below HC.out).at hat
          have han := hideT (Lk.aTo_next 3000 qa k hkl)
          have hb2 : Below Y.heap.size Y (Y.alloc (.cells #[.string (str qa[k].1), .string (str qa[k].2)] 54)) := (Below.refl _ _).alloc (Nat.le_refl _) _
          have HC1 := hideT (bel HC.out hb2)
          clear hat hb2
          generalize qa[k] = p at *
          have sq1 := str_size p.1
          have sq2 := str_size p.2
          obtain ⟨x1, hx1⟩ : ∃ y, min p.1.length 3000 = y := ⟨_, rfl⟩
          obtain ⟨x2, hx2⟩ : ∃ y, min p.2.length 3000 = y := ⟨_, rfl⟩
          have hx1I : min (p.1.length : Int) 3000 = (x1 : Int) := by omega
          have hx2I : min (p.2.length : Int) 3000 = (x2 : Int) := by omega
          have hx1b : x1 ≤ 3000 := by omega
          have hx2b : x2 ≤ 3000 := by omega
          have HM3 : Hid (M + (x1 + x2 + 1) = N + (y1 + y2 + y3) + Lk.aTo 3000 qa (k + 1)) := by
            show _ = _
            rw [han.out, HM2.out]
            unfold Lk.wAt
            rw [hx1, hx2]
            omega
          have HK : Hid (k + 1 ≤ qa.length) := hkm
          clear hx1 hx2 han HM2
          go_wp2
          go_roundw
          case rel => exact ⟨k + 1, M + (x1 + x2 + 1), by go_num, by go_num, HK.out, HM3, HC1⟩
          case measure => have := HK.out; simp [intOf]; omega
        · have hkm2 : k = qa.length := by omega
          have HM3 : Hid (M = Lk.nTo 3000 ns (j + 1)) := by
            show _ = _
            rw [HM2.out, hkm2, HN2.out]
          have hnk : ¬ ((k : Int) < (qa.length : Int)) := by omega
          have HBY := hideT (bel HB1.out HC.out)
          clear hkm2 HC HM2
          go_wp2
          go_roundw
          case rel => exact ⟨j + 1, M, by go_num, by go_num, HJ.out, HM3, HS2, HBY⟩
          case measure => have := HJ.out; simp [intOf]; omega
    · have hjm2 : j = m := by omega
      subst hjm2
      have HF := hideT (Lk.farL_end (M := 3000) (K := 200) HM.out HS.out)
      rw [← HN.out] at HF
      clear HN HS
      by_cases hN2 : 3000 < N
      · have hNI : (3000 : Int) < (N : Int) := by omega
        rw [decide_eq_true hN2, Bool.true_or] at HF
        clear hN2
        go_wp2
        go_ret
        exact ⟨by rw [HF.out]; rfl, HB0.out.trans (HB.out.mono HB0.out.size)⟩
      · have hNI : ¬ (3000 : Int) < (N : Int) := by omega
        rw [decide_eq_false hN2, Bool.false_or] at HF
        clear hN2
        by_cases h200 : 200 < ns.length
        · have h2I : (200 : Int) < (ns.length : Int) := by omega
          rw [decide_eq_true h200] at HF
          clear h200
          go_wp2
          go_ret
          exact ⟨by rw [HF.out]; rfl, HB0.out.trans (HB.out.mono HB0.out.size)⟩
        · have h2I : ¬ (200 : Int) < (ns.length : Int) := by omega
          rw [decide_eq_false h200] at HF
          clear h200
          go_wp2
          go_ret
          exact ⟨by rw [HF.out]; rfl, HB0.out.trans (HB.out.mono HB0.out.size)⟩
end Go.Proofs.Ytoiedadfpbbdgaa
