/- Texts laid as one. -/
import Derived.Test.YtoiedadfpbbdgaaKLkA
/- The contract of the reference's AttrIn. -/
set_option linter.unusedVariables false
set_option linter.unusedSimpArgs false
namespace Go.Proofs.Ytoiedadfpbbdgaa
open Go.RowKit
set_option maxHeartbeats 2000000 in
set_option maxRecDepth 100000 in
theorem RAttrIn14_any (ns : List Nd) (v : Value) (i : Nat) (q : List UInt8) (w : World) (hv : ReadsN w v ns) (hi : i < ns.length) (hn : ns.length ≤ 140737488351232) (hl : (Tre.ndAt ns i).attrs.length ≤ 1000000) :
    Calls Try.prog 35 #[.agg #[v], .int .i64 (i : Int), .string (str q)] w fun e w' => e = .returned (.tuple #[.string (str (Lk.attrF (Tre.ndAt ns i).attrs q).1), .bool (Lk.attrF (Tre.ndAt ns i).attrs q).2]) ∧ Below w.heap.size w w' := by
  obtain ⟨a, c, rfl⟩ := hv.form
  have hb0 : Below w.heap.size w (w.alloc (.cells #[.slice a ns.length c] 24)) := (Below.refl _ _).alloc (Nat.le_refl _) _
  have cc0 := doc_cell (heap_new w (.cells #[.slice a ns.length c] 24))
  obtain ⟨g, o, aa, ac, ka, kc, rfl, hcc, hr⟩ := (hv.below hb0).at hi
  have hin : (i : Int) < (ns.length : Int) := by omega
  have c2 := hr.c2
  have HV := hideT hr.ats
  have HB0 := hideT hb0
  clear hv hb0 hr
  generalize (Tre.ndAt ns i).attrs = ats at *
  go_enter Try.func35, Try.ntmps35
  go_wp2
  generalize (w.alloc (.cells #[.slice (some ⟨g, o, none⟩) ns.length c] 24)) = W0 at *
  go_loopw [9] (fun i wr => ∃ j : Nat, i = .int .i64 j ∧ j ≤ ats.length ∧ Hid (Tk.has (ats.take j) q = false) ∧ wr = W0) (fun i _ => ats.length - (intOf i).toNat)
  case atStart => exact ⟨0, by go_num, Nat.zero_le _, rfl, rfl⟩
  case round =>
    obtain ⟨j, rfl, hj, HE, hB⟩ := hrel
    replace hB := hB.symm
    subst hB
    by_cases hjl : j < ats.length
    · have hat : ats[j]? = some ats[j] := List.getElem?_eq_getElem hjl
      obtain ⟨b, o2, rfl, hc, hbl, h1, h2⟩ := HV.out.at hat
      have qq := str_beq ats[j].1 q
      cases hq : (ats[j].1 == q)
      · have HN : Hid (Tk.has (ats.take (j + 1)) q = false) := by
          show _ = _
          rw [has_take ats q j hjl, HE.out, hq]
          rfl
        rw [hq] at qq
        clear hat h2 hq
        generalize ats[j] = p at *
        go_wp2
        go_roundw
        case rel => exact ⟨j + 1, by go_num, by omega, HN, by first | rfl | trivial⟩
        case measure => simp [intOf]; omega
      · have HN := hideT (Lk.attr_here hjl HE.out hq)
        rw [hq] at qq
        clear hat hq
        generalize ats[j] = p at *
        go_wp2
        go_ret2
        exact ⟨by rw [HN.out]; rfl, HB0.out⟩
    · have HN : Hid (Lk.attrF ats q = ([], false)) := Lk.attr_none (by
        have h := HE.out
        rwa [List.take_of_length_le (by omega)] at h)
      go_wp2
      go_ret2
      exact ⟨by rw [HN.out]; rfl, HB0.out⟩
end Go.Proofs.Ytoiedadfpbbdgaa
