/- Texts laid as one. -/
import Derived.Test.YtiodaahncadodaaGreatDoorKRfEF
import Derived.Test.YtiodaahncadodaaGreatDoorKRfGK
/- Contracts of the reference's names, windows, starts, Name and Number. -/
set_option linter.unusedVariables false
set_option linter.unusedSimpArgs false
namespace Go.Proofs.YtiodaahncadodaaGreatDoor
open Go.RowKit
theorem starts_any (l p : List UInt8) (w : World) :
    Calls Tryz.prog 110 #[.string (str l), .string (str p)] w fun e w' => e = .returned (.bool (p.isPrefixOf l)) ∧ w' = w := by
  have h1 := str_size l
  have h2 := str_size p
  have he : (str l).extract 0 p.length = str (l.take p.length) := str_to l _
  by_cases h : p.length ≤ l.length
  · have hI : (p.length : Int) ≤ (l.length : Int) := by omega
    by_cases hq : l.take p.length = p
    · have q := str_beq_yes hq
      have HP : Hid (p.isPrefixOf l = true) := List.isPrefixOf_iff_prefix.2 (by rw [← hq]; exact List.take_prefix _ _)
      clear hq
      generalize l.take p.length = u at *
      go_enter Tryz.func110, Tryz.ntmps110
      go_wp2
      go_ret
      exact ⟨ret_bool (by rw [HP.out]), rfl⟩
    · have q := str_beq_no hq
      have HP : Hid (p.isPrefixOf l = false) := by
        show _ = _
        rw [Bool.eq_false_iff]
        intro e
        obtain ⟨r, rfl⟩ := List.isPrefixOf_iff_prefix.1 e
        exact hq List.take_left
      clear hq
      generalize l.take p.length = u at *
      go_enter Tryz.func110, Tryz.ntmps110
      go_wp2
      go_ret
      exact ⟨ret_bool (by rw [HP.out]), rfl⟩
  · have hI : ¬ (p.length : Int) ≤ (l.length : Int) := by omega
    have HP : Hid (p.isPrefixOf l = false) := by
      show _ = _
      rw [Bool.eq_false_iff]
      intro e
      have := (List.isPrefixOf_iff_prefix.1 e).length_le
      omega
    clear he
    go_enter Tryz.func110, Tryz.ntmps110
    go_wp2
    go_ret
    exact ⟨ret_bool (by rw [HP.out]), rfl⟩
def ReadsTab (w : World) (b : Nat) (T : Rf.Tab) : Prop := ∀ (k : Nat) p, T[k]? = some p → w.cell? ⟨b, 2 * k, none⟩ = some (.string (str p.1)) ∧ w.cell? ⟨b, 2 * k + 1, none⟩ = some (.int .i32 p.2)
theorem ReadsTab.below {w w' : World} {b : Nat} {T : Rf.Tab} (h : ReadsTab w b T) (hb : Below w.heap.size w w') : ReadsTab w' b T := fun k p hk => ⟨(hb.cell (p := ⟨b, 2 * k, none⟩) (cell_lt (h k p hk).1)).trans (h k p hk).1, (hb.cell (p := ⟨b, 2 * k + 1, none⟩) (cell_lt (h k p hk).2)).trans (h k p hk).2⟩
end Go.Proofs.YtiodaahncadodaaGreatDoor
/- The contract of the reference's names. -/
namespace Go.Proofs.YtiodaahncadodaaGreatDoor
open Go.RowKit
end Go.Proofs.YtiodaahncadodaaGreatDoor
/- Contracts of the reference's Name, windows and Number. -/
namespace Go.Proofs.YtiodaahncadodaaGreatDoor
open Go.RowKit
end Go.Proofs.YtiodaahncadodaaGreatDoor
/- The contract of the reference's number. -/
namespace Rf
open Asc
end Rf
namespace Go.Proofs.YtiodaahncadodaaGreatDoor
open Go.RowKit
end Go.Proofs.YtiodaahncadodaaGreatDoor
/- The reference's number at a text that begins with &#, and starts at any texts. -/
namespace Rf
open Asc
end Rf
namespace Go.Proofs.YtiodaahncadodaaGreatDoor
open Go.RowKit
end Go.Proofs.YtiodaahncadodaaGreatDoor
