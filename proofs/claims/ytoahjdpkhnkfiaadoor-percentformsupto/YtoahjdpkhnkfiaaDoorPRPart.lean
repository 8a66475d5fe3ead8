/- The contracts of the reference's part and read. -/
import Derived.Test.YtoahjdpkhnkfiaaDoorPRTurned
import Derived.Test.YtoahjdpkhnkfiaaDoorPRUnmark
import Derived.Test.YtoahjdpkhnkfiaaDoorURText
namespace Go.Proofs.YtoahjdpkhnkfiaaDoor
open Go.RowKit
theorem Rturned_blank (l : List UInt8) (w : World) (hs : l.length ≤ 1000000000) :
    Calls Tryd.prog 59 #[.string (str l), .int .u8 32, .int .u8 43] w fun e w' => e = .returned (.string (str (Pct.turned l 32 43))) ∧ Below w.heap.size w w' := by
  have := Rturned_any (str l) 32 43 w (by rw [str_size]; exact hs)
  rw [str_data] at this
  exact this
theorem Rturned_plus (l : List UInt8) (w : World) (hs : l.length ≤ 1000000000) :
    Calls Tryd.prog 59 #[.string (str l), .int .u8 43, .int .u8 32] w fun e w' => e = .returned (.string (str (Pct.turned l 43 32))) ∧ Below w.heap.size w w' := by
  have := Rturned_any (str l) 43 32 w (by rw [str_size]; exact hs)
  rw [str_data] at this
  exact this
theorem RMark_blank (l : List UInt8) (w : World) (hs : l.length ≤ 1000000000) :
    Calls Tryd.prog 12 #[.string (str l), .string ⟨#[32]⟩] w fun e w' => e = .returned (.string (str (Pct.mark [32] l))) ∧ Below w.heap.size w w' := by
  have := RMark_any (str l) ⟨#[32]⟩ w (by rw [str_size]; exact hs) (by decide)
  rw [str_data] at this
  exact this
theorem RUnmark_str (l : List UInt8) (w : World) (hs : l.length ≤ 1000000000) :
    Calls Tryd.prog 14 #[.string (str l)] w fun e w' => e = .returned (.string (str (Pct.unmark l))) ∧ Below w.heap.size w w' := by
  have := RUnmark_any (str l) w (by rw [str_size]; exact hs)
  rw [str_data] at this
  exact this
theorem Rpart_any (l : List UInt8) (w : World) (hz : l.length ≤ 300000000) :
    Calls Tryd.prog 44 #[.string (str l)] w fun e w' => e = .returned (.string (str (Pct.part l))) ∧ Below w.heap.size w w' := by
  have hml := Pct.mark_len [32] l
  go_enter Tryd.func44, Tryd.ntmps44
  go_wp2_with (first
    | (go_at_call 12; refine (RMark_blank _ _ (by omega)).mono ?_; rintro e w1 ⟨rfl, hb1⟩)
    | (go_at_call 59; refine (Rturned_blank _ _ (by omega)).mono ?_; rintro e w2 ⟨rfl, hb2⟩))
  go_ret
  exact ⟨rfl, bel hb1 hb2⟩
theorem Rread_any (l : List UInt8) (w : World) (hz : l.length ≤ 1000000000) :
    Calls Tryd.prog 41 #[.string (str l)] w fun e w' => e = .returned (.string (str (Pct.read l))) ∧ Below w.heap.size w w' := by
  have htl := Pct.turned_len l 43 32
  have hul := Pct.unmark_len (Pct.turned l 43 32)
  rw [htl] at hul
  go_enter Tryd.func41, Tryd.ntmps41
  go_wp2_with (first
    | (go_at_call 59; refine (Rturned_plus _ _ (by omega)).mono ?_; rintro e w1 ⟨rfl, hb1⟩)
    | (go_at_call 14; refine (RUnmark_str _ _ (by omega)).mono ?_; rintro e w2 ⟨rfl, hb2⟩)
    | (go_at_call 58; refine (RRepair_any _ _ (by omega)).mono ?_; rintro e w3 ⟨rfl, hb3⟩))
  go_ret
  exact ⟨rfl, bel (bel hb1 hb2) hb3⟩
end Go.Proofs.YtoahjdpkhnkfiaaDoor
