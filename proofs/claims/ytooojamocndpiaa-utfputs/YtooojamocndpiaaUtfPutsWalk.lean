/- The walk of the law UtfPuts, out of the contracts. -/
import Derived.Test.YtooojamocndpiaaUAlive
import Derived.Test.YtooojamocndpiaaUArgs
import Derived.Test.YtooojamocndpiaaURPut
import Derived.Deep.RegionWith
namespace Go.Proofs.Ytooojamocndpiaa.utfPuts
open Go.RowKit
set_option maxHeartbeats 2000000 in
set_option maxRecDepth 100000 in
theorem walk (a0 : Option Addr) (len0 cap0 : Nat) (z0 : List Int) (a1 : Option Addr) (len1 cap1 : Nat) (z1 : List Int) (w : World) (w0 : ArgInts .u8 w a0 len0 cap0 z0) (w1 : ArgInts .i32 w a1 len1 cap1 z1) :
    Calls Try.prog 3 #[.slice a0 len0 cap0, .slice a1 len1 cap1] w fun e w' => e = .returned (.bool true) ∧ Below w.heap.size w w' := by
  obtain ⟨hl0, hc0, _, hr0, hf0⟩ := w0
  obtain ⟨hl1, hc1, _, hr1, hf1⟩ := w1
  obtain ⟨l, hll, hlc⟩ := bytes_of z0 hf0
  have hin := runes_in z1 hf1
  rw [hlc] at hr0
  have hr1' : ReadsCells w (.slice a1 len1 cap1) (cellsR z1) := hr1
  clear hr1 hf0 hf1 hlc
  by_cases h0 : 3000 < len0
  · go_enter Try.func3, Try.ntmps3
    go_wp2_with (go_at_call 7; refine (alive_any _).mono ?_; rintro e w2 ⟨rfl, hb⟩)
    go_ret
    exact ⟨rfl, hb⟩
  by_cases h1 : 1000 < len1
  · go_enter Try.func3, Try.ntmps3
    go_wp2_with (go_at_call 7; refine (alive_any _).mono ?_; rintro e w2 ⟨rfl, hb⟩)
    go_ret
    exact ⟨rfl, hb⟩
  have hz0 : l.length ≤ 1000000000 := by omega
  have hz1 : z1.length ≤ 1000000000 := by omega
  have HR : Hid (ReadsCells w (.slice a0 len0 cap0) (cellsB l) ∧ ReadsCells w (.slice a1 len1 cap1) (cellsR z1)) := ⟨hr0, hr1'⟩
  have HI : Hid (∀ c ∈ z1, inR c) := hin
  clear hr0 hr1' hin hl0 hl1
  have hst := str_list (l ++ puts z1)
  have hbd : Below w.heap.size w w.drew := (Below.refl _ w).drew
  go_enter Try.func3, Try.ntmps3
  go_wp2
  go_region_with (first
    | (go_at_call 8; refine (Put_any _ _ l z1 _ hz0 hz1 (HR.out.1.below hbd) (HR.out.2.below hbd) HI.out).mono ?_; rintro e w2 ⟨v2, rfl, ho2, hb2⟩; have hcv2 := conv_owned ho2)
    | (go_at_call 9; refine (RPut_any _ _ l z1 _ hz0 hz1 (HR.out.1.below (bel hbd hb2)) (HR.out.2.below (bel hbd hb2))).mono ?_; rintro e w3 ⟨v3, rfl, ho3, hb3⟩; have hcv3 := conv_owned ho3; have hcv4 := conv_owned (ho2.below hb3))
    | (go_at_call 7; refine (alive_any _).mono ?_; rintro e w4 ⟨rfl, hb4⟩))
  all_goals go_wp2
  all_goals go_ret
  all_goals exact ⟨rfl, bel (bel (bel hbd hb2) hb3) hb4⟩
end Go.Proofs.Ytooojamocndpiaa.utfPuts
