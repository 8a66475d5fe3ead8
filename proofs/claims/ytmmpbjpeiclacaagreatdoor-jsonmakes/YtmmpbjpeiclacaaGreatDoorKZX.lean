/- The contracts of the document's Quote, and of the program's Of and Bools. -/
import Derived.Test.YtmmpbjpeiclacaaGreatDoorKZU
import Derived.Test.YtmmpbjpeiclacaaGreatDoorKURRep
import Derived.Test.YtmmpbjpeiclacaaGreatDoorKURepair
set_option linter.unusedVariables false
set_option linter.unusedSimpArgs false
namespace Go.Proofs.YtmmpbjpeiclacaaGreatDoor
open Go.RowKit
set_option maxHeartbeats 4000000 in
set_option maxRecDepth 100000 in
theorem RQuote_any (l : List UInt8) (w : World) (hl : l.length ≤ 3000) (hr : (Utf.rep l).length ≤ 100000000) :
    Calls Tryz.prog 7 #[.string (str l)] w fun e w' => e = .returned (.string (str (Jsn.quoteJ (Utf.rep l)))) ∧ Below w.heap.size w w' := by
  have CR := hideN (RRepair_any l w (by omega))
  have CQ := hideN (fun W => Rquoted_any (Utf.rep l) W hr)
  go_enter Tryz.func7, Tryz.ntmps7
  go_wp2_with (first
    | (go_at_call 10; refine CR.out.mono ?_; rintro e w2 ⟨rfl, hB2⟩)
    | (go_at_call 28; refine (CQ.out w2).mono ?_; rintro e w3 ⟨rfl, hB3⟩))
  go_ret
  exact ⟨rfl, bel hB2 hB3⟩
set_option maxHeartbeats 4000000 in
set_option maxRecDepth 100000 in
theorem Of_any (l : List UInt8) (w : World) (hl : l.length ≤ 3000) :
    Calls Tryz.prog 9 #[.string (str l)] w fun e w' => e = .returned (vv (.int .i64 4) (.string (str (Utf.rep l))) (.slice none 0 0) (.slice none 0 0)) ∧ Below w.heap.size w w' := by
  have hB1 : Below w.heap.size w (w.alloc (.cells #[.int .i64 0, .string ⟨#[]⟩, .slice none 0 0, .slice none 0 0] 27)) := (Below.refl _ w).alloc (Nat.le_refl _) _
  have hV1 : VAt (w.alloc (.cells #[.int .i64 0, .string ⟨#[]⟩, .slice none 0 0, .slice none 0 0] 27)) w.heap.size (.int .i64 0) (.string ⟨#[]⟩) (.slice none 0 0) (.slice none 0 0) := val_new w _
  have CR := hideN (fun W => Repair_any l W (by omega))
  go_enter Tryz.func9, Tryz.ntmps9
  go_upto_region 1 with fail
  generalize w.alloc (.cells #[.int .i64 0, .string ⟨#[]⟩, .slice none 0 0, .slice none 0 0] 27) = w1 at *
  go_wp2_with (first
    | (go_at_call 23; refine (CR.out w1).mono ?_; rintro e w2 ⟨rfl, hB2⟩; have hV2 := VAtb hV1 hB2)
    | ((with_reducible show wpList _ _ _ ({ op := Op.store 27 _ _, .. } :: _) _ _); refine wpList_store_V _ _ rfl rfl _ _ _ _ _ rfl rfl hV2 (ones_mk _ _ _ _ _ _ _ _) ?_))
  refine ret_V rfl rfl rfl (setRow_V hV2 _ _ _ _) ⟨rfl, ?_⟩
  have hB3 := bel hB1 hB2
  exact ⟨hB3.os, hB3.tape, hB3.output, by rw [setRow_len]; exact hB3.size, fun k hk => (setRow_other _ (by omega)).trans (hB3.block k hk)⟩
def boolT (b : Bool) : List UInt8 := if b = true then [116, 114, 117, 101] else [102, 97, 108, 115, 101]
set_option maxHeartbeats 4000000 in
set_option maxRecDepth 100000 in
theorem Bools_any (b : Bool) (w : World) :
    Calls Tryz.prog 17 #[.bool b] w fun e w' => e = .returned (vv (.int .i64 2) (.string (str (boolT b))) (.slice none 0 0) (.slice none 0 0)) ∧ Below w.heap.size w w' := by
  have hB1 : Below w.heap.size w (w.alloc (.cells #[.int .i64 0, .string ⟨#[]⟩, .slice none 0 0, .slice none 0 0] 27)) := (Below.refl _ w).alloc (Nat.le_refl _) _
  have hV1 : VAt (w.alloc (.cells #[.int .i64 0, .string ⟨#[]⟩, .slice none 0 0, .slice none 0 0] 27)) w.heap.size (.int .i64 0) (.string ⟨#[]⟩) (.slice none 0 0) (.slice none 0 0) := val_new w _
  have hB3 : ∀ cs, Below w.heap.size w ((w.alloc (.cells #[.int .i64 0, .string ⟨#[]⟩, .slice none 0 0, .slice none 0 0] 27)).setRow w.heap.size cs) := fun cs => ⟨hB1.os, hB1.tape, hB1.output, by rw [setRow_len]; exact hB1.size, fun k hk => (setRow_other _ (by omega)).trans (hB1.block k hk)⟩
  cases b
  all_goals
    go_enter Tryz.func17, Tryz.ntmps17
    go_upto_region 1 with fail
    generalize w.alloc (.cells #[.int .i64 0, .string ⟨#[]⟩, .slice none 0 0, .slice none 0 0] 27) = w1 at *
    go_wp2_with ((with_reducible show wpList _ _ _ ({ op := Op.store 27 _ _, .. } :: _) _ _); refine wpList_store_V _ _ rfl rfl _ _ _ _ _ rfl rfl hV1 (ones_mk _ _ _ _ _ _ _ _) ?_)
    exact ret_V rfl rfl rfl (setRow_V hV1 _ _ _ _) ⟨rfl, hB3 _⟩
end Go.Proofs.YtmmpbjpeiclacaaGreatDoor
