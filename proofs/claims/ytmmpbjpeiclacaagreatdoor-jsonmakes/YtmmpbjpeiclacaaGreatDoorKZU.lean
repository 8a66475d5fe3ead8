/- The contracts of the document's May and Text. -/
import Derived.Test.YtmmpbjpeiclacaaGreatDoorKZS
import Derived.Test.YtmmpbjpeiclacaaGreatDoorKZT
import Derived.Test.YtmmpbjpeiclacaaGreatDoorKZef
set_option linter.unusedVariables false
set_option linter.unusedSimpArgs false
namespace Go.Proofs.YtmmpbjpeiclacaaGreatDoor
open Go.RowKit
set_option maxHeartbeats 4000000 in
set_option maxRecDepth 100000 in
theorem RMay_any (t : Jsn.J) (v : Value) (w : World) (hv : RV (fun _ => True) w t v) (hsz : Jsn.sizeJ t ≤ 3000) :
    Calls Tryz.prog 18 #[v] w fun e w' => e = .returned (.bool (Jsn.mayJ t)) ∧ Below w.heap.size w w' := by
  obtain ⟨aa, na, ca, ab, nb, cb, rfl⟩ := hv.shape
  have hB1 : Below w.heap.size w (w.alloc (.cells #[.int .i64 t.kind, .string (str t.text), .slice aa na ca, .slice ab nb cb] 27)) := (Below.refl _ w).alloc (Nat.le_refl _) _
  have hV1 : VAt (w.alloc (.cells #[.int .i64 t.kind, .string (str t.text), .slice aa na ca, .slice ab nb cb] 27)) w.heap.size (.int .i64 t.kind) (.string (str t.text)) (.slice aa na ca) (.slice ab nb cb) := val_new w _
  have CC := hideN (fun W hB => RCount_all t _ W 0 4096 (hv.below hB) hsz (by omega) (by omega))
  unfold CntPost at CC
  obtain ⟨X, HX⟩ : ∃ X, Hid (X = Jsn.mayJ t) := ⟨_, rfl⟩
  rw [← HX.out]
  have HM : Hid (X = (Jsn.mayC t 0 0).isSome) := HX.out
  have HLE := hideN (Jsn.may_le t 0 0)
  rw [show 4096 - 4096 = 0 from rfl] at CC
  clear hv HX
  generalize Jsn.mayC t 0 0 = M at *
  go_enter Tryz.func18, Tryz.ntmps18
  go_upto_region 1 with fail
  generalize w.alloc (.cells #[.int .i64 t.kind, .string (str t.text), .slice aa na ca, .slice ab nb cb] 27) = w1 at *
  go_wp2_with (first
    | ((with_reducible show wpList _ _ _ ({ op := Op.load 27 _, .. } :: _) _ _); refine wpList_load_V _ rfl rfl _ _ _ _ _ rfl hV1 ?_)
    | (go_at_call 40; refine (CC.out w1 hB1).mono ?_; rintro e w2 ⟨r, rfl, hr1, hr2, hr3, hB2⟩; have HR2 := hideN hr2; have HR3 := hideN hr3; clear hr2 hr3))
  go_ret
  refine ⟨?_, bel hB1 hB2⟩
  rw [HM.out]
  refine ret_bool ?_
  cases hM : M with
  | none =>
    have := HR3.out hM
    rw [decide_eq_false (by omega)]
    rfl
  | some m =>
    have h1 := HR2.out m hM
    have h2 := HLE.out m hM
    rw [decide_eq_true (by omega)]
    rfl
end Go.Proofs.YtmmpbjpeiclacaaGreatDoor
