/- The contracts of the document's May and Text. -/
import Derived.Test.YtfjgmejobldjoaaGreatDoorKZS
import Derived.Test.YtfjgmejobldjoaaGreatDoorKZT
import Derived.Test.YtfjgmejobldjoaaGreatDoorKZF
set_option linter.unusedVariables false
set_option linter.unusedSimpArgs false
namespace Go.Proofs.YtfjgmejobldjoaaGreatDoor
open Go.RowKit
set_option maxHeartbeats 4000000 in
set_option maxRecDepth 100000 in
theorem RMay_any (t : Jsn.J) (v : Value) (w : World) (hv : RV (fun _ => True) w t v) (hsz : Jsn.sizeJ t ≤ 3000) :
    Calls Tryz.prog 10 #[v] w fun e w' => e = .returned (.bool (Jsn.mayJ t)) ∧ Below w.heap.size w w' := by
  obtain ⟨aa, na, ca, ab, nb, cb, rfl⟩ := hv.shape
  have hB1 : Below w.heap.size w (w.alloc (.cells #[.int .i64 t.kind, .string (str t.text), .slice aa na ca, .slice ab nb cb] 25)) := (Below.refl _ w).alloc (Nat.le_refl _) _
  have hV1 : VAt (w.alloc (.cells #[.int .i64 t.kind, .string (str t.text), .slice aa na ca, .slice ab nb cb] 25)) w.heap.size (.int .i64 t.kind) (.string (str t.text)) (.slice aa na ca) (.slice ab nb cb) := val_new w _
  have CC := hideN (fun W hB => RCount_all t _ W 0 4096 (hv.below hB) hsz (by omega) (by omega))
  unfold CntPost at CC
  obtain ⟨X, HX⟩ : ∃ X, Hid (X = Jsn.mayJ t) := ⟨_, rfl⟩
  rw [← HX.out]
  have HM : Hid (X = (Jsn.mayC t 0 0).isSome) := HX.out
  have HLE := hideN (Jsn.may_le t 0 0)
  rw [show 4096 - 4096 = 0 from rfl] at CC
  clear hv HX
  generalize Jsn.mayC t 0 0 = M at *
  go_enter Tryz.func10, Tryz.ntmps10
  go_upto_region 1 with fail
  generalize w.alloc (.cells #[.int .i64 t.kind, .string (str t.text), .slice aa na ca, .slice ab nb cb] 25) = w1 at *
  go_wp2_with (first
    | ((with_reducible show wpList _ _ _ ({ op := Op.load 25 _, .. } :: _) _ _); refine wpList_load_V _ rfl rfl _ _ _ _ _ rfl hV1 ?_)
    | (go_at_call 29; refine (CC.out w1 hB1).mono ?_; rintro e w2 ⟨r, rfl, hr1, hr2, hr3, hB2⟩; have HR2 := hideN hr2; have HR3 := hideN hr3; clear hr2 hr3))
  go_ret
  refine ⟨?_, bel hB1 hB2⟩
  rw [HM.out]
  refine ret_bool ?_
  cases hM : M with
  | none =>
    have := HR3.out hM
    rw [decide_eq_false (by omega)]
    rfl
  | some m =>
    have h1 := HR2.out m hM
    have h2 := HLE.out m hM
    rw [decide_eq_true (by omega)]
    rfl
set_option maxHeartbeats 4000000 in
set_option maxRecDepth 100000 in
theorem RTextT_any (t : Jsn.J) (v : Value) (w : World) (hv : RV (fun _ => True) w t v) (hsz : Jsn.sizeJ t ≤ 3000) :
    Calls Tryz.prog 8 #[v] w fun e w' => e = .returned (.tuple #[.string (str (textR t).1), .int .i64 (textR t).2]) ∧ Below w.heap.size w w' := by
  obtain ⟨aa, na, ca, ab, nb, cb, rfl⟩ := hv.shape
  have hB1 : Below w.heap.size w (w.alloc (.cells #[.int .i64 t.kind, .string (str t.text), .slice aa na ca, .slice ab nb cb] 25)) := (Below.refl _ w).alloc (Nat.le_refl _) _
  have hV1 : VAt (w.alloc (.cells #[.int .i64 t.kind, .string (str t.text), .slice aa na ca, .slice ab nb cb] 25)) w.heap.size (.int .i64 t.kind) (.string (str t.text)) (.slice aa na ca) (.slice ab nb cb) := val_new w _
  have CM := hideN (fun W hB => RMay_any t _ W (hv.below hB) hsz)
  have CT := hideN (fun W hB => RText_all t _ W (hv.below hB) hsz)
  have HD := hideN (Jsn.textD_eq t)
  have hle := Jsn.textD_le t
  have HTR : Hid (textR t = if Jsn.mayJ t = true then (if (Jsn.textJ t).length ≤ 65536 then (Jsn.textJ t, 0) else ([], 5)) else ([], 1)) := rfl
  generalize textR t = tr at *
  clear hv
  cases hm : Jsn.mayJ t with
  | false =>
    have HF : Hid (tr = ([], 1)) := by show tr = _; rw [HTR.out, hm]; rfl
    rw [HF.out]
    rw [hm] at CM
    clear HTR HF hm HD hle CT
    go_enter Tryz.func8, Tryz.ntmps8
    go_upto_region 1 with fail
    generalize w.alloc (.cells #[.int .i64 t.kind, .string (str t.text), .slice aa na ca, .slice ab nb cb] 25) = w1 at *
    go_wp2_with (first
      | ((with_reducible show wpList _ _ _ ({ op := Op.load 25 _, .. } :: _) _ _); refine wpList_load_V _ rfl rfl _ _ _ _ _ rfl hV1 ?_)
      | (go_at_call 10; refine (CM.out w1 hB1).mono ?_; rintro e w2 ⟨rfl, hB2⟩))
    go_ret2
    exact ⟨rfl, bel hB1 hB2⟩
  | true =>
    rw [hm] at CM
    have hE := HD.out hm
    rw [hE] at CT hle
    have hsz2 := str_size (Jsn.textJ t)
    have HF : Hid (tr = (Jsn.textJ t, 0)) := by show tr = _; rw [HTR.out, hm, if_pos rfl, if_pos (by omega)]
    rw [HF.out]
    have hlen : (Jsn.textJ t).length ≤ 65536 := by omega
    clear HTR HF hm HD hle hE
    generalize Jsn.textJ t = y at *
    go_enter Tryz.func8, Tryz.ntmps8
    go_upto_region 1 with fail
    generalize w.alloc (.cells #[.int .i64 t.kind, .string (str t.text), .slice aa na ca, .slice ab nb cb] 25) = w1 at *
    go_wp2_with (first
      | ((with_reducible show wpList _ _ _ ({ op := Op.load 25 _, .. } :: _) _ _); refine wpList_load_V _ rfl rfl _ _ _ _ _ rfl hV1 ?_)
      | ((with_reducible show wpList _ _ _ ({ op := Op.load 25 _, .. } :: _) _ _); refine wpList_load_V _ rfl rfl _ _ _ _ _ rfl hV2 ?_)
      | (go_at_call 10; refine (CM.out w1 hB1).mono ?_; rintro e w2 ⟨rfl, hB2⟩; have hV2 := VAtb hV1 hB2)
      | (go_at_call 27; refine (CT.out w2 (bel hB1 hB2)).mono ?_; rintro e w3 ⟨rfl, hB3⟩))
    go_ret2
    exact ⟨rfl, bel (bel hB1 hB2) hB3⟩
end Go.Proofs.YtfjgmejobldjoaaGreatDoor
