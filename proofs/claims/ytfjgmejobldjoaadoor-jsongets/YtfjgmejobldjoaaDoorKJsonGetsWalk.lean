/- The walk of JsonGets. -/
import Derived.Test.YtfjgmejobldjoaaDoorKZI
import Derived.Test.YtfjgmejobldjoaaDoorKZH
import Derived.Test.YtfjgmejobldjoaaDoorKZJ
import Derived.Test.YtfjgmejobldjoaaDoorKZO
import Derived.Test.YtfjgmejobldjoaaDoorKArgK
set_option linter.unusedVariables false
set_option linter.unusedSimpArgs false
namespace Jsn
theorem get_size : ∀ (ks : List (List UInt8)) (t c : J), getJ t ks = some c → sizeJ c ≤ sizeJ t
  | [], t, c, h => by rw [get_nil] at h; cases h; exact Nat.le_refl _
  | x :: xs, t, c, h => by
    rw [getJ] at h
    split at h
    · split at h
      · rename_i d hd
        have := get_size xs d c h
        have h2 := sizeL_mem (List.mem_of_getElem? hd)
        obtain ⟨k, tx, ks, cs⟩ := t
        rw [sizeJ_mk]
        simp only [J.kids] at h2
        omega
      · cases h
    · cases h
theorem get_small (t : J) (ks : List (List UInt8)) (h : sizeJ t ≤ 3000) : sizeJ ((getJ t ks).getD J.zero) ≤ 1000000000 := by
  cases hr : getJ t ks with
  | none => decide
  | some c => have := get_size ks t c hr; simp; omega
end Jsn
namespace Go.Proofs.YtfjgmejobldjoaaDoor.jsonGets
open Go.RowKit
set_option maxHeartbeats 4000000 in
set_option maxRecDepth 100000 in
theorem walk (t : Jsn.J) (v : Value) (ks : List (List UInt8)) (xv : Value) (w : World) (h : ArgV w v t) (h2 : ArgK w xv ks) (_hE : True) :
    Calls Tryd.prog 3 #[v, xv] w fun e w' => e = .returned (.bool true) ∧ Below w.heap.size w w' := by
  obtain ⟨hv, hfit⟩ := h
  obtain ⟨hx, hxl⟩ := h2
  obtain ⟨aa, na, ca, ab, nb, cb, rfl⟩ := hv.shape
  obtain ⟨xa, xc, rfl⟩ := hx.form
  have hA : Below w.heap.size w (w.alloc (.cells #[.int .i64 t.kind, .string (str t.text), .slice aa na ca, .slice ab nb cb] 25)) := (Below.refl _ w).alloc (Nat.le_refl _) _
  have hbx : VAt (w.alloc (.cells #[.int .i64 t.kind, .string (str t.text), .slice aa na ca, .slice ab nb cb] 25)) w.heap.size (.int .i64 t.kind) (.string (str t.text)) (.slice aa na ca) (.slice ab nb cb) := val_new _ _
  have HF := hide (fun W hB => far_any t _ W (hv.below hB) hfit)
  have HV := hide hv
  have HX := hide hx
  clear hv hx hfit
  go_enter Tryd.func3, Tryd.ntmps3
  go_upto_region 1 with fail
  generalize w.alloc (.cells #[.int .i64 t.kind, .string (str t.text), .slice aa na ca, .slice ab nb cb] 25) = w1 at *
  go_wp2_with (first
    | ((with_reducible show wpList _ _ _ ({ op := Op.load 25 _, .. } :: _) _ _); refine wpList_load_V _ rfl rfl _ _ _ _ _ rfl hbx ?_)
    | (go_at_call 4; fail))
  refine (HF.out _ hA).mono ?_
  rintro e w2 ⟨hB2, far, rfl, hfar⟩
  have hb2 := hbx.below hB2
  have hB2' := bel hA hB2
  cases far with
  | true =>
    clear hfar
    go_wp2_with (go_at_call 5; refine (alive7_any _).mono ?_; rintro e w9 ⟨rfl, hB9⟩)
    go_ret
    exact ⟨rfl, bel hB2' hB9⟩
  | false =>
    have hsz : Jsn.sizeJ t ≤ 3000 := hfar rfl
    clear hfar
    by_cases h20 : 20 < ks.length
    · have h20' : (20 : Int) < (ks.length : Int) := by omega
      go_wp2_with (go_at_call 5; refine (alive7_any _).mono ?_; rintro e w9 ⟨rfl, hB9⟩)
      go_ret
      exact ⟨rfl, bel hB2' hB9⟩
    · have h20' : ¬ (20 : Int) < (ks.length : Int) := by omega
      have CG := hide (fun W hB => Get_any t _ ks _ W (HV.out.below hB) (HX.out.keep hB.size (fun k _ hl => ⟨trivial, hB.block k hl⟩)) (by omega) (by omega))
      have CR := hide (fun W hB => RGet_any t _ ks _ W (HV.out.below hB) (HX.out.keep hB.size (fun k _ hl => ⟨trivial, hB.block k hl⟩)) (by omega) (by omega))
      have CS := hide (fun v1 v2 W h1 h2 => RSame_all ((Jsn.getJ t ks).getD Jsn.J.zero) ((Jsn.getJ t ks).getD Jsn.J.zero) v1 v2 W h1 h2 (Jsn.get_small t ks hsz) (Jsn.get_small t ks hsz))
      rw [Jsn.sameJ_refl] at CS
      have CA := hide alive7_any
      unfold GetPost at CG CR
      generalize (Jsn.getJ t ks).getD Jsn.J.zero = z at *
      generalize (Jsn.getJ t ks).isSome = b at *
      clear HF hsz
      go_wp2_with (first
        | ((with_reducible show wpList _ _ _ ({ op := Op.load 25 _, .. } :: _) _ _); refine wpList_load_V _ rfl rfl _ _ _ _ _ rfl hb2 ?_)
        | (go_at_call 6; fail))
      refine (CG.out _ hB2').mono ?_
      rintro e w3 ⟨v3, rfl, hr3, hB3⟩
      obtain ⟨ea, en, ec, eb, em, ed, hsh⟩ := hr3.shape
      subst hsh
      have hB3' := bel hB2' hB3
      have hb3 := hb2.below hB3
      have hn3 : VAt (w3.alloc (.cells #[.int .i64 z.kind, .string (str z.text), .slice ea en ec, .slice eb em ed] 25)) w3.heap.size (.int .i64 z.kind) (.string (str z.text)) (.slice ea en ec) (.slice eb em ed) := val_new _ _
      have hB4 : Below w3.heap.size w3 (w3.alloc (.cells #[.int .i64 z.kind, .string (str z.text), .slice ea en ec, .slice eb em ed] 25)) := (Below.refl _ _).alloc (Nat.le_refl _) _
      dsimp only
      go_upto_region 4 with fail
      replace hB4 := bel hB3' hB4
      have hb4 := hb3.below (w' := w3.alloc (.cells #[.int .i64 z.kind, .string (str z.text), .slice ea en ec, .slice eb em ed] 25)) ((Below.refl _ _).alloc (Nat.le_refl _) _)
      have hr4 := RV.below (w' := w3.alloc (.cells #[.int .i64 z.kind, .string (str z.text), .slice ea en ec, .slice eb em ed] 25)) hr3 ((Below.refl _ _).alloc (Nat.le_refl _) _)
      have HR3 := hide hr4
      clear hr3 hr4 hB3 hb3 hB3'
      generalize w3.alloc (.cells #[.int .i64 z.kind, .string (str z.text), .slice ea en ec, .slice eb em ed] 25) = w4 at *
      generalize w3.heap.size = b5 at *
      go_wp2_with (first
        | ((with_reducible show wpList _ _ _ ({ op := Op.load 25 _, .. } :: _) _ _); refine wpList_load_V _ rfl rfl _ _ _ _ _ rfl hb4 ?_)
        | (go_at_call 7; fail))
      refine (CR.out _ hB4).mono ?_
      rintro e w5 ⟨v5, rfl, hr5, hB5⟩
      obtain ⟨fa, fn, fc, fb, fm, fd, hsh⟩ := hr5.shape
      subst hsh
      have hB6 : Below w5.heap.size w5 (w5.alloc (.cells #[.int .i64 z.kind, .string (str z.text), .slice fa fn fc, .slice fb fm fd] 25)) := (Below.refl _ _).alloc (Nat.le_refl _) _
      have hn6 : VAt (w5.alloc (.cells #[.int .i64 z.kind, .string (str z.text), .slice fa fn fc, .slice fb fm fd] 25)) w5.heap.size (.int .i64 z.kind) (.string (str z.text)) (.slice fa fn fc) (.slice fb fm fd) := val_new _ _
      have hn5 := (hn3.below hB5).below hB6
      have HR4 := hide ((HR3.out.below hB5).below hB6)
      have HR5 := hide (hr5.below hB6)
      have hB7 := bel (bel hB4 hB5) hB6
      clear hr5 HR3
      dsimp only
      go_upto_region 5 with fail
      generalize w5.alloc (.cells #[.int .i64 z.kind, .string (str z.text), .slice fa fn fc, .slice fb fm fd] 25) = w6 at *
      generalize w5.heap.size = b7 at *
      have HS := hide (CS.out _ _ w6 HR4.out HR5.out)
      cases b
      all_goals
        go_wp2_with (first
          | ((with_reducible show wpList _ _ _ ({ op := Op.load 25 _, .. } :: _) _ _); refine wpList_load_V _ rfl rfl _ _ _ _ _ rfl hn5 ?_)
          | ((with_reducible show wpList _ _ _ ({ op := Op.load 25 _, .. } :: _) _ _); refine wpList_load_V _ rfl rfl _ _ _ _ _ rfl hn6 ?_)
          | (go_at_call 8; refine HS.out.mono ?_; rintro e w7 ⟨rfl, hB8⟩)
          | (go_at_call 5; refine (CA.out _).mono ?_; rintro e w9 ⟨rfl, hB9⟩))
        go_ret
        exact ⟨rfl, bel (bel hB7 hB8) hB9⟩
end Go.Proofs.YtfjgmejobldjoaaDoor.jsonGets
