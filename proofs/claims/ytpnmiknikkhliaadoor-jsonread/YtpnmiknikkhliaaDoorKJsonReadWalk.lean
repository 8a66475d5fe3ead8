/- The walk of JsonRead. -/
import Derived.Test.YtpnmiknikkhliaaDoorKZH
import Derived.Test.YtpnmiknikkhliaaDoorKJson
set_option linter.unusedVariables false
set_option linter.unusedSimpArgs false
namespace Jsn
/-- What a parsed text tells: a fault, and where; or a value that may be, whose text is parsed as it. -/
theorem read_all (l : List UInt8) (hl : l.length ≤ 5000) : (∃ y a : Int, faultJ l = (y, a) ∧ y ≠ 0 ∧ 0 ≤ a ∧ a ≤ l.length ∧ (y = 4 → a = l.length) ∧ parseJ l = .zero) ∨
    (faultJ l = (0, 0) ∧ mayJ (parseJ l) = true ∧ (textJ (parseJ l)).length ≤ 30000 ∧ faultJ (textJ (parseJ l)) = (0, 0) ∧ parseJ (textJ (parseJ l)) = parseJ l) := by
  have h1 : ¬ 65536 < l.length := by omega
  by_cases ht : Utf.isText l = false
  · refine .inl ⟨9, 0, ?_, by decide, by decide, by omega, fun h => absurd h (by decide), ?_⟩
    · unfold faultJ; rw [if_neg h1, if_pos ht]
    · unfold parseJ; rw [if_neg h1, if_pos ht]
  · have hf := whole_fine l
    cases hw : wholeR l with
    | err y n =>
      rw [hw] at hf
      obtain ⟨a1, a2, a3⟩ := hf
      refine .inl ⟨y, (l.length : Int) - n, ?_, a1, by omega, by omega, fun h => by rw [a3 h]; simp, ?_⟩
      · unfold faultJ; rw [if_neg h1, if_neg ht, hw]
      · unfold parseJ; rw [if_neg h1, if_neg ht, hw]
    | ok v z =>
      have hr := whole_right hw (by simpa using ht)
      have hp : parseJ l = v := by unfold parseJ; rw [if_neg h1, if_neg ht, hw]
      have hw2 := whole_text hr.1
      have hl2 : (textJ v).length ≤ 30000 := by omega
      have ht2 : Utf.isText (textJ v) = true := text_text hr.1
      refine .inr ⟨?_, ?_⟩
      · unfold faultJ; rw [if_neg h1, if_neg ht, hw]
      · rw [hp]
        refine ⟨hr.1, hl2, ?_, ?_⟩
        · unfold faultJ; rw [if_neg (by omega), if_neg (by simp [ht2]), hw2]
        · unfold parseJ; rw [if_neg (by omega), if_neg (by simp [ht2]), hw2]
end Jsn
namespace Go.Proofs.YtpnmiknikkhliaaDoor.jsonRead
open Go.RowKit
set_option maxHeartbeats 4000000 in
set_option maxRecDepth 100000 in
theorem long (l : List UInt8) (w : World) (hl : 5000 < l.length) :
    Calls Tryd.prog 5 #[.string (str l)] w fun e w' => e = .returned (.bool true) ∧ Below w.heap.size w w' := by
  have hz := str_size l
  have hi : (5000 : Int) < (l.length : Int) := by omega
  go_enter Tryd.func5, Tryd.ntmps5
  go_wp2_with (first
    | (go_at_call 7; refine (alive7_any _).mono ?_; rintro e w1 ⟨rfl, hB1⟩))
  go_ret
  exact ⟨rfl, hB1⟩
theorem rv_vz (w : World) : RV (fun _ => True) w .zero (vv (.int .i64 0) (.string ⟨#[]⟩) (.slice none 0 0) (.slice none 0 0)) :=
  RV_mk.2 ⟨_, _, rfl, .inl ⟨_, _, rfl, rfl⟩, .inl ⟨_, _, rfl, rfl⟩⟩
set_option maxHeartbeats 4000000 in
set_option maxRecDepth 100000 in
theorem fault (l : List UInt8) (w : World) (hl : l.length ≤ 5000) (y a : Int) (hf : Jsn.faultJ l = (y, a)) (hy : y ≠ 0) (ha0 : 0 ≤ a) (ha1 : a ≤ l.length) (h4 : y = 4 → a = l.length) (hp : Jsn.parseJ l = .zero) :
    Calls Tryd.prog 5 #[.string (str l)] w fun e w' => e = .returned (.bool true) ∧ Below w.heap.size w w' := by
  have hz := str_size l
  have hi : ¬ (5000 : Int) < (l.length : Int) := by omega
  have hP := Parse_any l w (by omega)
  rw [hf, hp] at hP
  have hy0 : (y == 0) = false := by simpa using hy
  have hS := fun v1 v2 w h1 h2 => Same_all .zero .zero v1 v2 w h1 h2 (by decide) (by decide)
  rw [Jsn.sameJ_refl] at hS
  clear hf hp hy
  go_enter Tryd.func5, Tryd.ntmps5
  go_wp2_with (first
    | (go_at_call 13; refine hP.mono ?_; rintro e w1 ⟨hB1, v, rfl, hrv⟩; obtain ⟨aa, na, ca, ab, nb, cb, rfl⟩ := hrv.shape; have hr1 := RV.keep (Q' := fun _ => True) (Nat.le_refl _) (fun k _ _ => ⟨trivial, rfl⟩) hrv; clear hP; obtain ⟨hV, hN⟩ := VF.new w1 (.int .i64 Jsn.J.zero.kind) (.string (str Jsn.J.zero.text)) (.slice aa na ca) (.slice ab nb cb) y a; have hB2 := bel hB1 hN; have hr2 := RV.below hr1 hN; have hz2 := rv_vz ((w1.alloc (.cells #[.int .i64 Jsn.J.zero.kind, .string (str Jsn.J.zero.text), .slice aa na ca, .slice ab nb cb] 25)).alloc (.cells #[.int .i64 y, .int .i64 a] 37)))
    | (go_at_call 14; refine (hS _ _ _ hr2 hz2).mono ?_; rintro e w8 ⟨rfl, hB9⟩; clear hS; have hB10 := bel hB2 hB9; obtain ⟨k0, k1, k2, k3, k4, k5⟩ := (hV.keep hB9).cells)
    | (go_at_call 7; refine (alive7_any _).mono ?_; rintro e w9 ⟨rfl, hB11⟩))
  all_goals (go_ret; exact ⟨rfl, bel hB10 hB11⟩)
set_option maxHeartbeats 4000000 in
set_option maxRecDepth 100000 in
theorem good (l : List UInt8) (w : World) (hl : l.length ≤ 5000) (hf : Jsn.faultJ l = (0, 0)) (hm : Jsn.mayJ (Jsn.parseJ l) = true) (ht : (Jsn.textJ (Jsn.parseJ l)).length ≤ 30000) (hf2 : Jsn.faultJ (Jsn.textJ (Jsn.parseJ l)) = (0, 0)) (hp2 : Jsn.parseJ (Jsn.textJ (Jsn.parseJ l)) = Jsn.parseJ l) :
    Calls Tryd.prog 5 #[.string (str l)] w fun e w' => e = .returned (.bool true) ∧ Below w.heap.size w w' := by
  have hz := str_size l
  have hi : ¬ (5000 : Int) < (l.length : Int) := by omega
  have hP := Parse_any l w (by omega)
  have hP2 := fun w => Parse_any (Jsn.textJ (Jsn.parseJ l)) w (by omega)
  have hsz := (Jsn.may_sized hm).1
  have hsz2 : Jsn.sizeJ (Jsn.parseJ l) ≤ 1000000000 := by omega
  have hT := fun v w hv => Text_any (Jsn.parseJ l) v w hv hsz2
  have hM := fun v w hv => May_any (Jsn.parseJ l) v w hv hsz2
  have hS := fun v1 v2 w h1 h2 => Same_all (Jsn.parseJ l) (Jsn.parseJ l) v1 v2 w h1 h2 hsz2 hsz2
  rw [Jsn.sameJ_refl] at hS
  have hTR : textR (Jsn.parseJ l) = (Jsn.textJ (Jsn.parseJ l), 0) := by unfold textR; rw [if_pos hm, if_pos (by omega)]
  rw [hf] at hP
  rw [hf2, hp2] at hP2
  rw [hTR] at hT
  rw [hm] at hM
  clear hf hf2 hp2 hTR hm hsz hsz2
  generalize Jsn.textJ (Jsn.parseJ l) = q at *
  generalize Jsn.parseJ l = t at *
  go_enter Tryd.func5, Tryd.ntmps5
  go_wp2_with (first
    | (go_at_call_of 13 (Value.string (str l)); refine hP.mono ?_; rintro e w1 ⟨hB1, v, rfl, hrv⟩; obtain ⟨aa, na, ca, ab, nb, cb, rfl⟩ := hrv.shape; have hr1 := RV.keep (Q' := fun _ => True) (Nat.le_refl _) (fun k _ _ => ⟨trivial, rfl⟩) hrv; clear hP; obtain ⟨hV, hN⟩ := VF.new w1 (.int .i64 t.kind) (.string (str t.text)) (.slice aa na ca) (.slice ab nb cb) 0 0; have hB2 := bel hB1 hN; have hr2 := RV.below hr1 hN)
    | (go_at_call 11; refine (hT _ _ hr2).mono ?_; rintro e w2 ⟨rfl, hB3⟩; clear hT; have hB4 := bel hB2 hB3; have hr3 := hr2.below hB3; have hV3 := hV.keep hB3)
    | (go_at_call_of 13 (Value.string (str q)); refine (hP2 _).mono ?_; rintro e w3 ⟨hB5, v2, rfl, hrw⟩; obtain ⟨ba, ma, da, bb, mb, db, rfl⟩ := hrw.shape; have hq1 := RV.keep (Q' := fun _ => True) (Nat.le_refl _) (fun k _ _ => ⟨trivial, rfl⟩) hrw; clear hP2; obtain ⟨hV5, hN5⟩ := VF.new w3 (.int .i64 t.kind) (.string (str t.text)) (.slice ba ma da) (.slice bb mb db) 0 0; have hB6 := bel (bel hB4 hB5) hN5; have hr6 := (hr3.below hB5).below hN5; have hq6 := hq1.below hN5; have hV6 := (hV3.keep hB5).keep hN5; obtain ⟨k0, k1, k2, k3, k4, k5⟩ := hV6.cells; obtain ⟨j0, j1, j2, j3, j4, j5⟩ := hV5.cells)
    | (go_at_call 12; refine (hM _ _ hr6).mono ?_; rintro e w7 ⟨rfl, hB7⟩; clear hM; have hB8 := bel hB6 hB7; have hr7 := hr6.below hB7; have hq7 := hq6.below hB7; obtain ⟨k0, k1, k2, k3, k4, k5⟩ := (hV6.keep hB7).cells; obtain ⟨j0, j1, j2, j3, j4, j5⟩ := (hV5.keep hB7).cells)
    | (go_at_call 14; refine (hS _ _ _ hr7 hq7).mono ?_; rintro e w8 ⟨rfl, hB9⟩; clear hS; have hB10 := bel hB8 hB9)
    | (go_at_call 7; refine (alive7_any _).mono ?_; rintro e w9 ⟨rfl, hB11⟩))
  go_ret
  exact ⟨rfl, bel hB10 hB11⟩
theorem walk (s : ByteArray) (w : World) (_hs : s.size ≤ maxLen) (_hE : True) :
    Calls Tryd.prog 5 #[.string s] w fun e w' => e = .returned (.bool true) ∧ Below w.heap.size w w' := by
  rw [← str_self s]
  generalize s.data.toList = l
  by_cases hl : 5000 < l.length
  · exact long l w hl
  · rcases Jsn.read_all l (by omega) with ⟨y, a, h1, h2, h3, h4, h5, h6⟩ | ⟨h1, h2, h3, h4, h5⟩
    · exact fault l w (by omega) y a h1 h2 h3 h4 h5 h6
    · exact good l w (by omega) h1 h2 h3 h4 h5
end Go.Proofs.YtpnmiknikkhliaaDoor.jsonRead
