/- The contract of the document's Add. -/
import Derived.Test.YtcjbceidgaieaaaKJoB
set_option linter.unusedVariables false
set_option linter.unusedSimpArgs false
namespace Go.Proofs.Ytcjbceidgaieaaa
open Go.RowKit
theorem RKPost.set {W w : World} {P : Nat → Prop} {kb rb : Nat} {d : Dk.D} {gs gs' : List (List UInt8)} {q : Int} (h : RK W P kb rb d gs) (hB : Below W.heap.size W w) {g' : Value} (hq : RQ w P rb g' (Jn.frames gs')) (hs : (Jn.frames gs').length ≤ 1048576) : RKPost W P kb rb (q, d, gs') (.returned (.int .i64 q)) ((w.setCell ⟨kb, 1, none⟩ g').setCell ⟨kb, 2, none⟩ (.int .i64 (gs'.length : Int))) :=
  ⟨rfl, (h.below hB).set hq hs, (Own.of hB).trans ((own_two kb w g' _).mono9 (fun k hk => .inr hk)) (fun k hk => .inl hk)⟩
set_option maxHeartbeats 4000000 in
set_option maxRecDepth 100000 in
theorem RAdd_yes {W : World} {P : Nat → Prop} {kb rb : Nat} {d : Dk.D} {gs : List (List UInt8)} (h : RK W P kb rb d gs) {v : Value} {rs : List (List UInt8)} (hv : RBs W v rs) (hz : ∀ r ∈ rs, r.length ≤ maxLen) (hn : rs.length ≤ 1000) (ha : Jn.All rs) (hf : ((Jn.frames gs).length : Int) + ((Jn.frames rs).length : Int) ≤ d.left) :
    Calls Try.prog 50 #[ptr kb 0, v] W (RKPost W P kb rb (0, d, gs ++ rs)) := by
  have C1 := Rframes_yes hv hz hn ha
  obtain ⟨va, vc, rfl⟩ := hv.form
  have hs := h.small
  have hm := frames_most rs ha
  have hlf : d.left ≤ 1048576 := by
    have := h.fine
    unfold Dk.D.left
    have h3 := this.room
    omega
  have hgl := Jn.frames_length gs
  have HS : Hid ((Jn.frames (gs ++ rs)).length ≤ 1048576) := by
    show (Jn.frames (gs ++ rs)).length ≤ 1048576
    rw [Jn.frames_app, List.length_append]
    omega
  obtain ⟨lf, HLF⟩ : ∃ lf, Hid (d.left = lf) := ⟨_, rfl⟩
  rw [HLF.out] at hf hlf
  obtain ⟨gl, HGL⟩ : ∃ gl, Hid ((Jn.frames gs).length = gl) := ⟨_, rfl⟩
  rw [HGL.out] at hf hs hgl
  have hm2 : (Jn.frames rs).length ≤ 16392000 := by omega
  have HF := hide9 hf
  have HH := hide9 h
  clear h hv hz ha hf hm
  go_enter Try.func50, Try.ntmps50
  go_wp2_with (go_at_call 73; refine C1.mono ?_; rintro e w1 ⟨L, a1, c1, HL, rfl, ho1, hB1⟩; clear C1)
  have hLl : L.length ≤ 16392000 := by rw [HL.out]; exact hm2
  have hf : (gl : Int) + (L.length : Int) ≤ lf := by rw [HL.out]; exact HF.out
  have hwr : IntKind.i64.wrap ((gl : Int) + (L.length : Int)) = (gl : Int) + (L.length : Int) := w64 rfl (by omega) (by omega)
  have H1 := hide9 ((HH.out.below hB1).below (bel_drew w1))
  obtain ⟨d0, d2, ga, gc, d1, dq, df⟩ := H1.out.cells HGL
  have DQ := hide9 dq
  have CL := hide9 (H1.out.rleft HLF)
  clear dq df
  go_region_with (go_at_call 28; refine CL.out.mono ?_; rintro e w2 ⟨rfl, hB2⟩; have e1 : w2.cell? ⟨kb, 1, none⟩ = some (.slice ga gl gc) := (hB2.cell (p := ⟨kb, 1, none⟩) H1.out.lt).trans d1)
  all_goals
    clear d0 d2 d1
    have HB2 := hide9 (bel (bel hB1 (bel_drew w1)) hB2)
    have H2 := hide9 (H1.out.below hB2)
    have DQ2 := hide9 (DQ.out.below hB2)
    have HO2 := hide9 ((ho1.low9 (bel_drew w1)).low9 hB2).reads
    clear ho1 hB1 hB2 H1 DQ CL
    go_wp2_with (first
      | (refine wpList_append_B rfl (.const (.slice none 0 0)) (.tmp 34) rfl w2.heap.size (Nat.le_refl _) _ _ rfl (OwnsBytes.nil _ _) _ _ rfl DQ2.out.rd (by have := HGL.out; simp; omega) ?_; intro L3 a3 c3 w3 K3 ho3 hB3; have HL3 : Hid (L3.length = gl) := (by show L3.length = gl; rw [K3.out]; exact HGL.out))
      | (refine wpList_append_B rfl (.tmp 35) (.tmp 36) rfl w2.heap.size hB3.size _ _ rfl ho3 _ _ rfl (HO2.out.below hB3) (by have := HL3.out; omega) ?_; intro L4 a4 c4 w4 K4 ho4 hB4; have hB24 := hB3.trans hB4; obtain ⟨-, f2, -, -, -, -, ff⟩ := (H2.out.below hB24).cells HGL; have z1 := ff 1; have z2 := ff 2; have y1 : w4.cell? ⟨kb, 1, none⟩ = some (.slice ga gl gc) := (hB24.cell (p := ⟨kb, 1, none⟩) H2.out.lt).trans e1; clear ff e1))
    go_ret
    have hL4 : L4 = Jn.frames (gs ++ rs) := by rw [K4.out, K3.out, HL.out, Jn.frames_app]; rfl
    have hq := rq_new H2.out.new H2.out.re.lt ho4
    rw [hL4] at hq
    have := RKPost.set (q := 0) (gs' := gs ++ rs) HH.out (HB2.out.trans (hB24.mono HB2.out.size)) hq HS.out
    simp only [List.length_append, Int.natCast_add] at this
    rw [hL4]
    simpa using this
theorem RAddJ_any {W : World} {P : Nat → Prop} {kb rb : Nat} {d : Dk.D} {gs : List (List UInt8)} (h : RK W P kb rb d gs) {v : Value} {rs : List (List UInt8)} (hv : RBs W v rs) (hz : ∀ r ∈ rs, r.length ≤ maxLen) (hn : rs.length ≤ 1000) {q : Int} (hq : Hid (Jn.fits d (Jn.frames gs).length rs = q)) :
    Calls Try.prog 50 #[ptr kb 0, v] W (RKPost W P kb rb (q, d, if q = 0 then gs ++ rs else gs)) := by
  have hq' := hq.out
  by_cases ha : Jn.All rs
  · rw [Jn.fits_all ha] at hq'
    by_cases hf : d.left < ((Jn.frames gs).length : Int) + ((Jn.frames rs).length : Int)
    · rw [if_pos hf] at hq'
      subst hq'
      exact RAdd_full h hv hz hn ha hf
    · rw [if_neg hf] at hq'
      subst hq'
      exact RAdd_yes h hv hz hn ha (by omega)
  · rw [Jn.fits_arg ha] at hq'
    subst hq'
    exact RAdd_arg h hv hz hn ha
end Go.Proofs.Ytcjbceidgaieaaa
