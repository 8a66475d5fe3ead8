/- The contract of would: an act on the document's journal. -/
import Derived.Test.YtcjbceidgaieaaaKJoD
set_option linter.unusedVariables false
set_option linter.unusedSimpArgs false
namespace Go.Proofs.Ytcjbceidgaieaaa
open Go.RowKit
theorem RKPost.ahead {W W1 w' : World} {P : Nat → Prop} {kb rb : Nat} {r : Int × Dk.D × List (List UInt8)} {e : Ending} (h : RKPost W1 P kb rb r e w') (hB : Below W.heap.size W W1) : RKPost W P kb rb r e w' := ⟨h.1, h.2.1, (Own.of hB).trans h.2.2 (fun k hk => .inl hk)⟩
set_option maxHeartbeats 2000000 in
set_option maxRecDepth 100000 in
theorem RK.would0 {W : World} {P : Nat → Prop} {kb rb : Nat} {d : Dk.D} {gs : List (List UInt8)} (h : RK W P kb rb d gs) (hon : d.on = true) (a : Aj) (hA : AjOK W a) (h20 : a.rs.length ≤ 20) (hk : a.kind % 7 = 0) {r : Int × Dk.D × List (List UInt8)} (e : Hid (Jn.does d gs a = r)) :
    Calls Try.prog 17 #[ptr kb 0, jV a] W (RKPost W P kb rb r) := by
  have hm : (a.kind : Int).tmod 7 = 0 := by rw [rem7 _ hA.kind, hk]; rfl
  have hB := alloc1 W (.cells (jX a) 50)
  obtain ⟨va, vc, hv⟩ := hA.rb.form
  have e' := e.out
  unfold Jn.does at e'
  have HB := hide9 hB
  have h9 := h.below hB
  have hC := RAddJ_any h9 (hA.rb.below hB) hA.each (by omega) (q := Jn.fits d (Jn.frames gs).length a.rs) (by exact (rfl : _ = _))
  rw [if_neg (by omega), if_neg (by omega), if_neg (by omega), if_neg (by omega)] at e'
  subst e'
  generalize Jn.fits d (Jn.frames gs).length a.rs = q at *
  generalize (if q = 0 then gs ++ a.rs else gs) = g' at *
  obtain ⟨kind, rv, rs, n, behind, k0, k1, c0, c1⟩ := a
  simp only at hv hm hC HB hk h20
  subst hv
  clear h hA hB hk e h9 hon
  go_enter Try.func17, Try.ntmps17
  go_wp2_with (go_at_call 50; refine hC.mono ?_; rintro e w2 ⟨rfl, hK2, hO2⟩)
  go_ret
  exact RKPost.ahead ⟨rfl, hK2, hO2⟩ HB.out
set_option maxHeartbeats 2000000 in
set_option maxRecDepth 100000 in
theorem RK.would1 {W : World} {P : Nat → Prop} {kb rb : Nat} {d : Dk.D} {gs : List (List UInt8)} (h : RK W P kb rb d gs) (hon : d.on = true) (a : Aj) (hA : AjOK W a) (h20 : a.rs.length ≤ 20) (hk : a.kind % 7 = 1) {r : Int × Dk.D × List (List UInt8)} (e : Hid (Jn.does d gs a = r)) :
    Calls Try.prog 17 #[ptr kb 0, jV a] W (RKPost W P kb rb r) := by
  have hm : (a.kind : Int).tmod 7 = 1 := by rw [rem7 _ hA.kind, hk]; rfl
  have hB := alloc1 W (.cells (jX a) 50)
  obtain ⟨va, vc, hv⟩ := hA.rb.form
  have e' := e.out
  unfold Jn.does at e'
  have HB := hide9 hB
  have h9 := h.below hB
  have hC := RCommitJ_any h9 hon (r := Jn.commits d gs) (by exact (rfl : _ = _))
  rw [if_pos hk] at e'
  subst e'
  generalize Jn.commits d gs = q at *
  generalize (if q.1 = 0 then [] else gs) = g' at *
  obtain ⟨kind, rv, rs, n, behind, k0, k1, c0, c1⟩ := a
  simp only at hv hm hC HB hk h20
  subst hv
  clear h hA hB hk e h9 hon
  go_enter Try.func17, Try.ntmps17
  go_wp2_with (go_at_call 48; refine hC.mono ?_; rintro e w2 ⟨rfl, hK2, hO2⟩)
  go_ret
  exact RKPost.ahead ⟨rfl, hK2, hO2⟩ HB.out
set_option maxHeartbeats 2000000 in
set_option maxRecDepth 100000 in
theorem RK.would2 {W : World} {P : Nat → Prop} {kb rb : Nat} {d : Dk.D} {gs : List (List UInt8)} (h : RK W P kb rb d gs) (hon : d.on = true) (a : Aj) (hA : AjOK W a) (h20 : a.rs.length ≤ 20) (hk : a.kind % 7 = 2) {r : Int × Dk.D × List (List UInt8)} (e : Hid (Jn.does d gs a = r)) :
    Calls Try.prog 17 #[ptr kb 0, jV a] W (RKPost W P kb rb r) := by
  have hm : (a.kind : Int).tmod 7 = 2 := by rw [rem7 _ hA.kind, hk]; rfl
  have hB := alloc1 W (.cells (jX a) 50)
  obtain ⟨va, vc, hv⟩ := hA.rb.form
  have e' := e.out
  unfold Jn.does at e'
  have HB := hide9 hB
  have h9 := h.below hB
  rw [if_neg (by omega), if_pos hk] at e'
  subst e'
  have hgl := Jn.frames_length gs
  have hgs := h.small
  obtain ⟨-, x2, ga, gc, x1, -, xf⟩ := h9.cells (n := (Jn.frames gs).length) (by exact (rfl : _ = _))
  have f1 := xf 1
  have f2 := xf 2
  have H9 := hide9 (h9.set (gs' := []) (g' := .slice none 0 0) ⟨(OwnsBytes.nil _ 0).reads, fun k e => by cases e⟩ (by simp [Jn.frames]))
  clear xf
  obtain ⟨kind, rv, rs, n, behind, k0, k1, c0, c1⟩ := a
  simp only at hv hm H9 x1 x2 f1 f2 HB hk h20
  subst hv
  clear h hA hB hk e h9 hon
  go_enter Try.func17, Try.ntmps17
  go_wp2
  go_ret
  exact ⟨rfl, H9.out, (Own.of HB.out).trans (own_two kb _ _ _) (fun k hk => .inl (.inr hk))⟩
set_option maxHeartbeats 2000000 in
set_option maxRecDepth 100000 in
theorem RK.would3 {W : World} {P : Nat → Prop} {kb rb : Nat} {d : Dk.D} {gs : List (List UInt8)} (h : RK W P kb rb d gs) (hon : d.on = true) (a : Aj) (hA : AjOK W a) (h20 : a.rs.length ≤ 20) (hk : a.kind % 7 = 3) {r : Int × Dk.D × List (List UInt8)} (e : Hid (Jn.does d gs a = r)) :
    Calls Try.prog 17 #[ptr kb 0, jV a] W (RKPost W P kb rb r) := by
  have hm : (a.kind : Int).tmod 7 = 3 := by rw [rem7 _ hA.kind, hk]; rfl
  have hB := alloc1 W (.cells (jX a) 50)
  obtain ⟨va, vc, hv⟩ := hA.rb.form
  have e' := e.out
  unfold Jn.does at e'
  have HB := hide9 hB
  have h9 := h.below hB
  have hC := RSnapJ_any h9 (hA.rb.below hB) hA.each (by omega) hon (r := Jn.snaps d gs a.rs) (by exact (rfl : _ = _))
  rw [if_neg (by omega), if_neg (by omega), if_pos hk] at e'
  subst e'
  generalize Jn.snaps d gs a.rs = q at *
  obtain ⟨kind, rv, rs, n, behind, k0, k1, c0, c1⟩ := a
  simp only at hv hm hC HB hk h20
  subst hv
  clear h hA hB hk e h9 hon
  go_enter Try.func17, Try.ntmps17
  go_wp2_with (go_at_call 49; refine hC.mono ?_; rintro e w2 ⟨rfl, hK2, hO2⟩)
  go_ret
  exact RKPost.ahead ⟨rfl, hK2, hO2⟩ HB.out
set_option maxHeartbeats 2000000 in
set_option maxRecDepth 100000 in
theorem RK.would4 {W : World} {P : Nat → Prop} {kb rb : Nat} {d : Dk.D} {gs : List (List UInt8)} (h : RK W P kb rb d gs) (hon : d.on = true) (a : Aj) (hA : AjOK W a) (h20 : a.rs.length ≤ 20) (hk : a.kind % 7 = 4) {r : Int × Dk.D × List (List UInt8)} (e : Hid (Jn.does d gs a = r)) :
    Calls Try.prog 17 #[ptr kb 0, jV a] W (RKPost W P kb rb r) := by
  have hm : (a.kind : Int).tmod 7 = 4 := by rw [rem7 _ hA.kind, hk]; rfl
  have hB := alloc1 W (.cells (jX a) 50)
  obtain ⟨va, vc, hv⟩ := hA.rb.form
  have e' := e.out
  unfold Jn.does at e'
  have HB := hide9 hB
  have h9 := h.below hB
  rw [if_neg (by omega), if_neg (by omega), if_neg (by omega), if_pos (by omega)] at e'
  subst e'
  have H9 := hide9 h9
  obtain ⟨kind, rv, rs, n, behind, k0, k1, c0, c1⟩ := a
  simp only at hv hm  HB hk h20
  subst hv
  clear h hA hB hk e h9 hon
  go_enter Try.func17, Try.ntmps17
  go_wp2
  go_ret
  exact ⟨rfl, H9.out, Own.of HB.out⟩
set_option maxHeartbeats 2000000 in
set_option maxRecDepth 100000 in
theorem RK.would5 {W : World} {P : Nat → Prop} {kb rb : Nat} {d : Dk.D} {gs : List (List UInt8)} (h : RK W P kb rb d gs) (hon : d.on = true) (a : Aj) (hA : AjOK W a) (h20 : a.rs.length ≤ 20) (hk : a.kind % 7 = 5) {r : Int × Dk.D × List (List UInt8)} (e : Hid (Jn.does d gs a = r)) :
    Calls Try.prog 17 #[ptr kb 0, jV a] W (RKPost W P kb rb r) := by
  have hm : (a.kind : Int).tmod 7 = 5 := by rw [rem7 _ hA.kind, hk]; rfl
  have hB := alloc1 W (.cells (jX a) 50)
  obtain ⟨va, vc, hv⟩ := hA.rb.form
  have e' := e.out
  unfold Jn.does at e'
  have HB := hide9 hB
  have h9 := h.below hB
  rw [if_neg (by omega), if_neg (by omega), if_neg (by omega), if_pos (by omega)] at e'
  subst e'
  have H9 := hide9 h9
  obtain ⟨kind, rv, rs, n, behind, k0, k1, c0, c1⟩ := a
  simp only at hv hm  HB hk h20
  subst hv
  clear h hA hB hk e h9 hon
  go_enter Try.func17, Try.ntmps17
  go_wp2
  go_ret
  exact ⟨rfl, H9.out, Own.of HB.out⟩
set_option maxHeartbeats 2000000 in
set_option maxRecDepth 100000 in
theorem RK.would6 {W : World} {P : Nat → Prop} {kb rb : Nat} {d : Dk.D} {gs : List (List UInt8)} (h : RK W P kb rb d gs) (hon : d.on = true) (a : Aj) (hA : AjOK W a) (h20 : a.rs.length ≤ 20) (hk : a.kind % 7 = 6) {r : Int × Dk.D × List (List UInt8)} (e : Hid (Jn.does d gs a = r)) :
    Calls Try.prog 17 #[ptr kb 0, jV a] W (RKPost W P kb rb r) := by
  have hm : (a.kind : Int).tmod 7 = 6 := by rw [rem7 _ hA.kind, hk]; rfl
  have hB := alloc1 W (.cells (jX a) 50)
  obtain ⟨va, vc, hv⟩ := hA.rb.form
  have e' := e.out
  unfold Jn.does at e'
  have HB := hide9 hB
  have h9 := h.below hB
  have hC := RAddJ_any h9 (hA.rb.below hB) hA.each (by omega) (q := Jn.fits d (Jn.frames gs).length a.rs) (by exact (rfl : _ = _))
  rw [if_neg (by omega), if_neg (by omega), if_neg (by omega), if_neg (by omega)] at e'
  subst e'
  generalize Jn.fits d (Jn.frames gs).length a.rs = q at *
  generalize (if q = 0 then gs ++ a.rs else gs) = g' at *
  obtain ⟨kind, rv, rs, n, behind, k0, k1, c0, c1⟩ := a
  simp only at hv hm hC HB hk h20
  subst hv
  clear h hA hB hk e h9 hon
  go_enter Try.func17, Try.ntmps17
  go_wp2_with (go_at_call 50; refine hC.mono ?_; rintro e w2 ⟨rfl, hK2, hO2⟩)
  go_ret
  exact RKPost.ahead ⟨rfl, hK2, hO2⟩ HB.out
theorem RK.would {W : World} {P : Nat → Prop} {kb rb : Nat} {d : Dk.D} {gs : List (List UInt8)} (h : RK W P kb rb d gs) (hon : d.on = true) (a : Aj) (hA : AjOK W a) (h20 : a.rs.length ≤ 20) {r : Int × Dk.D × List (List UInt8)} (e : Hid (Jn.does d gs a = r)) :
    Calls Try.prog 17 #[ptr kb 0, jV a] W (RKPost W P kb rb r) := by
  rcases (by omega : a.kind % 7 = 0 ∨ a.kind % 7 = 1 ∨ a.kind % 7 = 2 ∨ a.kind % 7 = 3 ∨ a.kind % 7 = 4 ∨ a.kind % 7 = 5 ∨ a.kind % 7 = 6) with hk | hk | hk | hk | hk | hk | hk
  · exact h.would0 hon a hA h20 hk e
  · exact h.would1 hon a hA h20 hk e
  · exact h.would2 hon a hA h20 hk e
  · exact h.would3 hon a hA h20 hk e
  · exact h.would4 hon a hA h20 hk e
  · exact h.would5 hon a hA h20 hk e
  · exact h.would6 hon a hA h20 hk e
end Go.Proofs.Ytcjbceidgaieaaa
