/- What a journal's act does; the contract of does. -/
import Derived.Test.YtnnlmnjbmbflpaaJnN
set_option linter.unusedVariables false
set_option linter.unusedSimpArgs false
namespace Go.Proofs.Ytnnlmnjbmbflpaa
open Go.RowKit
/-- What an act of a journal's script does: its answer, the disk, the group. -/
def Jn.does (d : Dk.D) (gs : List (List UInt8)) (a : Aj) : Int × Dk.D × List (List UInt8) :=
  if a.kind % 7 = 1 then ((Jn.commits d gs).1, (Jn.commits d gs).2, if (Jn.commits d gs).1 = 0 then [] else gs)
  else if a.kind % 7 = 2 then (100 + (gs.length : Int), d, [])
  else if a.kind % 7 = 3 then ((Jn.snaps d gs a.rs).1, (Jn.snaps d gs a.rs).2, gs)
  else if a.kind % 7 = 4 ∨ a.kind % 7 = 5 then (0, d, gs)
  else (Jn.fits d (Jn.frames gs).length a.rs, d, if Jn.fits d (Jn.frames gs).length a.rs = 0 then gs ++ a.rs else gs)
/-- What a call of a journal leaves. -/
def JPost (w0 : World) (T : Nat → Prop) (b jb : Nat) (W : World) (r : Int × Dk.D × List (List UInt8)) (e : Ending) (w' : World) : Prop := ∃ T', e = .returned (.int .i64 r.1) ∧ JR w0 T' b jb r.2.1 r.2.2 w' ∧ Tw W T T' w'
/-- A script that came in. -/
def ArgJ (w : World) (v : Value) (as9 : List Aj) : Prop := RJs w v as9 ∧ as9.length ≤ maxLen
theorem store_below {w wn : World} {o : Obj} (h : Own (fun k => k = w.heap.size) (w.alloc o) wn) : Below w.heap.size w wn := (alloc1 w o).trans (h.below (fun k hk => by rw [hk]; exact Nat.le_refl _) (by simp))
theorem JR.rx {w0 W : World} {T : Nat → Prop} {b jb : Nat} {d : Dk.D} {gs : List (List UInt8)} (h : JR w0 T b jb d gs W) {a : Aj} (hA : AjOK w0 a) (h20 : a.rs.length ≤ 20) : Rx T W a.rv a.rs := ⟨h.came hA.rb, by omega, hA.each⟩
set_option maxHeartbeats 2000000 in
set_option maxRecDepth 100000 in
theorem JR.does0 {w0 W : World} {T : Nat → Prop} {b jb : Nat} {d : Dk.D} {gs : List (List UInt8)} (h : JR w0 T b jb d gs W) (a : Aj) (hA : AjOK w0 a) (h20 : a.rs.length ≤ 20) (hk : a.kind % 7 = 0) {r : Int × Dk.D × List (List UInt8)} (e : Hid (Jn.does d gs a = r)) :
    Calls Try.prog 26 #[ptr jb 0, jV a] W (JPost w0 T b jb W r) := by
  have hm : (a.kind : Int).tmod 7 = 0 := by rw [rem7 _ hA.kind, hk]; rfl
  have hB := alloc1 W (.cells (jX a) 63)
  obtain ⟨va, vc, hv⟩ := hA.rb.form
  have e' := e.out
  unfold Jn.does at e'
  have HB := hide9 hB
  have h9 := h.below hB
  have hC := h9.add (h9.rx hA h20) (q := Jn.fits d (Jn.frames gs).length a.rs) (by exact (rfl : _ = _))
  rw [if_neg (by omega), if_neg (by omega), if_neg (by omega), if_neg (by omega)] at e'
  subst e'
  generalize Jn.fits d (Jn.frames gs).length a.rs = q at *
  generalize (if q = 0 then gs ++ a.rs else gs) = g' at *
  obtain ⟨kind, rv, rs, n, behind, k0, k1, c0, c1⟩ := a
  simp only at hv hm hC HB hk h20
  subst hv
  clear h hA hB hk e h9
  go_enter Try.func26, Try.ntmps26
  go_wp2_with (go_at_call 40; refine hC.mono ?_; rintro e w2 ⟨T2, rfl, hJ2, hT2⟩)
  go_ret
  exact ⟨T2, rfl, hJ2, (Tw.of T HB.out).trans hT2⟩
set_option maxHeartbeats 2000000 in
set_option maxRecDepth 100000 in
theorem JR.does1 {w0 W : World} {T : Nat → Prop} {b jb : Nat} {d : Dk.D} {gs : List (List UInt8)} (h : JR w0 T b jb d gs W) (a : Aj) (hA : AjOK w0 a) (h20 : a.rs.length ≤ 20) (hk : a.kind % 7 = 1) {r : Int × Dk.D × List (List UInt8)} (e : Hid (Jn.does d gs a = r)) :
    Calls Try.prog 26 #[ptr jb 0, jV a] W (JPost w0 T b jb W r) := by
  have hm : (a.kind : Int).tmod 7 = 1 := by rw [rem7 _ hA.kind, hk]; rfl
  have hB := alloc1 W (.cells (jX a) 63)
  obtain ⟨va, vc, hv⟩ := hA.rb.form
  have e' := e.out
  unfold Jn.does at e'
  have HB := hide9 hB
  have h9 := h.below hB
  have hC := h9.commit (r := Jn.commits d gs) (by exact (rfl : _ = _))
  rw [if_pos hk] at e'
  subst e'
  generalize Jn.commits d gs = q at *
  generalize (if q.1 = 0 then [] else gs) = g' at *
  obtain ⟨kind, rv, rs, n, behind, k0, k1, c0, c1⟩ := a
  simp only at hv hm hC HB hk h20
  subst hv
  clear h hA hB hk e h9
  go_enter Try.func26, Try.ntmps26
  go_wp2_with (go_at_call 41; refine hC.mono ?_; rintro e w2 ⟨T2, rfl, hJ2, hT2⟩)
  go_ret
  exact ⟨T2, rfl, hJ2, (Tw.of T HB.out).trans hT2⟩
set_option maxHeartbeats 2000000 in
set_option maxRecDepth 100000 in
theorem JR.does2 {w0 W : World} {T : Nat → Prop} {b jb : Nat} {d : Dk.D} {gs : List (List UInt8)} (h : JR w0 T b jb d gs W) (a : Aj) (hA : AjOK w0 a) (h20 : a.rs.length ≤ 20) (hk : a.kind % 7 = 2) {r : Int × Dk.D × List (List UInt8)} (e : Hid (Jn.does d gs a = r)) :
    Calls Try.prog 26 #[ptr jb 0, jV a] W (JPost w0 T b jb W r) := by
  have hm : (a.kind : Int).tmod 7 = 2 := by rw [rem7 _ hA.kind, hk]; rfl
  have hB := alloc1 W (.cells (jX a) 63)
  obtain ⟨va, vc, hv⟩ := hA.rb.form
  have e' := e.out
  unfold Jn.does at e'
  have HB := hide9 hB
  have h9 := h.below hB
  have hC := h9.drop
  rw [if_neg (by omega), if_pos hk] at e'
  subst e'
  have hgl := Jn.frames_length gs
  have hgs := h.small
  obtain ⟨kind, rv, rs, n, behind, k0, k1, c0, c1⟩ := a
  simp only at hv hm hC HB hk h20
  subst hv
  clear h hA hB hk e h9
  go_enter Try.func26, Try.ntmps26
  go_wp2_with (go_at_call 42; refine hC.mono ?_; rintro e w2 ⟨T2, rfl, hJ2, hT2⟩)
  go_ret
  exact ⟨T2, rfl, hJ2, (Tw.of T HB.out).trans hT2⟩
set_option maxHeartbeats 2000000 in
set_option maxRecDepth 100000 in
theorem JR.does3 {w0 W : World} {T : Nat → Prop} {b jb : Nat} {d : Dk.D} {gs : List (List UInt8)} (h : JR w0 T b jb d gs W) (a : Aj) (hA : AjOK w0 a) (h20 : a.rs.length ≤ 20) (hk : a.kind % 7 = 3) {r : Int × Dk.D × List (List UInt8)} (e : Hid (Jn.does d gs a = r)) :
    Calls Try.prog 26 #[ptr jb 0, jV a] W (JPost w0 T b jb W r) := by
  have hm : (a.kind : Int).tmod 7 = 3 := by rw [rem7 _ hA.kind, hk]; rfl
  have hB := alloc1 W (.cells (jX a) 63)
  obtain ⟨va, vc, hv⟩ := hA.rb.form
  have e' := e.out
  unfold Jn.does at e'
  have HB := hide9 hB
  have h9 := h.below hB
  have hC := h9.snap (h9.rx hA h20) (r := Jn.snaps d gs a.rs) (by exact (rfl : _ = _))
  rw [if_neg (by omega), if_neg (by omega), if_pos hk] at e'
  subst e'
  generalize Jn.snaps d gs a.rs = q at *
  obtain ⟨kind, rv, rs, n, behind, k0, k1, c0, c1⟩ := a
  simp only at hv hm hC HB hk h20
  subst hv
  clear h hA hB hk e h9
  go_enter Try.func26, Try.ntmps26
  go_wp2_with (go_at_call 43; refine hC.mono ?_; rintro e w2 ⟨T2, rfl, hJ2, hT2⟩)
  go_ret
  exact ⟨T2, rfl, hJ2, (Tw.of T HB.out).trans hT2⟩
set_option maxHeartbeats 2000000 in
set_option maxRecDepth 100000 in
theorem JR.does4 {w0 W : World} {T : Nat → Prop} {b jb : Nat} {d : Dk.D} {gs : List (List UInt8)} (h : JR w0 T b jb d gs W) (a : Aj) (hA : AjOK w0 a) (h20 : a.rs.length ≤ 20) (hk : a.kind % 7 = 4) {r : Int × Dk.D × List (List UInt8)} (e : Hid (Jn.does d gs a = r)) :
    Calls Try.prog 26 #[ptr jb 0, jV a] W (JPost w0 T b jb W r) := by
  have hm : (a.kind : Int).tmod 7 = 4 := by rw [rem7 _ hA.kind, hk]; rfl
  have hB := alloc1 W (.cells (jX a) 63)
  obtain ⟨va, vc, hv⟩ := hA.rb.form
  have e' := e.out
  unfold Jn.does at e'
  have HB := hide9 hB
  have h9 := h.below hB
  rw [if_neg (by omega), if_neg (by omega), if_neg (by omega), if_pos (by omega)] at e'
  subst e'
  have H9 := hide9 h9
  obtain ⟨kind, rv, rs, n, behind, k0, k1, c0, c1⟩ := a
  simp only at hv hm  HB hk h20
  subst hv
  clear h hA hB hk e h9
  go_enter Try.func26, Try.ntmps26
  go_wp2
  go_ret
  exact ⟨T, rfl, H9.out, Tw.of T HB.out⟩
set_option maxHeartbeats 2000000 in
set_option maxRecDepth 100000 in
theorem JR.does5 {w0 W : World} {T : Nat → Prop} {b jb : Nat} {d : Dk.D} {gs : List (List UInt8)} (h : JR w0 T b jb d gs W) (a : Aj) (hA : AjOK w0 a) (h20 : a.rs.length ≤ 20) (hk : a.kind % 7 = 5) {r : Int × Dk.D × List (List UInt8)} (e : Hid (Jn.does d gs a = r)) :
    Calls Try.prog 26 #[ptr jb 0, jV a] W (JPost w0 T b jb W r) := by
  have hm : (a.kind : Int).tmod 7 = 5 := by rw [rem7 _ hA.kind, hk]; rfl
  have hB := alloc1 W (.cells (jX a) 63)
  obtain ⟨va, vc, hv⟩ := hA.rb.form
  have e' := e.out
  unfold Jn.does at e'
  have HB := hide9 hB
  have h9 := h.below hB
  rw [if_neg (by omega), if_neg (by omega), if_neg (by omega), if_pos (by omega)] at e'
  subst e'
  have H9 := hide9 h9
  obtain ⟨kind, rv, rs, n, behind, k0, k1, c0, c1⟩ := a
  simp only at hv hm  HB hk h20
  subst hv
  clear h hA hB hk e h9
  go_enter Try.func26, Try.ntmps26
  go_wp2
  go_ret
  exact ⟨T, rfl, H9.out, Tw.of T HB.out⟩
set_option maxHeartbeats 2000000 in
set_option maxRecDepth 100000 in
theorem JR.does6 {w0 W : World} {T : Nat → Prop} {b jb : Nat} {d : Dk.D} {gs : List (List UInt8)} (h : JR w0 T b jb d gs W) (a : Aj) (hA : AjOK w0 a) (h20 : a.rs.length ≤ 20) (hk : a.kind % 7 = 6) {r : Int × Dk.D × List (List UInt8)} (e : Hid (Jn.does d gs a = r)) :
    Calls Try.prog 26 #[ptr jb 0, jV a] W (JPost w0 T b jb W r) := by
  have hm : (a.kind : Int).tmod 7 = 6 := by rw [rem7 _ hA.kind, hk]; rfl
  have hB := alloc1 W (.cells (jX a) 63)
  obtain ⟨va, vc, hv⟩ := hA.rb.form
  have e' := e.out
  unfold Jn.does at e'
  have HB := hide9 hB
  have h9 := h.below hB
  have hC := h9.add (h9.rx hA h20) (q := Jn.fits d (Jn.frames gs).length a.rs) (by exact (rfl : _ = _))
  rw [if_neg (by omega), if_neg (by omega), if_neg (by omega), if_neg (by omega)] at e'
  subst e'
  generalize Jn.fits d (Jn.frames gs).length a.rs = q at *
  generalize (if q = 0 then gs ++ a.rs else gs) = g' at *
  obtain ⟨kind, rv, rs, n, behind, k0, k1, c0, c1⟩ := a
  simp only at hv hm hC HB hk h20
  subst hv
  clear h hA hB hk e h9
  go_enter Try.func26, Try.ntmps26
  go_wp2_with (go_at_call 40; refine hC.mono ?_; rintro e w2 ⟨T2, rfl, hJ2, hT2⟩)
  go_ret
  exact ⟨T2, rfl, hJ2, (Tw.of T HB.out).trans hT2⟩
theorem JR.does {w0 W : World} {T : Nat → Prop} {b jb : Nat} {d : Dk.D} {gs : List (List UInt8)} (h : JR w0 T b jb d gs W) (a : Aj) (hA : AjOK w0 a) (h20 : a.rs.length ≤ 20) {r : Int × Dk.D × List (List UInt8)} (e : Hid (Jn.does d gs a = r)) :
    Calls Try.prog 26 #[ptr jb 0, jV a] W (JPost w0 T b jb W r) := by
  rcases (by omega : a.kind % 7 = 0 ∨ a.kind % 7 = 1 ∨ a.kind % 7 = 2 ∨ a.kind % 7 = 3 ∨ a.kind % 7 = 4 ∨ a.kind % 7 = 5 ∨ a.kind % 7 = 6) with hk | hk | hk | hk | hk | hk | hk
  · exact h.does0 a hA h20 hk e
  · exact h.does1 a hA h20 hk e
  · exact h.does2 a hA h20 hk e
  · exact h.does3 a hA h20 hk e
  · exact h.does4 a hA h20 hk e
  · exact h.does5 a hA h20 hk e
  · exact h.does6 a hA h20 hk e
namespace Jn
/-- On a disk without a fuse, with power. -/
theorem file_ok {f : Int} (h : f = 0 ∨ f = 1) : ¬ (f < 0 ∨ 2 ≤ f) := by omega
theorem write_calm {d : Dk.D} (h : d.Calm) (f : Int) (hf : f = 0 ∨ f = 1) (l : List UInt8) : (write d f l).1 = 11 ∧ (write d f l).2 = d ∨ (write d f l).1 = 0 ∧ (write d f l).2.Calm := by
  unfold write
  rw [Dk.append_calm h, if_neg (file_ok hf)]
  by_cases hl : d.left < l.length
  · rw [if_pos hl]
    exact .inl ⟨rfl, rfl⟩
  · rw [if_neg hl]
    simp only [ne_eq, not_true_eq_false, if_false]
    rw [Dk.sync_calm (Dk.calm_put h _ _), if_neg (file_ok hf)]
    exact .inr ⟨rfl, Dk.calm_put (Dk.calm_put h _ _) _ _⟩
theorem cut_calm {d : Dk.D} (h : d.Calm) (f : Int) (hf : f = 0 ∨ f = 1) (n : Nat) (hn : n ≤ (d.at f).now.length) : (cut d f n).1 = 0 ∧ (cut d f n).2.Calm := by
  unfold cut
  rw [Dk.trunc_calm h, if_neg (file_ok hf), if_neg (show ¬ ((n : Int) < 0 ∨ ((d.at f).now.length : Int) < (n : Int)) by omega)]
  simp only [ne_eq, not_true_eq_false, if_false]
  rw [Dk.sync_calm (Dk.calm_put h _ _), if_neg (file_ok hf)]
  exact ⟨rfl, Dk.calm_put (Dk.calm_put h _ _) _ _⟩
theorem commits_calm {d : Dk.D} (h : d.Calm) (hF : d.Fine) (gs : List (List UInt8)) : (commits d gs).1 = 11 ∧ (commits d gs).2 = d ∨ (commits d gs).1 = 0 ∧ (commits d gs).2.Calm := by
  unfold commits
  by_cases hg : gs = []
  · rw [if_pos hg]
    exact .inr ⟨rfl, h⟩
  · rw [if_neg hg, if_neg (by simp [h.on])]
    rcases write_calm h d.root hF.root (frames gs) with ⟨h1, h2⟩ | ⟨h1, h2⟩
    · exact .inl ⟨h1, h2⟩
    · exact .inr ⟨h1, h2⟩
theorem snaps_calm {d : Dk.D} (h : d.Calm) (hF : d.Fine) (gs rs : List (List UInt8)) : ((snaps d gs rs).1 = 1 ∨ (snaps d gs rs).1 = 11 ∨ (snaps d gs rs).1 = 13) ∧ (snaps d gs rs).2 = d ∨ (snaps d gs rs).1 = 0 ∧ (snaps d gs rs).2.Calm := by
  have hr := hF.root
  unfold snaps
  by_cases hg : gs ≠ []
  · rw [if_pos hg]
    exact .inl ⟨.inr (.inr rfl), rfl⟩
  · rw [if_neg hg]
    by_cases hf : fits d 0 rs ≠ 0
    · rw [if_pos hf]
      rcases fits_some d 0 rs with h0 | h0 | h0
      · exact absurd h0 hf
      · exact .inl ⟨.inl h0, rfl⟩
      · exact .inl ⟨.inr (.inl h0), rfl⟩
    · rw [if_neg hf]
      unfold snap
      rw [if_neg (by simp [h.on])]
      rcases write_calm h (1 - d.root) (by omega) (frames rs) with ⟨h1, h2⟩ | ⟨h1, h2⟩
      · rw [if_pos (by rw [h1]; decide)]
        exact .inl ⟨.inr (.inl h1), h2⟩
      · rw [if_neg (by rw [h1]; decide)]
        generalize (write d (1 - d.root) (frames rs)).2 = dw at *
        unfold snap3
        rw [Dk.switch_calm h2, if_neg (file_ok (f := 1 - d.root) (by omega))]
        simp only [ne_eq, not_true_eq_false, if_false]
        have := cut_calm (d := { dw with root := 1 - d.root }) ⟨h2.on, h2.fuse⟩ d.root hr 0 (Nat.zero_le _)
        exact .inr this
theorem does_calm {d : Dk.D} (h : d.Calm) (hF : d.Fine) (gs : List (List UInt8)) (a : Aj) (hk : a.kind % 7 ≠ 2) : ((does d gs a).1 = 1 ∨ (does d gs a).1 = 11 ∨ (does d gs a).1 = 13) ∧ (does d gs a).2 = (d, gs) ∨ (does d gs a).1 = 0 ∧ (does d gs a).2.1.Calm := by
  unfold does
  by_cases h1 : a.kind % 7 = 1
  · rw [if_pos h1]
    rcases commits_calm h hF gs with ⟨h2, h3⟩ | ⟨h2, h3⟩
    · refine .inl ⟨.inr (.inl h2), ?_⟩
      show (_, _) = _
      rw [h3, if_neg (by rw [h2]; decide)]
    · exact .inr ⟨h2, h3⟩
  · rw [if_neg h1, if_neg hk]
    by_cases h3 : a.kind % 7 = 3
    · rw [if_pos h3]
      rcases snaps_calm h hF gs a.rs with ⟨h4, h5⟩ | ⟨h4, h5⟩
      · exact .inl ⟨h4, by rw [h5]⟩
      · exact .inr ⟨h4, h5⟩
    · rw [if_neg h3]
      by_cases h4 : a.kind % 7 = 4 ∨ a.kind % 7 = 5
      · rw [if_pos h4]
        exact .inr ⟨rfl, h⟩
      · rw [if_neg h4]
        rcases fits_some d (frames gs).length a.rs with h0 | h0 | h0
        · exact .inr ⟨h0, h⟩
        · exact .inl ⟨.inl h0, by rw [h0]; rfl⟩
        · exact .inl ⟨.inr (.inl h0), by rw [h0]; rfl⟩
end Jn
end Go.Proofs.Ytnnlmnjbmbflpaa
