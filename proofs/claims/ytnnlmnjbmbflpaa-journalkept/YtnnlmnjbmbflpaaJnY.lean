/- What a loss leaves of a journal whose commit is under way. -/
import Derived.Test.YtnnlmnjbmbflpaaJnX
set_option linter.unusedVariables false
set_option linter.unusedSimpArgs false
namespace Go.Proofs.Ytnnlmnjbmbflpaa
namespace Jn
theorem act_off {d : Dk.D} {f : Int} {does : Dk.D → Dk.D} (hw : d.why f = 0) (h : (d.act f 0 does).1 = 12) : (d.act f 0 does).2.on = false := by
  unfold Dk.D.act at *
  rw [if_neg (by simp [hw]), if_neg (by simp)] at *
  by_cases hf : d.fuse = 0
  · rw [if_pos hf]
  · rw [if_neg hf] at h
    cases h
/-- A journal's disk in rest. -/
structure Kp (d : Dk.D) (ss : List (List UInt8)) : Prop where
  on : d.on = true
  core : Core d 0 ⟨frames ss, (frames ss).length, []⟩ ⟨[], 0, []⟩
  all : All ss
/-- A journal's disk behind a commit that was under way. -/
structure Kt (d : Dk.D) (ss gs : List (List UInt8)) : Prop where
  on : d.on = false
  root : d.root = 0
  b : d.b = ⟨[], 0, []⟩
  a : d.a = ⟨frames ss, (frames ss).length, []⟩ ∨ d.a = ⟨frames ss ++ frames gs, (frames ss).length, []⟩ ∨ d.a = ⟨frames ss ++ frames gs, (frames ss ++ frames gs).length, []⟩
  all : All ss
  gall : All gs
theorem commit_kp {d : Dk.D} {ss gs : List (List UInt8)} (h : Kp d ss) (hg : All gs) {r : Int × Dk.D} (e : commits d gs = r) : (r.1 = 0 ∧ Kp r.2 (ss ++ gs)) ∨ (r.1 = 11 ∧ r.2 = d) ∨ (r.1 = 12 ∧ Kt r.2 ss gs) := by
  unfold commits at e
  by_cases hge : gs = []
  · rw [if_pos hge] at e
    subst e
    subst hge
    rw [List.append_nil]
    exact .inl ⟨rfl, h⟩
  · rw [if_neg hge, if_neg (by simp [h.on]), h.core.root] at e
    have hall : All (ss ++ gs) := fun x hx => (List.mem_append.1 hx).elim (h.all x) (hg x)
    by_cases hl : d.left < ((frames gs).length : Int)
    · have ha : d.append 0 (frames gs) = (11, d) := by
        unfold Dk.D.append Dk.D.act
        rw [if_pos hl, if_neg (by simp [why_ok h.on (.inl rfl)]), if_pos (by decide)]
      unfold write at e
      rw [ha, if_pos (show (11 : Int) ≠ 0 by decide)] at e
      subst e
      exact .inr (.inl ⟨rfl, rfl⟩)
    · have ha : d.append 0 (frames gs) = d.act 0 0 (fun x => x.put 0 ((x.at 0).app (frames gs))) := by
        unfold Dk.D.append
        rw [if_neg hl]
      have hoff := act_off (d := d) (f := 0) (does := fun x => x.put 0 ((x.at 0).app (frames gs))) (why_ok h.on (.inl rfl))
      unfold write at e
      rw [ha] at e
      rcases core_act (d := d) (f := 0) (does := fun x => x.put 0 ((x.at 0).app (frames gs))) (A' := ⟨frames ss ++ frames gs, (frames ss).length, []⟩) (B' := ⟨[], 0, []⟩) (rt' := 0) (why_ok h.on (.inl rfl)) h.core ⟨h.core.root, by show (d.a.app (frames gs)) = _; rw [h.core.a]; rfl, h.core.b⟩ (by rw [(put_two _ _ _).1]; exact h.on) with ⟨h1, h2⟩ | ⟨h1, ho1, h2⟩
      · rw [if_pos (by rw [h1]; decide)] at e
        subst e
        exact .inr (.inr ⟨h1, hoff h1, h2.elim (fun h => h.root) (fun h => h.root), h2.elim (fun h => h.b) (fun h => h.b), h2.elim (fun h => .inl h.a) (fun h => .inr (.inl h.a)), h.all, hg⟩)
      · rw [if_neg (by rw [h1]; decide)] at e
        generalize (d.act 0 0 (fun x => x.put 0 ((x.at 0).app (frames gs)))).2 = d1 at *
        have hoff2 := act_off (d := d1) (f := 0) (does := fun x => x.put 0 (x.at 0).settle) (why_ok ho1 (.inl rfl))
        rcases core_sync ho1 h2 0 (.inl rfl) with ⟨h3, h4⟩ | ⟨h3, ho3, h4⟩
        · subst e
          exact .inr (.inr ⟨h3, hoff2 h3, h4.elim (fun h => h.root) (fun h => h.root), h4.elim (fun h => h.b) (fun h => h.b), h4.elim (fun h => .inr (.inl h.a)) (fun h => .inr (.inr h.a)), h.all, hg⟩)
        · subst e
          refine .inl ⟨h3, ho3, ?_, hall⟩
          rw [frames_app]
          exact h4
theorem fail_kt {d : Dk.D} {ss : List (List UInt8)} (h : Kp d ss) : Kt d.fail ss [] := ⟨rfl, h.core.root, h.core.b, .inl h.core.a, h.all, fun r hr => by simp at hr⟩
/-- What is left of the first file. -/
theorem kt_left {d : Dk.D} {ss gs : List (List UInt8)} (h : Kt d ss gs) (k : Int) (c : Bool) : ∃ m, d.a.left k c = frames ss ++ (frames gs).take m := by
  rcases h.a with ha | ha | ha <;> rw [ha] <;> unfold Dk.Cn.left <;> rw [if_neg (by simp)]
  · exact ⟨0, by rw [List.take_of_length_le (Nat.le_add_right _ _)]; simp⟩
  · refine ⟨Dk.Cn.kept ⟨frames ss ++ frames gs, (frames ss).length, []⟩ k, ?_⟩
    rw [List.take_append, List.take_of_length_le (Nat.le_add_right _ _), Nat.add_sub_cancel_left]
  · exact ⟨(frames gs).length, by rw [List.take_of_length_le (Nat.le_add_right _ _), List.take_of_length_le (Nat.le_refl _)]⟩
theorem opens_kp {d : Dk.D} {ss : List (List UInt8)} (h : Kp d ss) : opens d = (0, d) ∧ recs d d.root = ss := by
  have hn : (d.at d.root).now = frames ss := by
    rw [h.core.root]
    show d.a.now = _
    rw [h.core.a]
  have hre : recs d d.root = ss := by
    unfold recs
    rw [hn, scan_all ss h.all]
  refine ⟨?_, hre⟩
  have hm : mend d d.root = (0, d) := by
    unfold mend
    rw [hre, hn, if_pos rfl]
  unfold opens
  rw [if_neg (by simp [h.on]), hm]
  simp only [ne_eq, not_true_eq_false, if_false]
  unfold empty
  rw [h.core.root, if_pos (by show d.b.now.length = 0; rw [h.core.b]; rfl)]
/-- Behind a loss, and opened. -/
theorem kt_opens {d : Dk.D} {ss gs : List (List UInt8)} (h : Kt d ss gs) (k0 k1 : Int) (c0 c1 : Bool) : ∃ dS d' m, m ≤ gs.length ∧ d.start k0 k1 c0 c1 = (0, dS) ∧ dS.on = true ∧ opens dS = (0, d') ∧ recs dS dS.root = ss ++ gs.take m ∧ Kp d' (ss ++ gs.take m) := by
  obtain ⟨m0, hm0⟩ := kt_left h k0 c0
  obtain ⟨m, hm, hsc⟩ := scan_torn ss gs m0 h.all h.gall
  obtain ⟨dS, hdS⟩ : ∃ dS, d.start k0 k1 c0 c1 = (0, dS) := ⟨_, by unfold Dk.D.start; rw [h.on]; rfl⟩
  have hS : dS = { d with a := d.a.lose k0 c0, b := d.b.lose k1 c1, on := true, fuse := -1 } := by
    unfold Dk.D.start at hdS
    rw [h.on] at hdS
    exact (congrArg Prod.snd hdS).symm
  have hr : dS.root = 0 := by rw [hS]; exact h.root
  have hon : dS.on = true := by rw [hS]
  have hfu : dS.fuse = -1 := by rw [hS]
  obtain ⟨N, hN⟩ : ∃ N, d.a.left k0 c0 = N := ⟨_, rfl⟩
  have ha : dS.a = ⟨N, N.length, []⟩ := by
    rw [hS, ← hN]
    rfl
  have hb : dS.b = ⟨[], 0, []⟩ := by
    rw [hS]
    show d.b.lose k1 c1 = _
    rw [h.b]
    show (⟨Dk.Cn.left ⟨[], 0, []⟩ k1 c1, (Dk.Cn.left ⟨[], 0, []⟩ k1 c1).length, []⟩ : Dk.Cn) = _
    have : Dk.Cn.left ⟨[], 0, []⟩ k1 c1 = [] := by
      unfold Dk.Cn.left
      rw [if_neg (by simp)]
      simp
    rw [this]
    rfl
  rw [hN] at hm0
  have hall : All (ss ++ gs.take m) := fun x hx => (List.mem_append.1 hx).elim (h.all x) (fun hx => h.gall x (List.mem_of_mem_take hx))
  have hrec : recs dS dS.root = ss ++ gs.take m := by
    unfold recs
    rw [hr]
    show scan dS.a.now = _
    rw [ha, hm0]
    exact hsc
  have hcalm : dS.Calm := ⟨hon, hfu⟩
  have hsz := scan_size N
  have htk := scan_take N
  rw [hm0, hsc, ← hm0] at hsz htk
  have hemp : ∀ x : Dk.D, x.b = ⟨[], 0, []⟩ → empty x 1 = (0, x) := fun x hx => by
    unfold empty
    rw [if_pos (by show x.b.now.length = 0; rw [hx]; rfl)]
  have hat : (dS.at 0).now = N := by show dS.a.now = N; rw [ha]
  by_cases hq : (frames (ss ++ gs.take m)).length = N.length
  · have hNe : N = frames (ss ++ gs.take m) := by rw [← htk, hq, List.take_of_length_le (Nat.le_refl _)]
    refine ⟨dS, dS, m, hm, hdS, hon, ?_, hrec, ⟨hon, ⟨hr, by rw [ha, hNe], hb⟩, hall⟩⟩
    have hme : mend dS dS.root = (0, dS) := by
      unfold mend
      rw [hrec, hr, hat, if_pos hq]
    unfold opens
    rw [if_neg (by simp [hon]), hme]
    simp only [ne_eq, not_true_eq_false, if_false]
    rw [hr]
    exact hemp dS hb
  · have hcut : cut dS 0 ((frames (ss ++ gs.take m)).length : Int) = (0, { dS with a := ⟨frames (ss ++ gs.take m), (frames (ss ++ gs.take m)).length, []⟩ }) := by
      unfold cut
      rw [Dk.trunc_calm hcalm, if_neg (file_ok (.inl rfl)), if_neg (show ¬ (((frames (ss ++ gs.take m)).length : Int) < 0 ∨ ((dS.at 0).now.length : Int) < ((frames (ss ++ gs.take m)).length : Int)) by rw [hat]; omega)]
      simp only [ne_eq, not_true_eq_false, if_false]
      rw [Dk.sync_calm (Dk.calm_put hcalm _ _), if_neg (file_ok (.inl rfl))]
      have hx : ((dS.at 0).trunc ((frames (ss ++ gs.take m)).length : Int).toNat).settle = ⟨frames (ss ++ gs.take m), (frames (ss ++ gs.take m)).length, []⟩ := by
        show Dk.Cn.settle (dS.a.trunc ((frames (ss ++ gs.take m)).length : Int).toNat) = _
        rw [ha, Int.toNat_natCast]
        show (⟨N.take (frames (ss ++ gs.take m)).length, (N.take (frames (ss ++ gs.take m)).length).length, []⟩ : Dk.Cn) = _
        rw [htk]
      show (0, ({ dS with a := ((dS.at 0).trunc ((frames (ss ++ gs.take m)).length : Int).toNat).settle } : Dk.D)) = _
      rw [hx]
    refine ⟨dS, { dS with a := ⟨frames (ss ++ gs.take m), (frames (ss ++ gs.take m)).length, []⟩ }, m, hm, hdS, hon, ?_, hrec, ⟨hon, ⟨hr, rfl, hb⟩, hall⟩⟩
    have hme : mend dS dS.root = (0, { dS with a := ⟨frames (ss ++ gs.take m), (frames (ss ++ gs.take m)).length, []⟩ }) := by
      rw [← hcut]
      unfold mend
      rw [hrec, hr, hat, if_neg hq]
    unfold opens
    rw [if_neg (by simp [hon]), hme]
    simp only [ne_eq, not_true_eq_false, if_false]
    rw [hr]
    exact hemp _ hb
theorem arm_kp {d : Dk.D} {ss : List (List UInt8)} (h : Kp d ss) (n : Int) (q : Bool) : Kp (d.arm n q) ss := ⟨h.on, ⟨h.core.root, h.core.a, h.core.b⟩, h.all⟩
theorem new_kp (room : Int) : Kp (Dk.new room) [] := ⟨rfl, ⟨rfl, rfl, rfl⟩, fun r hr => by simp at hr⟩
end Jn
end Go.Proofs.Ytnnlmnjbmbflpaa
