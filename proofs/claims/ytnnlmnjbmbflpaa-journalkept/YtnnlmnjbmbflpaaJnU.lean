/- What a loss within a snapshot leaves. -/
import Derived.Test.YtnnlmnjbmbflpaaJnT
set_option linter.unusedVariables false
set_option linter.unusedSimpArgs false
namespace Go.Proofs.Ytnnlmnjbmbflpaa
namespace Jn
/-- A disk's root and files. -/
structure Core (d : Dk.D) (rt : Int) (A B : Dk.Cn) : Prop where
  root : d.root = rt
  a : d.a = A
  b : d.b = B
theorem core_act {d : Dk.D} {f : Int} {does : Dk.D → Dk.D} {rt rt' : Int} {A B A' B' : Dk.Cn} (hw : d.why f = 0) (hc : Core d rt A B) (hd : Core (does d) rt' A' B') (ho : (does d).on = true) : ((d.act f 0 does).1 = 12 ∧ (Core (d.act f 0 does).2 rt A B ∨ Core (d.act f 0 does).2 rt' A' B')) ∨ ((d.act f 0 does).1 = 0 ∧ (d.act f 0 does).2.on = true ∧ Core (d.act f 0 does).2 rt' A' B') := by
  unfold Dk.D.act
  rw [if_neg (by simp [hw]), if_neg (by simp)]
  by_cases hf : d.fuse = 0
  · rw [if_pos hf]
    refine .inl ⟨rfl, ?_⟩
    cases d.behind
    · exact .inl ⟨hc.root, hc.a, hc.b⟩
    · exact .inr ⟨hd.root, hd.a, hd.b⟩
  · rw [if_neg hf]
    exact .inr ⟨rfl, ho, ⟨hd.root, hd.a, hd.b⟩⟩
theorem why_ok {d : Dk.D} {f : Int} (hon : d.on = true) (hf : f = 0 ∨ f = 1) : d.why f = 0 := by
  unfold Dk.D.why
  rw [if_neg (by omega), if_neg (by simp [hon])]
theorem core_sync {d : Dk.D} {rt : Int} {A B : Dk.Cn} (hon : d.on = true) (hc : Core d rt A B) (f : Int) (hf : f = 0 ∨ f = 1) : ((d.sync f).1 = 12 ∧ (Core (d.sync f).2 rt A B ∨ Core (d.sync f).2 rt (if f = 0 then A.settle else A) (if f = 0 then B else B.settle))) ∨ ((d.sync f).1 = 0 ∧ (d.sync f).2.on = true ∧ Core (d.sync f).2 rt (if f = 0 then A.settle else A) (if f = 0 then B else B.settle)) := by
  refine core_act (why_ok hon hf) hc ?_ ?_
  · rcases hf with rfl | rfl
    · exact ⟨hc.root, by rw [← hc.a]; rfl, hc.b⟩
    · exact ⟨hc.root, hc.a, by rw [← hc.b]; rfl⟩
  · rw [(put_two _ _ _).1]; exact hon
structure Old (d : Dk.D) (O : List UInt8) : Prop where
  root : d.root = 0
  a : d.a = ⟨O, O.length, []⟩
structure Young (d : Dk.D) (Y : List UInt8) : Prop where
  root : d.root = 1
  b : d.b = ⟨Y, Y.length, []⟩
theorem write_core {d : Dk.D} {A : Dk.Cn} {Y : List UInt8} (hon : d.on = true) (hc : Core d 0 A ⟨[], 0, []⟩) (hl : ¬ d.left < Y.length) : ((write d 1 Y).1 = 12 ∧ ∃ B, Core (write d 1 Y).2 0 A B) ∨ ((write d 1 Y).1 = 0 ∧ (write d 1 Y).2.on = true ∧ Core (write d 1 Y).2 0 A ⟨Y, Y.length, []⟩) := by
  have ha : d.append 1 Y = d.act 1 0 (fun x => x.put 1 ((x.at 1).app Y)) := by
    unfold Dk.D.append
    rw [if_neg hl]
  unfold write
  rw [ha]
  rcases core_act (d := d) (f := 1) (does := fun x => x.put 1 ((x.at 1).app Y)) (A' := A) (B' := ⟨Y, 0, []⟩) (rt' := 0) (why_ok hon (.inr rfl)) hc ⟨hc.root, hc.a, by show (d.b.app Y) = _; rw [hc.b]; rfl⟩ (by rw [(put_two _ _ _).1]; exact hon) with ⟨h1, h2⟩ | ⟨h1, ho1, h2⟩
  · rw [if_pos (by rw [h1]; decide)]
    exact .inl ⟨h1, h2.elim (fun h => ⟨_, h⟩) (fun h => ⟨_, h⟩)⟩
  · rw [if_neg (by rw [h1]; decide)]
    generalize (d.act 1 0 (fun x => x.put 1 ((x.at 1).app Y))).2 = d1 at *
    rcases core_sync ho1 h2 1 (.inr rfl) with ⟨h3, h4⟩ | ⟨h3, ho3, h4⟩
    · exact .inl ⟨h3, h4.elim (fun h => ⟨_, h⟩) (fun h => ⟨_, h⟩)⟩
    · exact .inr ⟨h3, ho3, h4⟩
theorem cut_core {d : Dk.D} {A B : Dk.Cn} (hon : d.on = true) (hc : Core d 1 A B) : ((cut d 0 0).1 = 12 ∨ (cut d 0 0).1 = 0) ∧ ∃ A', Core (cut d 0 0).2 1 A' B := by
  have ht : d.trunc 0 0 = d.act 0 0 (fun x => x.put 0 ((x.at 0).trunc 0)) := by
    unfold Dk.D.trunc
    rw [if_neg (show ¬ ((0 : Int) < 0 ∨ ((d.at 0).now.length : Int) < 0) by omega)]
    rfl
  unfold cut
  rw [ht]
  rcases core_act (d := d) (f := 0) (does := fun x => x.put 0 ((x.at 0).trunc 0)) (A' := d.a.trunc 0) (B' := B) (rt' := 1) (why_ok hon (.inl rfl)) hc ⟨hc.root, rfl, hc.b⟩ (by rw [(put_two _ _ _).1]; exact hon) with ⟨h7, h8⟩ | ⟨h7, ho7, h8⟩
  · rw [if_pos (by rw [h7]; decide)]
    exact ⟨.inl h7, h8.elim (fun h => ⟨_, h⟩) (fun h => ⟨_, h⟩)⟩
  · rw [if_neg (by rw [h7]; decide)]
    generalize (d.act 0 0 (fun x => x.put 0 ((x.at 0).trunc 0))).2 = d4 at *
    rcases core_sync ho7 h8 0 (.inl rfl) with ⟨h9, h10⟩ | ⟨h9, ho9, h10⟩
    · exact ⟨.inl h9, h10.elim (fun h => ⟨_, h⟩) (fun h => ⟨_, h⟩)⟩
    · exact ⟨.inr h9, ⟨_, h10⟩⟩
theorem snap_ends {d : Dk.D} {O Y : List UInt8} (hon : d.on = true) (hc : Core d 0 ⟨O, O.length, []⟩ ⟨[], 0, []⟩) (hl : ¬ d.left < Y.length) : ((snap d Y).1 = 0 ∧ Young (snap d Y).2 Y) ∨ ((snap d Y).1 = 12 ∧ (Old (snap d Y).2 O ∨ Young (snap d Y).2 Y)) := by
  have hold : ∀ {x : Dk.D} {B : Dk.Cn}, Core x 0 ⟨O, O.length, []⟩ B → Old x O := fun h => ⟨h.root, h.a⟩
  have hyoung : ∀ {x : Dk.D} {A : Dk.Cn}, Core x 1 A ⟨Y, Y.length, []⟩ → Young x Y := fun h => ⟨h.root, h.b⟩
  unfold snap
  rw [if_neg (by simp [hon]), hc.root, show (1 - 0 : Int) = 1 from rfl]
  have hw := write_core hon hc hl
  generalize write d 1 Y = r at *
  rcases hw with ⟨h1, B, h2⟩ | ⟨h1, ho3, h4'⟩
  · rw [if_pos (by rw [h1]; decide)]
    exact .inr ⟨h1, .inl (hold h2)⟩
  · rw [if_neg (by rw [h1]; decide)]
    generalize r.2 = d2 at *
    unfold snap3
    have hs : d2.switch (1 - 0) = d2.act 1 0 (fun x => { x with root := 1 }) := rfl
    rw [hs]
    rcases core_act (d := d2) (f := 1) (does := fun x => { x with root := 1 }) (A' := ⟨O, O.length, []⟩) (B' := ⟨Y, Y.length, []⟩) (rt' := 1) (why_ok ho3 (.inr rfl)) h4' ⟨rfl, h4'.a, h4'.b⟩ ho3 with ⟨h5, h6⟩ | ⟨h5, ho5, h6⟩
    · rw [if_pos (by rw [h5]; decide)]
      exact .inr ⟨h5, h6.elim (fun h => .inl (hold h)) (fun h => .inr (hyoung h))⟩
    · rw [if_neg (by rw [h5]; decide)]
      generalize (d2.act 1 0 (fun x => { x with root := 1 })).2 = d3 at *
      obtain ⟨h7, A', h8⟩ := cut_core ho5 h6
      rcases h7 with h7 | h7
      · exact .inr ⟨h7, .inr (hyoung h8)⟩
      · exact .inl ⟨h7, hyoung h8⟩
/-- A journal on a disk without a fuse is opened. -/
theorem opens_calm {d : Dk.D} {rs : List (List UInt8)} (h : d.Calm) (hr : d.root = 0 ∨ d.root = 1) (hn : (d.at d.root).now = frames rs) (ha : All rs) : (opens d).1 = 0 ∧ recs d d.root = rs := by
  have hre : recs d d.root = rs := by
    unfold recs
    rw [hn, scan_all rs ha]
  refine ⟨?_, hre⟩
  have hm : mend d d.root = (0, d) := by
    unfold mend
    rw [hre, hn, if_pos rfl]
  unfold opens
  rw [if_neg (by simp [h.on]), hm]
  simp only [ne_eq, not_true_eq_false, if_false]
  unfold empty
  split
  · rfl
  · exact (cut_calm h (1 - d.root) (by omega) 0 (Nat.zero_le _)).1
theorem lose_all (l : List UInt8) (k : Int) (c : Bool) : ((⟨l, l.length, []⟩ : Dk.Cn).lose k c).now = l := by
  show Dk.Cn.left ⟨l, l.length, []⟩ k c = l
  unfold Dk.Cn.left
  rw [if_neg (by simp)]
  exact List.take_of_length_le (Nat.le_add_right _ _)
/-- The disk behind a loss. -/
def lost (d : Dk.D) (k0 k1 : Int) (c0 c1 : Bool) : Dk.D := ((d.arm (-1) false).fail.start k0 k1 c0 c1).2
theorem lost_start (d : Dk.D) (k0 k1 : Int) (c0 c1 : Bool) : (d.arm (-1) false).fail.start k0 k1 c0 c1 = (0, lost d k0 k1 c0 c1) := rfl
theorem lost_calm (d : Dk.D) (k0 k1 : Int) (c0 c1 : Bool) : (lost d k0 k1 c0 c1).Calm := ⟨rfl, rfl⟩
theorem lost_old {d : Dk.D} {rs : List (List UInt8)} (h : Old d (frames rs)) (ha : All rs) (k0 k1 : Int) (c0 c1 : Bool) : (opens (lost d k0 k1 c0 c1)).1 = 0 ∧ recs (lost d k0 k1 c0 c1) (lost d k0 k1 c0 c1).root = rs := by
  have hr : (lost d k0 k1 c0 c1).root = 0 := h.root
  refine opens_calm (lost_calm d k0 k1 c0 c1) (.inl hr) ?_ ha
  rw [hr]
  show (d.a.lose k0 c0).now = _
  rw [h.a, lose_all]
theorem lost_young {d : Dk.D} {rs : List (List UInt8)} (h : Young d (frames rs)) (ha : All rs) (k0 k1 : Int) (c0 c1 : Bool) : (opens (lost d k0 k1 c0 c1)).1 = 0 ∧ recs (lost d k0 k1 c0 c1) (lost d k0 k1 c0 c1).root = rs := by
  have hr : (lost d k0 k1 c0 c1).root = 1 := h.root
  refine opens_calm (lost_calm d k0 k1 c0 c1) (.inr hr) ?_ ha
  rw [hr]
  show (d.b.lose k1 c1).now = _
  rw [h.b, lose_all]
/-- A disk with these records in its first file, and nothing besides. -/
def base (room : Int) (rs : List (List UInt8)) : Dk.D := ⟨true, room, 0, ⟨frames rs, (frames rs).length, []⟩, ⟨[], 0, []⟩, -1, false⟩
theorem opens_new (room : Int) : opens (Dk.new room) = (0, Dk.new room) := by rfl
theorem recs_new (room : Int) : recs (Dk.new room) (Dk.new room).root = [] := by rfl
theorem commits_new (room : Int) (rs : List (List UInt8)) (h : fits (Dk.new room) 0 rs = 0) : commits (Dk.new room) rs = (0, base room rs) := by
  have hf := (fits_zero h).2
  unfold commits
  by_cases hg : rs = []
  · rw [if_pos hg, hg]
    rfl
  · have hc : (Dk.new room).Calm := ⟨rfl, rfl⟩
    have hl : ¬ (Dk.new room).left < ((frames rs).length : Int) := by omega
    rw [if_neg hg, if_neg (by simp [hc.on])]
    have h1 : (Dk.new room).append 0 (frames rs) = (0, (Dk.new room).put 0 (((Dk.new room).at 0).app (frames rs))) := by
      rw [Dk.append_calm hc, if_neg (file_ok (.inl rfl)), if_neg hl]
    have h2 : write (Dk.new room) 0 (frames rs) = (0, base room rs) := by
      unfold write
      rw [h1]
      show ((Dk.new room).put 0 (((Dk.new room).at 0).app (frames rs))).sync 0 = _
      rw [Dk.sync_calm (Dk.calm_put hc _ _), if_neg (file_ok (.inl rfl))]
      rfl
    exact h2
theorem snaps_ends (old young : List (List UInt8)) (ho : All old) (hco : cost old + cost young ≤ 20000) (n : Int) (q : Bool) : ((snaps ((base 1048576 old).arm n q) [] young).1 = 0 ∧ Young (snaps ((base 1048576 old).arm n q) [] young).2 (frames young) ∧ All young) ∨ ((snaps ((base 1048576 old).arm n q) [] young).1 = 1 ∧ Old (snaps ((base 1048576 old).arm n q) [] young).2 (frames old)) ∨ ((snaps ((base 1048576 old).arm n q) [] young).1 = 12 ∧ (Old (snaps ((base 1048576 old).arm n q) [] young).2 (frames old) ∨ Young (snaps ((base 1048576 old).arm n q) [] young).2 (frames young) ∧ All young)) := by
  have hleft : ((base 1048576 old).arm n q).left = 1048576 - ((frames old).length : Int) := by
    show (1048576 : Int) - ((frames old).length : Int) - (([] : List UInt8).length : Int) = _
    simp
  unfold snaps
  rw [if_neg (by simp)]
  by_cases hall : All young
  · have hf : fits ((base 1048576 old).arm n q) 0 young = 0 := by
      unfold fits
      rw [if_pos ((all_iff young).2 hall), if_neg]
      rw [hleft, frames_cost young hall, frames_cost old ho]
      omega
    rw [if_neg (by simp [hf])]
    have hl := (fits_zero hf).2
    rcases snap_ends (d := (base 1048576 old).arm n q) (O := frames old) (Y := frames young) rfl ⟨rfl, rfl, rfl⟩ (by omega) with ⟨h1, h2⟩ | ⟨h1, h2⟩
    · exact .inl ⟨h1, h2, hall⟩
    · exact .inr (.inr ⟨h1, h2.elim .inl (fun h => .inr ⟨h, hall⟩)⟩)
  · have hf : fits ((base 1048576 old).arm n q) 0 young = 1 := by
      unfold fits
      rw [if_neg (fun h => hall ((all_iff young).1 h))]
    rw [if_pos (by rw [hf]; decide)]
    exact .inr (.inl ⟨hf, rfl, rfl⟩)
/-- A snapshot, and a loss: what the journal has then. -/
theorem snaps_lost (old young : List (List UInt8)) (ho : All old) (hco : cost old + cost young ≤ 20000) (n : Int) (q : Bool) (k0 k1 : Int) (c0 c1 : Bool) {r : Int × Dk.D} (e : snaps ((base 1048576 old).arm n q) [] young = r) : ∃ d' rs, opens (lost r.2 k0 k1 c0 c1) = (0, d') ∧ recs (lost r.2 k0 k1 c0 c1) (lost r.2 k0 k1 c0 c1).root = rs ∧ ((r.1 = 0 ∧ rs = young) ∨ (r.1 = 1 ∧ rs = old) ∨ (r.1 = 12 ∧ rs = old) ∨ (r.1 = 12 ∧ rs = young)) := by
  have h := snaps_ends old young ho hco n q
  rw [e] at h
  have fin : ∀ rs, (opens (lost r.2 k0 k1 c0 c1)).1 = 0 ∧ recs (lost r.2 k0 k1 c0 c1) (lost r.2 k0 k1 c0 c1).root = rs → ∃ d', opens (lost r.2 k0 k1 c0 c1) = (0, d') ∧ recs (lost r.2 k0 k1 c0 c1) (lost r.2 k0 k1 c0 c1).root = rs := fun rs h => ⟨(opens (lost r.2 k0 k1 c0 c1)).2, by rw [← h.1], h.2⟩
  rcases h with ⟨h1, h2, h3⟩ | ⟨h1, h2⟩ | ⟨h1, h2 | ⟨h2, h3⟩⟩
  · obtain ⟨d', g1, g2⟩ := fin young (lost_young h2 h3 k0 k1 c0 c1)
    exact ⟨d', young, g1, g2, .inl ⟨h1, rfl⟩⟩
  · obtain ⟨d', g1, g2⟩ := fin old (lost_old h2 ho k0 k1 c0 c1)
    exact ⟨d', old, g1, g2, .inr (.inl ⟨h1, rfl⟩)⟩
  · obtain ⟨d', g1, g2⟩ := fin old (lost_old h2 ho k0 k1 c0 c1)
    exact ⟨d', old, g1, g2, .inr (.inr (.inl ⟨h1, rfl⟩))⟩
  · obtain ⟨d', g1, g2⟩ := fin young (lost_young h2 h3 k0 k1 c0 c1)
    exact ⟨d', young, g1, g2, .inr (.inr (.inr ⟨h1, rfl⟩))⟩
end Jn
end Go.Proofs.Ytnnlmnjbmbflpaa
