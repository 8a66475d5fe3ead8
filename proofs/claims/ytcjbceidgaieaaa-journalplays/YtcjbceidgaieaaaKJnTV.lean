/- Texts laid as one. -/
import Derived.Test.YtcjbceidgaieaaaKJnMO
/- The contract of far, with the number that it counts; a snapshot's loss. -/
set_option linter.unusedVariables false
set_option linter.unusedSimpArgs false
namespace Go.Proofs.Ytcjbceidgaieaaa
open Go.RowKit
def Jn.cost (rs : List (List UInt8)) : Nat := (rs.map (fun r => min r.length 20000 + 8)).sum
def Jn.total (bs : List Aj) : Nat := (bs.map (fun a => Jn.cost a.rs)).sum
theorem cost_take (rs : List (List UInt8)) (q : Nat) (h : q < rs.length) : Jn.cost (rs.take (q + 1)) = Jn.cost (rs.take q) + (min rs[q].length 20000 + 8) := by
  unfold Jn.cost
  rw [List.take_succ_eq_append_getElem h, List.map_append, List.sum_append]
  simp
theorem total_take (bs : List Aj) (j : Nat) (h : j < bs.length) : Jn.total (bs.take (j + 1)) = Jn.total (bs.take j) + Jn.cost bs[j].rs := by
  unfold Jn.total
  rw [List.take_succ_eq_append_getElem h, List.map_append, List.sum_append]
  simp
theorem frames_cost : ∀ rs : List (List UInt8), Jn.All rs → (Jn.frames rs).length = Jn.cost rs
  | [], _ => rfl
  | r :: rs, h => by
    rw [Jn.frames_cons, List.length_append, Jn.frame_length, frames_cost rs (fun q hq => h q (by simp [hq]))]
    have := (h r (by simp)).2
    simp [Jn.cost]
    omega
def FarS (bs : List Aj) (e : Ending) : Prop := ∃ x, e = .returned (.bool x) ∧ (x = false → (∀ a ∈ bs, a.rs.length ≤ 20) ∧ Jn.total bs ≤ 20000)
set_option maxHeartbeats 4000000 in
set_option maxRecDepth 100000 in
theorem far10_sum {w : World} {v : Value} {as9 : List Aj} (h : RJs w v as9) (hl : as9.length ≤ maxLen) :
    Calls Try.prog 11 #[v] w fun e w' => FarS (as9.take 40) e ∧ Below w.heap.size w w' := by
  have hS := short10_any h hl
  have hlen : (as9.take 40).length ≤ 40 := by simp; omega
  have HH := hide9 h
  clear h hl
  generalize as9.take 40 = bs at *
  go_enter Try.func11, Try.ntmps11
  go_wp2_with (go_at_call 15; refine hS.mono ?_; rintro e w2 ⟨v', rfl, hv'', he⟩; replace he := he.symm; subst he; have hv' := hv'' _ HH.out; clear hv''; obtain ⟨a, c, rfl, hc⟩ := hv'.form; clear hS)
  go_loopw [3, 11] (fun x i wr => ∃ (j : Nat) (n : Nat), j ≤ bs.length ∧ i = .int .i64 (j : Int) ∧ x = .int .i64 (n : Int) ∧ Hid (n = Jn.total (bs.take j)) ∧ n ≤ 500000 * j ∧ Hid (∀ a ∈ bs.take j, a.rs.length ≤ 20) ∧ Below w.heap.size w wr) (fun _ i _ => bs.length - (intOf i).toNat)
  case atStart => exact ⟨0, 0, Nat.zero_le _, rfl, rfl, (rfl : 0 = Jn.total (bs.take 0)), by omega, (fun a ha => by simp at ha : ∀ a ∈ bs.take 0, a.rs.length ≤ 20), Below.refl _ _⟩
  case round =>
    obtain ⟨j, n, hj, rfl, rfl, HN, hn1, HT, hB⟩ := hrel
    by_cases hlt : j < bs.length
    · obtain ⟨-, -, b, o, rfl, hr, hA⟩ := RJs.at (hv'.below hB) hlt
      have hone := one_row hA.rb
      obtain ⟨va, vc, hvf⟩ := hA.rb.form
      have hal := hA.len
      unfold maxLen at hal
      have HT2 := hide9 (take_all hlt HT.out)
      have HN2 := hide9 (total_take bs j hlt)
      have HA := hide9 hA
      have HB : Hid (Below w.heap.size w wr) := hB
      have hi1 : (j : Int) < (bs.length : Int) := by omega
      clear hA hB
      generalize bs[j] = ac at *
      by_cases h20 : 20 < ac.rs.length
      · go_wp2_with (first
          | ((with_reducible show wpList _ _ _ ({ op := Op.load 50 _, .. } :: _) _ _); refine wpList_load_J rfl _ rfl _ _ rfl ac hr ?_)
          | ((with_reducible show wpList _ _ _ ({ op := Op.store 50 _ _, .. } :: _) _ _); refine wpList_store_J _ _ rfl rfl _ ac _ rfl rfl (heap_new _ _) rfl hone ?_; intro wn hAn hOn; have c1 : wn.cell? ⟨wr.heap.size, 1, none⟩ = some ac.rv := hAn.cell 1; rw [hvf] at c1))
        go_ret
        exact ⟨⟨true, rfl, fun hx => (by cases hx)⟩, (HB.out.alloc HB.out.size _).trans (hOn.below (fun k hk => by rw [hk]; exact HB.out.size) (by have := HB.out.size; simp; omega))⟩
      · go_wp2_with (first
          | ((with_reducible show wpList _ _ _ ({ op := Op.load 50 _, .. } :: _) _ _); refine wpList_load_J rfl _ rfl _ _ rfl ac hr ?_)
          | ((with_reducible show wpList _ _ _ ({ op := Op.store 50 _ _, .. } :: _) _ _); refine wpList_store_J _ _ rfl rfl _ ac _ rfl rfl (heap_new _ _) rfl hone ?_; intro wn hAn hOn; have c1 : wn.cell? ⟨wr.heap.size, 1, none⟩ = some ac.rv := hAn.cell 1; rw [hvf] at c1))
        have hBn : Below wr.heap.size wr wn := ((Below.refl _ wr).alloc (Nat.le_refl _) _).trans (hOn.below (fun k hk => by rw [hk]; exact Nat.le_refl _) (by simp))
        have HR := hide9 (HA.out.rb.below hBn)
        have HE := hide9 HA.out.each
        rw [hvf] at HR
        have HBn := hide9 hBn
        clear hBn hOn
        go_loopw [3, 22] (fun x i wr2 => ∃ (q : Nat) (m : Nat), q ≤ ac.rs.length ∧ i = .int .i64 (q : Int) ∧ x = .int .i64 (m : Int) ∧ Hid (m = n + Jn.cost (ac.rs.take q)) ∧ m ≤ n + 20008 * q ∧ wn = wr2) (fun _ i _ => ac.rs.length - (intOf i).toNat)
        case atStart => exact ⟨0, n, Nat.zero_le _, rfl, rfl, (rfl : n = n + Jn.cost (ac.rs.take 0)), by omega, rfl⟩
        case round =>
          obtain ⟨q, m, hq, rfl, rfl, HM, hm1, rfl⟩ := hrel
          by_cases hqt : q < ac.rs.length
          · obtain ⟨-, hcc, b2, o2, rfl, x2, hx2, hr2⟩ := HR.out.at (List.getElem?_eq_getElem hqt)
            obtain ⟨ya, yc, rfl⟩ := hr2.form
            have hz := HE.out _ (List.getElem_mem hqt)
            unfold maxLen at hz
            have HM2 := hide9 (cost_take ac.rs q hqt)
            generalize ac.rs[q].length = rl at *
            have hq20 : q < 20 := by omega
            have HM3 : Hid (m + (min rl 20000 + 8) = n + Jn.cost (ac.rs.take (q + 1))) := by
              show m + (min rl 20000 + 8) = n + Jn.cost (ac.rs.take (q + 1))
              rw [HM2.out, HM.out]
              omega
            go_wp2
            refine ⟨⟨q + 1, m + (min rl 20000 + 8), by omega, by go_num, ?_, HM3, by omega, trivial⟩, by simp [intOf]; omega⟩
            congr 1
            first | (split <;> omega) | omega
          · have hqe : ac.rs.take q = ac.rs := List.take_of_length_le (by omega)
            rw [hqe] at HM
            have HN3 : Hid (m = Jn.total (bs.take (j + 1))) := by
              show m = Jn.total (bs.take (j + 1))
              rw [HN2.out, HM.out, HN.out]
            go_wp2
            have HT3 := hide9 (HT2.out (by omega))
            exact ⟨⟨j + 1, m, by omega, by go_num, rfl, HN3, by omega, HT3, bel HB.out HBn.out⟩, by simp [intOf]; omega⟩
    · have hi1 : ¬ (j : Int) < (bs.length : Int) := by omega
      have hjl : bs.take j = bs := List.take_of_length_le (by omega)
      rw [hjl] at HT HN
      go_wp2
      go_ret
      exact ⟨⟨_, rfl, fun hx => ⟨HT.out, by have := of_decide_eq_false hx; have := HN.out; omega⟩⟩, hB⟩
end Go.Proofs.Ytcjbceidgaieaaa
/- What a loss within a snapshot leaves. -/
set_option linter.unusedVariables false
set_option linter.unusedSimpArgs false
namespace Go.Proofs.Ytcjbceidgaieaaa
namespace Jn
/-- A disk's root and files. -/
structure Core (d : Dk.D) (rt : Int) (A B : Dk.Cn) : Prop where
  root : d.root = rt
  a : d.a = A
  b : d.b = B
theorem core_act {d : Dk.D} {f : Int} {does : Dk.D → Dk.D} {rt rt' : Int} {A B A' B' : Dk.Cn} (hw : d.why f = 0) (hc : Core d rt A B) (hd : Core (does d) rt' A' B') (ho : (does d).on = true) : ((d.act f 0 does).1 = 12 ∧ (Core (d.act f 0 does).2 rt A B ∨ Core (d.act f 0 does).2 rt' A' B')) ∨ ((d.act f 0 does).1 = 0 ∧ (d.act f 0 does).2.on = true ∧ Core (d.act f 0 does).2 rt' A' B') := by
  unfold Dk.D.act
  rw [if_neg (by simp [hw]), if_neg (by simp)]
  by_cases hf : d.fuse = 0
  · rw [if_pos hf]
    refine .inl ⟨rfl, ?_⟩
    cases d.behind
    · exact .inl ⟨hc.root, hc.a, hc.b⟩
    · exact .inr ⟨hd.root, hd.a, hd.b⟩
  · rw [if_neg hf]
    exact .inr ⟨rfl, ho, ⟨hd.root, hd.a, hd.b⟩⟩
theorem why_ok {d : Dk.D} {f : Int} (hon : d.on = true) (hf : f = 0 ∨ f = 1) : d.why f = 0 := by
  unfold Dk.D.why
  rw [if_neg (by omega), if_neg (by simp [hon])]
theorem core_sync {d : Dk.D} {rt : Int} {A B : Dk.Cn} (hon : d.on = true) (hc : Core d rt A B) (f : Int) (hf : f = 0 ∨ f = 1) : ((d.sync f).1 = 12 ∧ (Core (d.sync f).2 rt A B ∨ Core (d.sync f).2 rt (if f = 0 then A.settle else A) (if f = 0 then B else B.settle))) ∨ ((d.sync f).1 = 0 ∧ (d.sync f).2.on = true ∧ Core (d.sync f).2 rt (if f = 0 then A.settle else A) (if f = 0 then B else B.settle)) := by
  refine core_act (why_ok hon hf) hc ?_ ?_
  · rcases hf with rfl | rfl
    · exact ⟨hc.root, by rw [← hc.a]; rfl, hc.b⟩
    · exact ⟨hc.root, hc.a, by rw [← hc.b]; rfl⟩
  · rw [(put_two _ _ _).1]; exact hon
structure Old (d : Dk.D) (O : List UInt8) : Prop where
  root : d.root = 0
  a : d.a = ⟨O, O.length, []⟩
structure Young (d : Dk.D) (Y : List UInt8) : Prop where
  root : d.root = 1
  b : d.b = ⟨Y, Y.length, []⟩
theorem write_core {d : Dk.D} {A : Dk.Cn} {Y : List UInt8} (hon : d.on = true) (hc : Core d 0 A ⟨[], 0, []⟩) (hl : ¬ d.left < Y.length) : ((write d 1 Y).1 = 12 ∧ ∃ B, Core (write d 1 Y).2 0 A B) ∨ ((write d 1 Y).1 = 0 ∧ (write d 1 Y).2.on = true ∧ Core (write d 1 Y).2 0 A ⟨Y, Y.length, []⟩) := by
  have ha : d.append 1 Y = d.act 1 0 (fun x => x.put 1 ((x.at 1).app Y)) := by
    unfold Dk.D.append
    rw [if_neg hl]
  unfold write
  rw [ha]
  rcases core_act (d := d) (f := 1) (does := fun x => x.put 1 ((x.at 1).app Y)) (A' := A) (B' := ⟨Y, 0, []⟩) (rt' := 0) (why_ok hon (.inr rfl)) hc ⟨hc.root, hc.a, by show (d.b.app Y) = _; rw [hc.b]; rfl⟩ (by rw [(put_two _ _ _).1]; exact hon) with ⟨h1, h2⟩ | ⟨h1, ho1, h2⟩
  · rw [if_pos (by rw [h1]; decide)]
    exact .inl ⟨h1, h2.elim (fun h => ⟨_, h⟩) (fun h => ⟨_, h⟩)⟩
  · rw [if_neg (by rw [h1]; decide)]
    generalize (d.act 1 0 (fun x => x.put 1 ((x.at 1).app Y))).2 = d1 at *
    rcases core_sync ho1 h2 1 (.inr rfl) with ⟨h3, h4⟩ | ⟨h3, ho3, h4⟩
    · exact .inl ⟨h3, h4.elim (fun h => ⟨_, h⟩) (fun h => ⟨_, h⟩)⟩
    · exact .inr ⟨h3, ho3, h4⟩
theorem cut_core {d : Dk.D} {A B : Dk.Cn} (hon : d.on = true) (hc : Core d 1 A B) : ((cut d 0 0).1 = 12 ∨ (cut d 0 0).1 = 0) ∧ ∃ A', Core (cut d 0 0).2 1 A' B := by
  have ht : d.trunc 0 0 = d.act 0 0 (fun x => x.put 0 ((x.at 0).trunc 0)) := by
    unfold Dk.D.trunc
    rw [if_neg (show ¬ ((0 : Int) < 0 ∨ ((d.at 0).now.length : Int) < 0) by omega)]
    rfl
  unfold cut
  rw [ht]
  rcases core_act (d := d) (f := 0) (does := fun x => x.put 0 ((x.at 0).trunc 0)) (A' := d.a.trunc 0) (B' := B) (rt' := 1) (why_ok hon (.inl rfl)) hc ⟨hc.root, rfl, hc.b⟩ (by rw [(put_two _ _ _).1]; exact hon) with ⟨h7, h8⟩ | ⟨h7, ho7, h8⟩
  · rw [if_pos (by rw [h7]; decide)]
    exact ⟨.inl h7, h8.elim (fun h => ⟨_, h⟩) (fun h => ⟨_, h⟩)⟩
  · rw [if_neg (by rw [h7]; decide)]
    generalize (d.act 0 0 (fun x => x.put 0 ((x.at 0).trunc 0))).2 = d4 at *
    rcases core_sync ho7 h8 0 (.inl rfl) with ⟨h9, h10⟩ | ⟨h9, ho9, h10⟩
    · exact ⟨.inl h9, h10.elim (fun h => ⟨_, h⟩) (fun h => ⟨_, h⟩)⟩
    · exact ⟨.inr h9, ⟨_, h10⟩⟩
theorem snap_ends {d : Dk.D} {O Y : List UInt8} (hon : d.on = true) (hc : Core d 0 ⟨O, O.length, []⟩ ⟨[], 0, []⟩) (hl : ¬ d.left < Y.length) : ((snap d Y).1 = 0 ∧ Young (snap d Y).2 Y) ∨ ((snap d Y).1 = 12 ∧ (Old (snap d Y).2 O ∨ Young (snap d Y).2 Y)) := by
  have hold : ∀ {x : Dk.D} {B : Dk.Cn}, Core x 0 ⟨O, O.length, []⟩ B → Old x O := fun h => ⟨h.root, h.a⟩
  have hyoung : ∀ {x : Dk.D} {A : Dk.Cn}, Core x 1 A ⟨Y, Y.length, []⟩ → Young x Y := fun h => ⟨h.root, h.b⟩
  unfold snap
  rw [if_neg (by simp [hon]), hc.root, show (1 - 0 : Int) = 1 from rfl]
  have hw := write_core hon hc hl
  generalize write d 1 Y = r at *
  rcases hw with ⟨h1, B, h2⟩ | ⟨h1, ho3, h4'⟩
  · rw [if_pos (by rw [h1]; decide)]
    exact .inr ⟨h1, .inl (hold h2)⟩
  · rw [if_neg (by rw [h1]; decide)]
    generalize r.2 = d2 at *
    unfold snap3
    have hs : d2.switch (1 - 0) = d2.act 1 0 (fun x => { x with root := 1 }) := rfl
    rw [hs]
    rcases core_act (d := d2) (f := 1) (does := fun x => { x with root := 1 }) (A' := ⟨O, O.length, []⟩) (B' := ⟨Y, Y.length, []⟩) (rt' := 1) (why_ok ho3 (.inr rfl)) h4' ⟨rfl, h4'.a, h4'.b⟩ ho3 with ⟨h5, h6⟩ | ⟨h5, ho5, h6⟩
    · rw [if_pos (by rw [h5]; decide)]
      exact .inr ⟨h5, h6.elim (fun h => .inl (hold h)) (fun h => .inr (hyoung h))⟩
    · rw [if_neg (by rw [h5]; decide)]
      generalize (d2.act 1 0 (fun x => { x with root := 1 })).2 = d3 at *
      obtain ⟨h7, A', h8⟩ := cut_core ho5 h6
      rcases h7 with h7 | h7
      · exact .inr ⟨h7, .inr (hyoung h8)⟩
      · exact .inl ⟨h7, hyoung h8⟩
/-- A journal on a disk without a fuse is opened. -/
theorem opens_calm {d : Dk.D} {rs : List (List UInt8)} (h : d.Calm) (hr : d.root = 0 ∨ d.root = 1) (hn : (d.at d.root).now = frames rs) (ha : All rs) : (opens d).1 = 0 ∧ recs d d.root = rs := by
  have hre : recs d d.root = rs := by
    unfold recs
    rw [hn, scan_all rs ha]
  refine ⟨?_, hre⟩
  have hm : mend d d.root = (0, d) := by
    unfold mend
    rw [hre, hn, if_pos rfl]
  unfold opens
  rw [if_neg (by simp [h.on]), hm]
  simp only [ne_eq, not_true_eq_false, if_false]
  unfold empty
  split
  · rfl
  · exact (cut_calm h (1 - d.root) (by omega) 0 (Nat.zero_le _)).1
theorem lose_all (l : List UInt8) (k : Int) (c : Bool) : ((⟨l, l.length, []⟩ : Dk.Cn).lose k c).now = l := by
  show Dk.Cn.left ⟨l, l.length, []⟩ k c = l
  unfold Dk.Cn.left
  rw [if_neg (by simp)]
  exact List.take_of_length_le (Nat.le_add_right _ _)
/-- The disk behind a loss. -/
def lost (d : Dk.D) (k0 k1 : Int) (c0 c1 : Bool) : Dk.D := ((d.arm (-1) false).fail.start k0 k1 c0 c1).2
theorem lost_start (d : Dk.D) (k0 k1 : Int) (c0 c1 : Bool) : (d.arm (-1) false).fail.start k0 k1 c0 c1 = (0, lost d k0 k1 c0 c1) := rfl
theorem lost_calm (d : Dk.D) (k0 k1 : Int) (c0 c1 : Bool) : (lost d k0 k1 c0 c1).Calm := ⟨rfl, rfl⟩
theorem lost_old {d : Dk.D} {rs : List (List UInt8)} (h : Old d (frames rs)) (ha : All rs) (k0 k1 : Int) (c0 c1 : Bool) : (opens (lost d k0 k1 c0 c1)).1 = 0 ∧ recs (lost d k0 k1 c0 c1) (lost d k0 k1 c0 c1).root = rs := by
  have hr : (lost d k0 k1 c0 c1).root = 0 := h.root
  refine opens_calm (lost_calm d k0 k1 c0 c1) (.inl hr) ?_ ha
  rw [hr]
  show (d.a.lose k0 c0).now = _
  rw [h.a, lose_all]
theorem lost_young {d : Dk.D} {rs : List (List UInt8)} (h : Young d (frames rs)) (ha : All rs) (k0 k1 : Int) (c0 c1 : Bool) : (opens (lost d k0 k1 c0 c1)).1 = 0 ∧ recs (lost d k0 k1 c0 c1) (lost d k0 k1 c0 c1).root = rs := by
  have hr : (lost d k0 k1 c0 c1).root = 1 := h.root
  refine opens_calm (lost_calm d k0 k1 c0 c1) (.inr hr) ?_ ha
  rw [hr]
  show (d.b.lose k1 c1).now = _
  rw [h.b, lose_all]
/-- A disk with these records in its first file, and nothing besides. -/
def base (room : Int) (rs : List (List UInt8)) : Dk.D := ⟨true, room, 0, ⟨frames rs, (frames rs).length, []⟩, ⟨[], 0, []⟩, -1, false⟩
theorem opens_new (room : Int) : opens (Dk.new room) = (0, Dk.new room) := by rfl
theorem recs_new (room : Int) : recs (Dk.new room) (Dk.new room).root = [] := by rfl
theorem commits_new (room : Int) (rs : List (List UInt8)) (h : fits (Dk.new room) 0 rs = 0) : commits (Dk.new room) rs = (0, base room rs) := by
  have hf := (fits_zero h).2
  unfold commits
  by_cases hg : rs = []
  · rw [if_pos hg, hg]
    rfl
  · have hc : (Dk.new room).Calm := ⟨rfl, rfl⟩
    have hl : ¬ (Dk.new room).left < ((frames rs).length : Int) := by omega
    rw [if_neg hg, if_neg (by simp [hc.on])]
    have h1 : (Dk.new room).append 0 (frames rs) = (0, (Dk.new room).put 0 (((Dk.new room).at 0).app (frames rs))) := by
      rw [Dk.append_calm hc, if_neg (file_ok (.inl rfl)), if_neg hl]
    have h2 : write (Dk.new room) 0 (frames rs) = (0, base room rs) := by
      unfold write
      rw [h1]
      show ((Dk.new room).put 0 (((Dk.new room).at 0).app (frames rs))).sync 0 = _
      rw [Dk.sync_calm (Dk.calm_put hc _ _), if_neg (file_ok (.inl rfl))]
      rfl
    exact h2
theorem snaps_ends (old young : List (List UInt8)) (ho : All old) (hco : cost old + cost young ≤ 20000) (n : Int) (q : Bool) : ((snaps ((base 1048576 old).arm n q) [] young).1 = 0 ∧ Young (snaps ((base 1048576 old).arm n q) [] young).2 (frames young) ∧ All young) ∨ ((snaps ((base 1048576 old).arm n q) [] young).1 = 1 ∧ Old (snaps ((base 1048576 old).arm n q) [] young).2 (frames old)) ∨ ((snaps ((base 1048576 old).arm n q) [] young).1 = 12 ∧ (Old (snaps ((base 1048576 old).arm n q) [] young).2 (frames old) ∨ Young (snaps ((base 1048576 old).arm n q) [] young).2 (frames young) ∧ All young)) := by
  have hleft : ((base 1048576 old).arm n q).left = 1048576 - ((frames old).length : Int) := by
    show (1048576 : Int) - ((frames old).length : Int) - (([] : List UInt8).length : Int) = _
    simp
  unfold snaps
  rw [if_neg (by simp)]
  by_cases hall : All young
  · have hf : fits ((base 1048576 old).arm n q) 0 young = 0 := by
      unfold fits
      rw [if_pos ((all_iff young).2 hall), if_neg]
      rw [hleft, frames_cost young hall, frames_cost old ho]
      omega
    rw [if_neg (by simp [hf])]
    have hl := (fits_zero hf).2
    rcases snap_ends (d := (base 1048576 old).arm n q) (O := frames old) (Y := frames young) rfl ⟨rfl, rfl, rfl⟩ (by omega) with ⟨h1, h2⟩ | ⟨h1, h2⟩
    · exact .inl ⟨h1, h2, hall⟩
    · exact .inr (.inr ⟨h1, h2.elim .inl (fun h => .inr ⟨h, hall⟩)⟩)
  · have hf : fits ((base 1048576 old).arm n q) 0 young = 1 := by
      unfold fits
      rw [if_neg (fun h => hall ((all_iff young).1 h))]
    rw [if_pos (by rw [hf]; decide)]
    exact .inr (.inl ⟨hf, rfl, rfl⟩)
/-- A snapshot, and a loss: what the journal has then. -/
theorem snaps_lost (old young : List (List UInt8)) (ho : All old) (hco : cost old + cost young ≤ 20000) (n : Int) (q : Bool) (k0 k1 : Int) (c0 c1 : Bool) {r : Int × Dk.D} (e : snaps ((base 1048576 old).arm n q) [] young = r) : ∃ d' rs, opens (lost r.2 k0 k1 c0 c1) = (0, d') ∧ recs (lost r.2 k0 k1 c0 c1) (lost r.2 k0 k1 c0 c1).root = rs ∧ ((r.1 = 0 ∧ rs = young) ∨ (r.1 = 1 ∧ rs = old) ∨ (r.1 = 12 ∧ rs = old) ∨ (r.1 = 12 ∧ rs = young)) := by
  have h := snaps_ends old young ho hco n q
  rw [e] at h
  have fin : ∀ rs, (opens (lost r.2 k0 k1 c0 c1)).1 = 0 ∧ recs (lost r.2 k0 k1 c0 c1) (lost r.2 k0 k1 c0 c1).root = rs → ∃ d', opens (lost r.2 k0 k1 c0 c1) = (0, d') ∧ recs (lost r.2 k0 k1 c0 c1) (lost r.2 k0 k1 c0 c1).root = rs := fun rs h => ⟨(opens (lost r.2 k0 k1 c0 c1)).2, by rw [← h.1], h.2⟩
  rcases h with ⟨h1, h2, h3⟩ | ⟨h1, h2⟩ | ⟨h1, h2 | ⟨h2, h3⟩⟩
  · obtain ⟨d', g1, g2⟩ := fin young (lost_young h2 h3 k0 k1 c0 c1)
    exact ⟨d', young, g1, g2, .inl ⟨h1, rfl⟩⟩
  · obtain ⟨d', g1, g2⟩ := fin old (lost_old h2 ho k0 k1 c0 c1)
    exact ⟨d', old, g1, g2, .inr (.inl ⟨h1, rfl⟩)⟩
  · obtain ⟨d', g1, g2⟩ := fin old (lost_old h2 ho k0 k1 c0 c1)
    exact ⟨d', old, g1, g2, .inr (.inr (.inl ⟨h1, rfl⟩))⟩
  · obtain ⟨d', g1, g2⟩ := fin young (lost_young h2 h3 k0 k1 c0 c1)
    exact ⟨d', young, g1, g2, .inr (.inr (.inr ⟨h1, rfl⟩))⟩
end Jn
end Go.Proofs.Ytcjbceidgaieaaa
/- Journals and their disk within a law, further. -/
set_option linter.unusedVariables false
set_option linter.unusedSimpArgs false
namespace Go.Proofs.Ytcjbceidgaieaaa
open Go.RowKit
theorem Lt.arm {w0 W : World} {T : Nat → Prop} {b : Nat} {d : Dk.D} (h : Lt w0 T b d W) (n : Int) (hn : -9223372036854775808 ≤ n ∧ n ≤ 9223372036854775807) (q : Bool) : Calls Try.prog 20 #[ptr b 0, .int .i64 n, .bool q] W fun e w' => e = .returned (.tuple #[]) ∧ Lt w0 T b (d.arm n q) w' ∧ Own T W w' := by
  obtain ⟨n0, g0, n1, g1, hD⟩ := h.dsk
  exact (Arm_yes hD n hn q).mono (fun _ _ hp => ⟨hp.1, h.own ⟨_, _, _, _, hp.2.1⟩ hp.2.2, hp.2.2⟩)
theorem JR.arm {w0 W : World} {T : Nat → Prop} {b jb : Nat} {d : Dk.D} {gs : List (List UInt8)} (h : JR w0 T b jb d gs W) (n : Int) (hn : -9223372036854775808 ≤ n ∧ n ≤ 9223372036854775807) (q : Bool) : Calls Try.prog 20 #[ptr b 0, .int .i64 n, .bool q] W fun e w' => ∃ T', e = .returned (.tuple #[]) ∧ JR w0 T' b jb (d.arm n q) gs w' ∧ Tw W T T' w' := by
  obtain ⟨D, g, hk, h1, h2⟩ := h.ex
  obtain ⟨n0, g0, n1, g1, hD⟩ := hk.dsk
  refine (Arm_yes hD n hn q).mono ?_
  rintro e w' ⟨rfl, hD', hO⟩
  obtain ⟨T', hJ, hT, _, _⟩ := jr_dp h hk h1 h2 ⟨⟨_, _, _, _, hD'⟩, fun k hx => .inl hx, hO⟩
  exact ⟨T', rfl, hJ, hT⟩
theorem JR.fail {w0 W : World} {T : Nat → Prop} {b jb : Nat} {d : Dk.D} {gs : List (List UInt8)} (h : JR w0 T b jb d gs W) : Calls Try.prog 21 #[ptr b 0] W fun e w' => ∃ T', e = .returned (.tuple #[]) ∧ JR w0 T' b jb d.fail gs w' ∧ Tw W T T' w' := by
  obtain ⟨D, g, hk, h1, h2⟩ := h.ex
  obtain ⟨n0, g0, n1, g1, hD⟩ := hk.dsk
  refine (Fail_yes hD).mono ?_
  rintro e w' ⟨rfl, hD', hO⟩
  obtain ⟨T', hJ, hT, _, _⟩ := jr_dp h hk h1 h2 ⟨⟨_, _, _, _, hD'⟩, fun k hx => .inl hx, hO⟩
  exact ⟨T', rfl, hJ, hT⟩
theorem JR.start {w0 W : World} {T : Nat → Prop} {b jb : Nat} {d : Dk.D} {gs : List (List UInt8)} (h : JR w0 T b jb d gs W) (k0 k1 : Int) (c0 c1 : Bool) (hk0 : -9223372036854775808 ≤ k0 ∧ k0 ≤ 9223372036854775807) (hk1 : -9223372036854775808 ≤ k1 ∧ k1 ≤ 9223372036854775807) {x : Int} {d' : Dk.D} (e : d.start k0 k1 c0 c1 = (x, d')) : Calls Try.prog 22 #[ptr b 0, lossV k0 k1 c0 c1] W fun e w' => ∃ T', e = .returned (.int .i64 x) ∧ JR w0 T' b jb d' gs w' ∧ Tw W T T' w' := by
  obtain ⟨D, g, hk, h1, h2⟩ := h.ex
  obtain ⟨n0, g0, n1, g1, hD⟩ := hk.dsk
  have := Start_yes hD k0 k1 c0 c1 hk0 hk1
  rw [e] at this
  refine this.mono ?_
  rintro e w' ⟨rfl, hD', hO⟩
  obtain ⟨T', hJ, hT, _, _⟩ := jr_dp h hk h1 h2 (Dp.more hD' hO)
  exact ⟨T', rfl, hJ, hT⟩
theorem size2i : (Try.prog.info? 47).map (·.size) = some 2 := by kernel_rfl
theorem size2b : (Try.prog.info? 48).map (·.size) = some 2 := by kernel_rfl
theorem wpList_load_Jg {ops : Array Oper} {rest : List Oper} {op : Oper} {a : Act} {w : World} {Q : Exit → Act → World → Prop} (hw : Region.wanted op (yielded ops a.tmps) = true) (x : Operand) (ho : op.op = .load 50 x)
    (b o : Nat) (hx : a.eval x = ptr b o) (ac : Aj) (hc : w.rangeAt b o (jX ac).toList)
    (h : wpList Try.prog ops Q rest (a.put op.dst (jV ac)) w) : wpList Try.prog ops Q (op :: rest) a w :=
  wpList_step fun _ hK => by
    rw [if_pos hw]
    exact wp_load_mid _ x ho b o hx (jX ac).toList _ hc Try.underlying50 rfl sizeJ (hK _ _ h)
/-- An act that came in, in its box. -/
structure Box (W : World) (b : Nat) (a : Aj) : Prop where
  at' : JAct W b a
theorem Box.below {w W : World} {b : Nat} {a : Aj} (h : Box w b a) {B : Nat} (hB : Below B w W) (hb : b < B) : Box W b a := ⟨h.at'.keep (hB.block b hb)⟩
theorem Box.n {W : World} {b : Nat} {a : Aj} (h : Box W b a) : W.cell? ⟨b, 2, none⟩ = some (.int .i64 a.n) := h.at'.cell 2
theorem Box.q {W : World} {b : Nat} {a : Aj} (h : Box W b a) : W.cell? ⟨b, 3, none⟩ = some (.bool a.behind) := h.at'.cell 3
theorem Box.keep {W : World} {b : Nat} {a : Aj} (h : Box W b a) : W.rangeAt b 4 [.int .i64 a.k0, .int .i64 a.k1] := fun j v hj => by
  rw [h.at'.cell]
  rcases j with _ | _ | j
  · exact hj
  · exact hj
  · simp at hj
theorem Box.cut {W : World} {b : Nat} {a : Aj} (h : Box W b a) : W.rangeAt b 6 [.bool a.c0, .bool a.c1] := fun j v hj => by
  rw [h.at'.cell]
  rcases j with _ | _ | j
  · exact hj
  · exact hj
  · simp at hj
abbrev zA (v : Value) (rs : List (List UInt8)) : Aj := ⟨0, v, rs, 0, false, 0, 0, false, false⟩
abbrev c24 (u v : Value) (a : Aj) : Array Value := #[.int .u8 0, u, .int .i64 0, .bool false, .int .i64 0, .int .i64 0, .bool false, .bool false, .int .u8 0, v, .int .i64 0, .bool false, .int .i64 0, .int .i64 0, .bool false, .bool false, .int .u8 (a.kind : Int), a.rv, .int .i64 a.n, .bool a.behind, .int .i64 a.k0, .int .i64 a.k1, .bool a.c0, .bool a.c1]
theorem z64 : (-9223372036854775808 : Int) ≤ 0 ∧ (0 : Int) ≤ 9223372036854775807 := ⟨by decide, by decide⟩
theorem row3 (w : World) (u v : Value) (ls ms : List (List UInt8)) (a : Aj) (hu : RBs w u ls) (hul : ls.length ≤ maxLen) (hue : ∀ l ∈ ls, l.length ≤ maxLen) (hv : RBs w v ms) (hvl : ms.length ≤ maxLen) (hve : ∀ l ∈ ms, l.length ≤ maxLen) (ha : AjOK w a) : RJs (w.alloc (.cells (c24 u v a) 50)) (.slice (some ⟨w.heap.size, 0, none⟩) 3 3) [zA u ls, zA v ms, a] := by
  have hB := alloc1 w (.cells (c24 u v a) 50)
  refine .inr ⟨w.heap.size, 0, 3, rfl, Nat.le_refl _, by rw [size_alloc]; exact Nat.lt_succ_self _, fun j x hj => ?_⟩
  have hc : ∀ i, (w.alloc (.cells (c24 u v a) 50)).cell? ⟨w.heap.size, i, none⟩ = (c24 u v a)[i]? := fun i => Lib.cell_of_heap (heap_new w _) i
  rcases j with _ | _ | _ | j
  · simp at hj
    subst hj
    refine ⟨fun i y hy => ?_, ⟨(by decide : 0 ≤ 255), z64, z64, z64, hu.below hB, hul, hue⟩⟩
    rw [hc]
    rcases i with _ | _ | _ | _ | _ | _ | _ | _ | i
    all_goals first | exact hy | simp at hy
  · simp at hj
    subst hj
    refine ⟨fun i y hy => ?_, ⟨(by decide : 0 ≤ 255), z64, z64, z64, hv.below hB, hvl, hve⟩⟩
    rw [hc]
    rcases i with _ | _ | _ | _ | _ | _ | _ | _ | i
    all_goals first | exact hy | simp at hy
  · simp at hj
    subst hj
    refine ⟨fun i y hy => ?_, ha.below hB⟩
    rw [hc]
    rcases i with _ | _ | _ | _ | _ | _ | _ | _ | i
    all_goals first | exact hy | simp at hy
  · simp at hj
end Go.Proofs.Ytcjbceidgaieaaa
