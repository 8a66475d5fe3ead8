/- The contracts of clone and cloneAll. -/
import Derived.Test.YtfjgmejobldjoaaDoorKZK
import Derived.Test.YtfjgmejobldjoaaDoorKYO
set_option linter.unusedVariables false
set_option linter.unusedSimpArgs false
namespace Go.Proofs.YtfjgmejobldjoaaDoor
open Go.RowKit
def CloneC (t : Jsn.J) : Prop := ∀ (v : Value) (w : World), RV (fun _ => True) w t v → Jsn.sizeJ t ≤ 1000000000 → Calls Tryd.prog 14 #[v] w fun e w' => ∃ v', e = .returned v' ∧ RV (w.heap.size ≤ ·) w' t v' ∧ Below w.heap.size w w'
set_option maxHeartbeats 4000000 in
set_option maxRecDepth 100000 in
theorem cloneAll_any (cs : List Jsn.J) (ih : ∀ c ∈ cs, CloneC c) (cv : Value) (w : World) (hk : RKs (fun _ => True) w cs cv) (hsz : Jsn.sizeL cs ≤ 1000000000) (hl : cs.length ≤ 1000000000) :
    Calls Tryd.prog 21 #[cv] w fun e w' => ∃ v', e = .returned v' ∧ RKs (w.heap.size ≤ ·) w' cs v' ∧ Below w.heap.size w w' := by
  obtain ⟨a, c, rfl⟩ := hk.form
  obtain ⟨i0, hi, hz0, hz1, hz2⟩ := info_parts infoVal
  go_enter Tryd.func21, Tryd.ntmps21
  go_wp2
  go_loopw [3, 8] (fun v i wr => ∃ (j : Nat) (vs : List V4), i = .int .i64 j ∧ j ≤ cs.length ∧ GKids w.heap.size wr v (cs.take j) vs ∧ Below w.heap.size w wr) (fun _ i _ => cs.length - (intOf i).toNat)
  case atStart => exact ⟨0, [], rfl, Nat.zero_le _, GKids.nil _ _, Below.refl _ _⟩
  case round =>
    obtain ⟨j, vs, rfl, hj, hG, hB⟩ := hrel
    obtain ⟨ga, gc, hform⟩ := hG.form
    have hjt : (cs.take j).length = j := by rw [List.length_take]; omega
    rw [hjt] at hform
    subst hform
    by_cases hlt : j < cs.length
    · have hat : cs[j]? = some cs[j] := List.getElem?_eq_getElem hlt
      obtain ⟨g, o, rfl, hcl, _, hgl, y0, y1, y2, y3, e0, e1, e2, e3, hrv⟩ := hk.at hat
      have hkg := hB.block g hgl
      have f0 := (cell_keep hkg (o := o + j * 4)).trans e0
      have f1 := (cell_keep hkg (o := o + j * 4 + 1)).trans e1
      have f2 := (cell_keep hkg (o := o + j * 4 + 2)).trans e2
      have f3 := (cell_keep hkg (o := o + j * 4 + 3)).trans e3
      obtain ⟨aa, na, ca, ab, nb, cb, hsh⟩ := hrv.shape
      cases hsh
      have hBw : Below wr.heap.size wr (wr.alloc (.cells #[.int .i64 cs[j].kind, .string (str cs[j].text), .slice aa na ca, .slice ab nb cb] 25)) := (Below.refl _ wr).alloc (Nat.le_refl _) _
      have hB1 := bel hB hBw
      have hI := ih cs[j] (List.getElem_mem hlt) _ _ (hrv.below hB1) (Nat.le_trans (Jsn.sizeL_mem (List.getElem_mem hlt)) hsz)
      have HT : Hid (cs.take (j + 1) = cs.take j ++ [cs[j]]) := List.take_succ_eq_append_getElem hlt
      clear hat
      generalize cs[j] = t at *
      go_wp2_with (first
        | (go_at_call 14; refine hI.mono ?_; rintro e w2 ⟨v2, rfl, hr2, hB2⟩; obtain ⟨ba, ma, da, bb, mb, db, rfl⟩ := hr2.shape; have hB3 := bel hB1 hB2; have hs2 := hB2.size; have hG2 := hG.keep (w' := w2) (by have := hBw.size; omega) (fun k _ hl => (hB2.block k (by have := hBw.size; omega)).trans (hBw.block k hl)); have hGa := hG2.keep (w' := w2.alloc (.cells #[.int .i64 t.kind, .string (str t.text), .slice ba ma da, .slice bb mb db] 25)) (by simp) (fun k _ hl => Lib.alloc_old w2 _ k hl); have hnew := cell_four_new w2 (.int .i64 t.kind) (.string (str t.text)) (.slice ba ma da) (.slice bb mb db) 25; have howna := hGa.own; rw [hjt] at howna)
        | (at_builtin; refine wpList_append_lies _ rfl _ _ 23 rfl w.heap.size 25 i0 (vv (.int .i64 0) (.string ⟨#[]⟩) (.slice none 0 0) (.slice none 0 0)) 4 72 Tryd.underlying23 hi hz0 hz1 hz2 rfl (by decide) _ _ _ rfl howna ⟨w2.heap.size, 0, none⟩ 1 1 [.int .i64 t.kind, .string (str t.text), .slice ba ma da, .slice bb mb db] rfl rfl hnew (fun x hx => by simp at hx; rcases hx with rfl | rfl | rfl | rfl <;> rfl) (by decide) (by unfold maxLen; omega) (by omega) (by have := hB3.size; simp; omega) _ rfl ?_; intro g3 cap3 w3 hown' hgrow3 hat3 hglt3))
      have hwb : wr.heap.size < (wr.alloc (.cells #[.int .i64 t.kind, .string (str t.text), .slice aa na ca, .slice ab nb cb] 25)).heap.size := by simp
      have hws := hB.size
      have hrv' : RV (off w.heap.size (.slice ga j gc)) (w2.alloc (.cells #[.int .i64 t.kind, .string (str t.text), .slice ba ma da, .slice bb mb db] 25)) t (vv (.int .i64 t.kind) (.string (str t.text)) (.slice ba ma da) (.slice bb mb db)) := RV.keep (by simp) (fun k hk hl => ⟨⟨by have := Nat.lt_of_lt_of_le hwb hk; omega, fun e => by have h1 := (World.ownsRow.lt hG.own _ e.symm).2; have := Nat.lt_of_lt_of_le hwb hk; omega⟩, Lib.alloc_old w2 _ k hl⟩) hr2
      have hG3 := hGa.more hgrow3 hat3 (by simp) (by rw [hjt]; exact hown') hrv'
      rw [hjt, ← HT.out] at hG3
      have hB4 : Below w.heap.size w w3 := (hB3.alloc hB3.size _).grown hgrow3 (by have := hB3.size; simp; omega) (fun k hk => (World.ownsRow.lt hGa.own k hk).1)
      exact ⟨⟨j + 1, _, by go_num, by omega, hG3, hB4⟩, by simp [intOf]; omega⟩
    · have hR : RKs (w.heap.size ≤ ·) wr cs (.slice ga j gc) := by
        have := hG.reads
        rw [List.take_of_length_le (by omega)] at this
        exact this
      go_wp2
      go_ret
      exact ⟨_, rfl, hR, hB⟩
end Go.Proofs.YtfjgmejobldjoaaDoor
