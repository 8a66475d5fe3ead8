/- Texts laid as one. -/
import Derived.Test.YtiodaahncadodaaGreatDoorKTreJL
import Derived.Test.YtiodaahncadodaaGreatDoorKTreMN
/- The reference's builder of trees in memory; rows of numbers and of attributes copied behind rows of one's own. -/
set_option linter.unusedVariables false
set_option linter.unusedSimpArgs false
namespace Go.Proofs.YtiodaahncadodaaGreatDoor
open Go.RowKit
/-! ### the reference's builder -/
abbrev slotsQ (ov : Value) (ps : List PN) : List Value := ov :: pslots ps
/-- Nothing but the nodes' own block and the builder's is ever written again. -/
structure QAt (w : World) (B bb : Nat) (nv ov : Value) (ps : List PN) (op : List Nat) : Prop where
  blk : w.heap[bb]? = some (.cells #[nv, ov] 59 (0, 0))
  row : w.ownsRow B 43 6 nv ps.length (nCells ps)
  opn : OwnsI w B ov (op.map fun x : Nat => (x : Int))
  ats : ∀ (i : Nat) p, ps[i]? = some p → OwnsA w B p.2.1 p.1.attrs
  kds : ∀ (i : Nat) p, ps[i]? = some p → OwnsI w B p.2.2 p.1.kids
  apn : ∀ v ∈ slotsQ ov ps, ApK v nv
  off : ∀ v ∈ slotsQ ov ps, v.ownBlock ≠ some bb
  nof : nv.ownBlock ≠ some bb
  bB : B ≤ bb
section
variable {w w' w1 : World} {B bb g m c : Nat} {nv ov : Value} {ps : List PN} {op : List Nat}
theorem QAt.lt (h : QAt w B bb nv ov ps op) : bb < w.heap.size := (Array.getElem?_eq_some_iff.1 h.blk).1
theorem QAt.slots (h : QAt w B bb nv ov ps op) : ∀ v ∈ slotsQ ov ps, ∀ k, v.ownBlock = some k → B ≤ k ∧ k < w.heap.size := fun v hv k e => by
  rcases List.mem_cons.1 hv with rfl | hv
  · exact World.ownsRow.lt h.opn k e
  · unfold pslots at hv
    obtain ⟨p, hp, hv⟩ := List.mem_flatMap.1 hv
    obtain ⟨i, hi⟩ := List.mem_iff_getElem?.1 hp
    simp at hv
    rcases hv with rfl | rfl
    · exact World.ownsRow.lt (h.ats i p hi) k e
    · exact World.ownsRow.lt (h.kds i p hi) k e
theorem QAt.keep (h : QAt w B bb nv ov ps op) (hk : ∀ k, B ≤ k → k < w.heap.size → w'.heap[k]? = w.heap[k]?) : QAt w' B bb nv ov ps op :=
  ⟨(hk bb h.bB h.lt).trans h.blk, row_keepK h.row (fun k e hl => hk k (World.ownsRow.lt h.row k e).1 hl), row_keepK h.opn (fun k e hl => hk k (World.ownsRow.lt h.opn k e).1 hl),
    fun i p hp => row_keepK (h.ats i p hp) (fun k e hl => hk k (World.ownsRow.lt (h.ats i p hp) k e).1 hl), fun i p hp => row_keepK (h.kds i p hp) (fun k e hl => hk k (World.ownsRow.lt (h.kds i p hp) k e).1 hl), h.apn, h.off, h.nof, h.bB⟩
theorem QAt.below (h : QAt w B bb nv ov ps op) (hb : Below w.heap.size w w') : QAt w' B bb nv ov ps op := h.keep (fun k _ hl => hb.block k hl)
theorem QAt.nform (h : QAt w B bb nv ov ps op) (hp : 1 ≤ ps.length) : ∃ g c, nv = .slice (some ⟨g, 0, none⟩) ps.length c ∧ ps.length ≤ c ∧ B ≤ g ∧ g < w.heap.size ∧ g ≠ bb := by
  rcases h.row.2 with ⟨rfl, hz⟩ | ⟨g, cap, cur, rfl, hb, hg, hc, _⟩
  · omega
  · exact ⟨g, cap, rfl, hc, hb, (Array.getElem?_eq_some_iff.1 hg).1, fun e => h.nof (by rw [← e]; rfl)⟩
theorem QAt.size (h : QAt w B bb (.slice (some ⟨g, 0, none⟩) m c) ov ps op) : m = ps.length := by
  rcases h.row.2 with ⟨hs, hz⟩ | ⟨g2, cap, cur, hs, _⟩
  · simp at hs
  · simp only [Value.slice.injEq] at hs
    exact hs.2.1
theorem QAt.cell (h : QAt w B bb (.slice (some ⟨g, 0, none⟩) m c) ov ps op) {j : Nat} {p : PN} (hp : ps[j]? = some p) {i : Nat} {v : Value} (hv : [.int .i64 p.1.kind, .string (str p.1.name), p.2.1, .string (str p.1.text), .int .i64 p.1.up, p.2.2][i]? = some v) : w.cell? ⟨g, j * 6 + i, none⟩ = some v ∧ w.frozen? ⟨g, j * 6 + i, none⟩ = false := by
  have hjl : j < ps.length := (List.getElem?_eq_some_iff.1 hp).1
  have hi : i < 6 := by
    have := (List.getElem?_eq_some_iff.1 hv).1
    simpa using this
  have hm := h.size
  have hr : w.ownsRow B 43 6 (.slice (some ⟨g, 0, none⟩) ps.length c) ps.length (nCells ps) := by have := h.row; rw [hm] at this; exact this
  have e := World.ownsRow.cellAt (w := w) (base := B) (e := 43) (size := 6) (g := g) (cap := c) (n := ps.length) (xs := nCells ps) hr (j * 6 + i) (by omega)
  exact ⟨e.trans (nCells_at ps j p hp i v hv), World.ownsRow.frozenAt (w := w) hr (j * 6 + i)⟩
theorem QAt.oform (h : QAt w B bb nv ov ps op) (hp : 1 ≤ op.length) : ∃ g c, ov = .slice (some ⟨g, 0, none⟩) op.length c ∧ op.length ≤ c ∧ g < w.heap.size ∧ ∀ (j x : Nat), op[j]? = some x → w.cell? ⟨g, j, none⟩ = some (.int .i64 (x : Int)) := by
  rcases h.opn.2 with ⟨rfl, hz⟩ | ⟨g, cap, cur, rfl, _, hg, hc, _⟩
  · rw [List.length_map] at hz
    omega
  · have h9 : w.ownsRow B 3 1 (.slice (some ⟨g, 0, none⟩) op.length cap) op.length (isL (op.map fun x : Nat => (x : Int))) := by
      have := h.opn
      simp only [OwnsI, List.length_map] at this
      exact this
    rw [List.length_map] at hc ⊢
    refine ⟨g, cap, rfl, hc, (Array.getElem?_eq_some_iff.1 hg).1, fun j x hj => ?_⟩
    have hjl := (List.getElem?_eq_some_iff.1 hj).1
    have := World.ownsRow.cellAt (w := w) (base := B) (e := 3) (size := 1) (g := g) (cap := cap) (n := op.length) (xs := isL (op.map fun x : Nat => (x : Int))) h9 j (by omega)
    rw [this]
    unfold isL
    rw [List.getElem?_map, List.getElem?_map, hj]
    rfl
theorem QAt.reads (h : QAt w B bb nv ov ps op) (hn : 1 ≤ ps.length) : ReadsN w nv (ps.map (·.1)) := by
  obtain ⟨g, c, rfl, hc, _⟩ := h.nform hn
  refine .inr ⟨g, 0, c, by rw [List.length_map], by rw [List.length_map]; exact hc, fun j n hj => ?_⟩
  rw [List.getElem?_map] at hj
  obtain ⟨p, hp, rfl⟩ := Option.map_eq_some_iff.1 hj
  have ha := h.ats _ _ hp
  have hk := h.kds _ _ hp
  obtain ⟨aa, ac, ea⟩ := (OwnsPairs.reads ha).form
  obtain ⟨ka, kc, ek⟩ := (OwnsI.reads hk).form
  refine ⟨aa, ac, ka, kc, fun i v hi => ?_, ea ▸ OwnsPairs.reads ha, ek ▸ OwnsI.reads hk⟩
  have := (h.cell hp (i := i) (v := v) (by rw [ea, ek]; exact hi)).1
  rw [Nat.zero_add]
  exact this
theorem pslots_of {ps : List PN} {v : Value} (h : v ∈ pslots ps) : ∃ (i : Nat) (p : PN), ps[i]? = some p ∧ (v = p.2.1 ∨ v = p.2.2) := by
  unfold pslots at h
  obtain ⟨p, hp, hv⟩ := List.mem_flatMap.1 h
  obtain ⟨i, hi⟩ := List.mem_iff_getElem?.1 hp
  simp at hv
  exact ⟨i, p, hi, hv⟩
/-- A cell of a node is written; its slices are new ones, or as they were. -/
theorem QAt.put (h : QAt w B bb (.slice (some ⟨g, 0, none⟩) m c) ov ps op) {i : Nat} {p : PN} (hp : ps[i]? = some p) (q : PN) (f : Nat) (v : Value) (hf : f < 6)
    (hset : [.int .i64 q.1.kind, .string (str q.1.name), q.2.1, .string (str q.1.text), .int .i64 q.1.up, q.2.2] = [.int .i64 p.1.kind, .string (str p.1.name), p.2.1, .string (str p.1.text), .int .i64 p.1.up, p.2.2].set f v)
    (ha : OwnsA w B q.2.1 q.1.attrs) (hk : OwnsI w B q.2.2 q.1.kids) (hna : q.2.1.ownBlock ≠ some g ∧ q.2.1.ownBlock ≠ some bb) (hnk : q.2.2.ownBlock ≠ some g ∧ q.2.2.ownBlock ≠ some bb) :
    QAt (w.setCell ⟨g, i * 6 + f, none⟩ v) B bb (.slice (some ⟨g, 0, none⟩) m c) ov (ps.set i q) op ∧ Below B w (w.setCell ⟨g, i * 6 + f, none⟩ v) := by
  have hm := h.size
  subst hm
  have hst := (World.ownsRow.stored (w := w) h.row (i * 6 + f) v).1
  rw [nCells_set ps i p q f v hp hf hset] at hst
  have hgb : g ≠ bb := fun e => h.nof (by rw [← e]; rfl)
  have hgB : B ≤ g := (World.ownsRow.lt h.row g rfl).1
  have hapg : ∀ x ∈ slotsQ ov ps, x.ownBlock ≠ some g := fun x hx e => h.apn x hx g e rfl
  have hw : ∀ (x : Value), x.ownBlock ≠ some g → ∀ k, x.ownBlock = some k → k < w.heap.size → (w.setCell ⟨g, i * 6 + f, none⟩ v).heap[k]? = w.heap[k]? := fun x hx k e _ => hset13 w g _ v (fun e2 => hx (by rw [e, e2]))
  refine ⟨⟨(hset13 w g _ v (fun e => hgb e.symm)).trans h.blk, by rw [List.length_set]; exact hst, row_keepK h.opn (hw ov (hapg ov (by simp))), ?_, ?_, ?_, ?_, h.nof, h.bB⟩, (Below.refl B w).setCell hgB v⟩
  · intro j x hj
    rcases get_set13 hj with ⟨rfl, rfl⟩ | ⟨hne, hj⟩
    · exact row_keepK ha (hw _ hna.1)
    · exact row_keepK (h.ats j x hj) (hw _ (hapg _ (by simp [(pslots_mem (List.mem_of_getElem? hj)).1])))
  · intro j x hj
    rcases get_set13 hj with ⟨rfl, rfl⟩ | ⟨hne, hj⟩
    · exact row_keepK hk (hw _ hnk.1)
    · exact row_keepK (h.kds j x hj) (hw _ (hapg _ (by simp [(pslots_mem (List.mem_of_getElem? hj)).2])))
  · intro x hx
    rcases List.mem_cons.1 hx with rfl | hx
    · exact h.apn x (by simp)
    · obtain ⟨j, y, hj, hy⟩ := pslots_of hx
      rcases get_set13 hj with ⟨rfl, rfl⟩ | ⟨hne, hj⟩
      · rcases hy with rfl | rfl
        · exact fun k e1 e2 => by cases e2; exact hna.1 e1
        · exact fun k e1 e2 => by cases e2; exact hnk.1 e1
      · rcases hy with rfl | rfl
        · exact h.apn _ (by simp [(pslots_mem (List.mem_of_getElem? hj)).1])
        · exact h.apn _ (by simp [(pslots_mem (List.mem_of_getElem? hj)).2])
  · intro x hx
    rcases List.mem_cons.1 hx with rfl | hx
    · exact h.off x (by simp)
    · obtain ⟨j, y, hj, hy⟩ := pslots_of hx
      rcases get_set13 hj with ⟨rfl, rfl⟩ | ⟨hne, hj⟩
      · rcases hy with rfl | rfl
        · exact hna.2
        · exact hnk.2
      · rcases hy with rfl | rfl
        · exact h.off _ (by simp [(pslots_mem (List.mem_of_getElem? hj)).1])
        · exact h.off _ (by simp [(pslots_mem (List.mem_of_getElem? hj)).2])
/-- A further node. -/
theorem QAt.node (h : QAt w B bb nv ov ps op) {n : Nd} {va nv' : Value} (hrow : w1.ownsRow B 43 6 nv' (ps.length + 1) (nCells ps ++ [.int .i64 n.kind, .string (str n.name), va, .string (str n.text), .int .i64 n.up, .slice none 0 0])) (hn : n.kids = []) (hg : w.grownBy w1 nv.ownBlock) (hat : nv'.ownBlock = nv.ownBlock ∨ nv'.ownBlock = some w.heap.size)
    (hva : OwnsA w B va n.attrs) (hvo : va.ownBlock ≠ some bb) (hvap : ApK va nv) (hB : Below B w w1) :
    QAt (w1.setCell ⟨bb, 0, none⟩ nv') B bb nv' ov (ps ++ [(n, va, .slice none 0 0)]) op ∧ Below B w (w1.setCell ⟨bb, 0, none⟩ nv') := by
  have hnew : nv'.ownBlock ≠ some bb := fun e => by
    rcases hat with h1 | h1
    · rw [h1] at e
      exact h.nof e
    · rw [h1] at e
      cases e
      exact absurd h.lt (Nat.lt_irrefl _)
  have hap : ∀ x : Value, (∀ k, x.ownBlock = some k → k < w.heap.size) → ApK x nv → ApK x nv' := fun x hx hx2 k e1 e2 => by
    rcases hat with h1 | h1
    · exact hx2 k e1 (by rw [← h1]; exact e2)
    · rw [h1] at e2
      cases e2
      exact absurd (hx _ e1) (Nat.lt_irrefl _)
  have hval := fun k e => (World.ownsRow.lt hva k e).2
  have hw : ∀ (x : Value), ApK x nv → x.ownBlock ≠ some bb → ∀ k, x.ownBlock = some k → k < w.heap.size → (w1.setCell ⟨bb, 0, none⟩ nv').heap[k]? = w.heap[k]? := fun x hx hxb k e hl => (hset13 w1 bb _ nv' (fun e2 => hxb (by rw [e, e2]))).trans (hg.block k hl (fun e2 => hx k e e2.symm))
  have hblk : w1.heap[bb]? = some (.cells #[nv, ov] 59 (0, 0)) := (hg.block bb h.lt (fun e => h.nof e.symm)).trans h.blk
  refine ⟨⟨heap_set13 hblk nv', ?_, row_keepK h.opn (hw ov (h.apn ov (by simp)) (h.off ov (by simp))), ?_, ?_, ?_, ?_, hnew, h.bB⟩, hB.setCell h.bB _⟩
  · rw [List.length_append, nCells_snoc]
    exact row_keepK hrow (fun k e _ => hset13 w1 bb _ nv' (fun e2 => hnew (by rw [e, e2])))
  · intro j p hj
    by_cases hjl : j < ps.length
    · rw [List.getElem?_append_left hjl] at hj
      have hm := (pslots_mem (List.mem_of_getElem? hj)).1
      exact row_keepK (h.ats j p hj) (hw _ (h.apn _ (by simp [hm])) (h.off _ (by simp [hm])))
    · have hje : j = ps.length := by
        have := (List.getElem?_eq_some_iff.1 hj).1
        simp at this
        omega
      subst hje
      simp at hj
      subst hj
      exact row_keepK hva (hw va hvap hvo)
  · intro j p hj
    by_cases hjl : j < ps.length
    · rw [List.getElem?_append_left hjl] at hj
      have hm := (pslots_mem (List.mem_of_getElem? hj)).2
      exact row_keepK (h.kds j p hj) (hw _ (h.apn _ (by simp [hm])) (h.off _ (by simp [hm])))
    · have hje : j = ps.length := by
        have := (List.getElem?_eq_some_iff.1 hj).1
        simp at this
        omega
      subst hje
      simp at hj
      subst hj
      show OwnsI _ B (.slice none 0 0) n.kids
      rw [hn]
      exact OwnsI.nil _ _
  · intro x hx
    have hx2 : x ∈ slotsQ ov ps ∨ x = va ∨ x = .slice none 0 0 := by
      rcases List.mem_cons.1 hx with rfl | hx
      · exact .inl (by simp)
      · rw [pslots_snoc] at hx
        simp only [List.mem_append, List.mem_singleton] at hx
        rcases hx with (hx | hx) | hx
        · exact .inl (by simp [hx])
        · exact .inr (.inl hx)
        · exact .inr (.inr hx)
    rcases hx2 with hx | rfl | rfl
    · exact hap x (fun k e => (h.slots x hx k e).2) (h.apn x hx)
    · exact hap x hval hvap
    · exact fun k e => by cases e
  · intro x hx
    have hx2 : x ∈ slotsQ ov ps ∨ x = va ∨ x = .slice none 0 0 := by
      rcases List.mem_cons.1 hx with rfl | hx
      · exact .inl (by simp)
      · rw [pslots_snoc] at hx
        simp only [List.mem_append, List.mem_singleton] at hx
        rcases hx with (hx | hx) | hx
        · exact .inl (by simp [hx])
        · exact .inr (.inl hx)
        · exact .inr (.inr hx)
    rcases hx2 with hx | rfl | rfl
    · exact h.off x hx
    · exact hvo
    · exact fun e => by cases e
/-- The open ones have turned. -/
theorem QAt.open' (h : QAt w B bb nv ov ps op) {ov' : Value} {op' : List Nat} (hrow : OwnsI w B ov' (op'.map fun x : Nat => (x : Int))) (hap : ApK ov' nv) (hoff : ov'.ownBlock ≠ some bb) :
    QAt (w.setCell ⟨bb, 1, none⟩ ov') B bb nv ov' ps op' ∧ Below B w (w.setCell ⟨bb, 1, none⟩ ov') := by
  have hw : ∀ (x : Value), x.ownBlock ≠ some bb → ∀ k, x.ownBlock = some k → k < w.heap.size → (w.setCell ⟨bb, 1, none⟩ ov').heap[k]? = w.heap[k]? := fun x hxb k e hl => hset13 w bb _ ov' (fun e2 => hxb (by rw [e, e2]))
  refine ⟨⟨heap_set13 h.blk ov', row_keepK h.row (hw nv h.nof), row_keepK hrow (hw ov' hoff), fun j p hj => row_keepK (h.ats j p hj) (hw _ (h.off _ (by simp [(pslots_mem (List.mem_of_getElem? hj)).1]))), fun j p hj => row_keepK (h.kds j p hj) (hw _ (h.off _ (by simp [(pslots_mem (List.mem_of_getElem? hj)).2]))), ?_, ?_, h.nof, h.bB⟩, (Below.refl B w).setCell h.bB _⟩
  · intro x hx
    rcases List.mem_cons.1 hx with rfl | hx
    · exact hap
    · exact h.apn x (by simp [hx])
  · intro x hx
    rcases List.mem_cons.1 hx with rfl | hx
    · exact hoff
    · exact h.off x (by simp [hx])
end
end Go.Proofs.YtiodaahncadodaaGreatDoor
/- The contracts of the reference's shut, find and has. -/
namespace Tre
end Tre
namespace Go.Proofs.YtiodaahncadodaaGreatDoor
open Go.RowKit
/-- What a step leaves of the reference's builder. -/
def QPost (B bb : Nat) (w : World) (b : Tre.St) (w' : World) : Prop :=
  ∃ nv ov ps, QAt w' B bb nv ov ps b.opn ∧ ps.map (·.1) = b.nodes ∧ Below B w w'
/-- What is neither the builder's nor its nodes' block is as it was. -/
def Kq (bb : Nat) (nv : Value) (w w' : World) : Prop := ∀ k, k < w.heap.size → k ≠ bb → nv.ownBlock ≠ some k → w'.heap[k]? = w.heap[k]?
theorem Kq.of {bb : Nat} {nv : Value} {w w' : World} (h : Below w.heap.size w w') : Kq bb nv w w' := fun k hk _ _ => h.block k hk
section
variable {w : World} {B bb : Nat} {nv ov : Value} {ps : List PN} {op : List Nat}
end
end Go.Proofs.YtiodaahncadodaaGreatDoor
