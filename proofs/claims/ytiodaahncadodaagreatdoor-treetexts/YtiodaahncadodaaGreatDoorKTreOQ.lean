/- Texts laid as one. -/
import Derived.Test.YtiodaahncadodaaGreatDoorKTreMN
import Derived.Test.YtiodaahncadodaaGreatDoorKTreM
import Derived.Test.YtiodaahncadodaaGreatDoorKTreJL
/- The contract of a builder's text. -/
set_option linter.unusedVariables false
set_option linter.unusedSimpArgs false
namespace Go.Proofs.YtiodaahncadodaaGreatDoor
open Go.RowKit Go.Maps Go.WideMaps
/-- What a step leaves, by its answer. -/
def SRest (T : Nat → Prop) (bb mg : Nat) (w : World) (F : Tre.St → List UInt8 → Option Nat) (r : Except Nat Tre.St) (q : Nat) (w' : World) : Prop :=
  match r with
  | .error k => q = k ∧ OwnT T w w'
  | .ok b' => q = 0 ∧ BPost T bb mg w b' (F b') w'
/-- What a step answers, and leaves. -/
def SPost (T : Nat → Prop) (bb mg : Nat) (w : World) (F : Tre.St → List UInt8 → Option Nat) (r : Except Nat Tre.St) (e : Ending) (w' : World) : Prop := ∃ q : Nat, e = .returned (.int .i64 (q : Int)) ∧ SRest T bb mg w F r q w'
abbrev fst13 : Tre.St → List UInt8 → Option Nat := fun b' => Tre.firstN b'.nodes
theorem BPost.base {T : Nat → Prop} {bb mg : Nat} {w W w' : World} {b : Tre.St} {F : List UInt8 → Option Nat} (h : BPost T bb mg W b F w') (hO : OwnT T w W) : BPost T bb mg w b F w' := by
  obtain ⟨T', nv, ov, ps, h1, h2, h3, h4⟩ := h
  exact ⟨T', nv, ov, ps, h1, h2, hO.trans h3 (fun k h => .inl h), fun k hk => (h4 k hk).imp id (fun h => Nat.le_trans hO.size h)⟩
theorem SRest.base {T : Nat → Prop} {bb mg : Nat} {w W w' : World} {F : Tre.St → List UInt8 → Option Nat} {r : Except Nat Tre.St} {q : Nat} (h : SRest T bb mg W F r q w') (hO : OwnT T w W) : SRest T bb mg w F r q w' := by
  cases r with
  | error k => exact ⟨h.1, hO.trans h.2 (fun k h => .inl h)⟩
  | ok b' => exact ⟨h.1, h.2.base hO⟩
theorem firstN_modify (ns : List Nd) (i : Nat) (f : Nd → Nd) (hk : ∀ m, (f m).kind = m.kind ∧ (f m).name = m.name) : Tre.firstN (ns.modify i f) = Tre.firstN ns := by
  funext n
  unfold Tre.firstN
  rw [Tre.findN_modify ns i f n hk]
theorem firstN_lay {b b2 : Tre.St} {m : Nd} (h : Tre.lay b m = .ok b2) (hm : m.kind ≠ 2 ∨ Tre.isHB m.name = false) : Tre.firstN b2.nodes = Tre.firstN b.nodes := by
  funext n
  unfold Tre.firstN
  by_cases hn : Tre.isHB n = true
  · rw [if_pos hn, if_pos hn, Tre.lay_first h n]
    cases Tre.findN b.nodes n with
    | some i => rfl
    | none =>
      have hq : (m.kind == 2 && m.name == n) = false := by
        rcases hm with hm | hm
        · rw [show (m.kind == 2) = false from beq_eq_false_iff_ne.2 hm]
          rfl
        · have : (m.name == n) = false := by
            rw [beq_eq_false_iff_ne]
            rintro rfl
            rw [hm] at hn
            cases hn
          rw [this, Bool.and_false]
      simp [hq]
  · rw [if_neg hn, if_neg hn]
theorem drewN_more (w : World) (a b : Nat) : (w.drewN a).drewN b = w.drewN (a + b) := by simp
section
variable {w : World} {T : Nat → Prop} {bb mg : Nat} {nv ov : Value} {ps : List PN} {op : List Nat}
theorem ps_nd {ps : List PN} {M : Nat} (h : Tre.Ok ⟨ps.map (·.1), op⟩ M) {i : Nat} {p : PN} (hp : ps[i]? = some p) : p.1 ∈ ps.map (·.1) := List.mem_map.2 ⟨p, List.mem_of_getElem? hp, rfl⟩
/-- lay, whatever comes of it. -/
theorem lay_any {M : Nat} (h : BAt w T bb mg nv ov ps op (Tre.firstN (ps.map (·.1)))) (hOk : Tre.Ok ⟨ps.map (·.1), op⟩ M) (n : Nd) (hnk : n.kids = []) (aa : Option Addr) (ac : Nat)
    (hva : OwnsA w 0 (.slice aa n.attrs.length ac) n.attrs) (hvo : ∀ k, (Value.slice aa n.attrs.length ac).ownBlock = some k → T k ∧ k ≠ bb ∧ k ≠ mg) (hvap : ∀ x ∈ slotsB nv ov ps, ApK x (.slice aa n.attrs.length ac)) :
    Calls Tryz.prog 96 #[.pointer (some ⟨bb, 0, none⟩), layV n aa ac] w (SPost T bb mg w (fun _ => Tre.firstN (ps.map (·.1))) (Tre.lay ⟨ps.map (·.1), op⟩ n)) := by
  have hlm : (ps.map (·.1)).length = ps.length := List.length_map ..
  have hl := hOk.len
  have ho := hOk.op1
  simp only at hl ho
  rw [hlm] at hl
  unfold Tre.lay
  by_cases h1 : 4096 ≤ ps.length
  · have e1 : (4096 ≤ (ps.map (·.1)).length) = True := by rw [hlm]; simp [h1]
    simp only [e1, if_true]
    exact (lay_many h (by omega) n aa ac).mono fun e w' hp => ⟨5, hp.1, rfl, OwnT.of hp.2⟩
  · have e1 : (4096 ≤ (ps.map (·.1)).length) = False := by rw [hlm]; simp [h1]
    simp only [e1, if_false]
    by_cases h2 : 64 < op.length
    · simp only [h2, if_true]
      exact (lay_deep h (by omega) (by omega) h2 n aa ac).mono fun e w' hp => ⟨8, hp.1, rfl, OwnT.of hp.2⟩
    · simp only [h2, if_false]
      have ht := Tre.top_in hOk
      simp only [hlm] at ht
      refine (lay_ok h (by omega) (by omega) ho.1 ht n hnk aa ac (fun i p hp => ?_) hva hvo hvap).mono fun e w' hp => ⟨0, hp.1, rfl, ?_⟩
      · have := (hOk.kids p.1 (ps_nd hOk hp)).1
        simp only [hlm] at this
        omega
      · simp only [hlm]
        exact hp.2
set_option maxHeartbeats 4000000 in
set_option maxRecDepth 100000 in
theorem text_any {M : Nat} (h : BAt w T bb mg nv ov ps op (Tre.firstN (ps.map (·.1)))) (hOk : Tre.Ok ⟨ps.map (·.1), op⟩ M) (x : List UInt8) (hM : M ≤ 100000000000) (hx : x.length ≤ 100000000000) :
    Calls Tryz.prog 55 #[.pointer (some ⟨bb, 0, none⟩), .string (str x)] w (SPost T bb mg w fst13 (Tre.textT ⟨ps.map (·.1), op⟩ x)) := by
  have hlm : (ps.map (·.1)).length = ps.length := List.length_map ..
  have hl := hOk.len
  have ho := hOk.op1
  have ht := Tre.top_in hOk
  simp only [hlm] at hl ho ht
  replace ht : op.getLastD 0 < ps.length := ht
  have HL := hideT (fun W (hb : Below w.heap.size w W) => lay_any (h.below hb) hOk ⟨3, [], [], x, 0, []⟩ rfl none 0 (OwnsPairs.nil _ _ _) (fun k e => by cases e) (fun y _ k _ e => by cases e))
  have HLast := hideT (fun W (hb : Below w.heap.size w W) => last_any (h.below hb) ho.1 (by omega))
  have HFin : Hid (∀ q w', SRest T bb mg w (fun _ => Tre.firstN (ps.map (·.1))) (Tre.lay ⟨ps.map (·.1), op⟩ (⟨3, [], [], x, 0, []⟩ : Nd)) q w' → SRest T bb mg w fst13 (Tre.lay ⟨ps.map (·.1), op⟩ (⟨3, [], [], x, 0, []⟩ : Nd)) q w') := fun q w' hp => by
    cases hlay : Tre.lay ⟨ps.map (·.1), op⟩ (⟨3, [], [], x, 0, []⟩ : Nd) with
    | error k => rw [hlay] at hp; exact hp
    | ok b' =>
      rw [hlay] at hp
      refine ⟨hp.1, ?_⟩
      have := hp.2
      simp only at this
      show BPost T bb mg w b' (Tre.firstN b'.nodes) w'
      rw [firstN_lay hlay (.inl (by show (3 : Int) ≠ 2; decide))]
      exact this
  obtain ⟨g, c, rfl, hc⟩ := h.nform (by omega)
  obtain ⟨p0, hp0⟩ : ∃ p, ps[op.getLastD 0]? = some p := ⟨_, List.getElem?_eq_getElem ht⟩
  have htx : Tre.textT ⟨ps.map (·.1), op⟩ x = match p0.1.kids.getLast? with
    | some i => if (Tre.ndAt (ps.map (·.1)) i.toNat).kind = 3 then .ok ⟨(ps.map (·.1)).modify i.toNat (fun m => { m with text := m.text ++ x }), op⟩ else Tre.lay ⟨ps.map (·.1), op⟩ ⟨3, [], [], x, 0, []⟩
    | none => Tre.lay ⟨ps.map (·.1), op⟩ ⟨3, [], [], x, 0, []⟩ := by
    unfold Tre.textT Tre.top
    simp only
    rw [ndAt_map hp0]
    rfl
  rw [htx]
  have HkO := hOk.kids p0.1 (ps_nd hOk hp0)
  have HOk := hideT hOk
  have H := hideT h
  obtain ⟨n0, va0, vk0⟩ := p0
  obtain ⟨ka, kc, e0⟩ := (OwnsI.reads (h.kds _ _ hp0)).form
  simp only at e0 HkO htx
  subst e0
  have hrk := OwnsI.reads (h.kds _ _ hp0)
  have c0 : w.cell? ⟨bb, 0, none⟩ = some (.slice (some ⟨g, 0, none⟩) ps.length c) := Lib.cell_of_heap h.blk 0
  have c5 := (h.cell hp0 (i := 5) rfl).1
  have HRK := hideT hrk
  clear h hOk htx hrk
  generalize hg : op.getLastD 0 = t at *
  have HG := hideT hg
  simp only [hlm] at HkO
  clear hg hp0
  obtain ⟨S, hS1⟩ : ∃ S : World → Prop, ∀ W, S W ↔ ∃ m, W = w.drewN m := ⟨_, fun _ => Iff.rfl⟩
  have hB0 : ∀ m, Below w.heap.size w (w.drewN m) := fun m => bel_quiet ⟨m, rfl⟩
  cases hk : n0.kids.getLast? with
  | none =>
    have hk0 : n0.kids.length = 0 := by rw [List.getLast?_eq_none_iff.1 hk]; rfl
    have q : ¬ (0 : Int) < (n0.kids.length : Int) := by omega
    clear hk hk0
    go_enter Tryz.func55, Tryz.ntmps55
    go_upto_region 1 with fail
    refine wp_region_held_drew (S := S) (by kernel_rfl) ((hS1 _).2 ⟨1, rfl⟩) (fun hS => ?_)
    obtain ⟨X, hX⟩ : ∃ X, w.drew = X := ⟨_, rfl⟩
    rw [hX] at hS ⊢
    refine takeH12 0 7 (.pointer (some ⟨bb, 0, none⟩)) rfl rfl (by kernel_rfl) (by kernel_rfl) (by kernel_rfl) (fun _ _ _ h => h) (Or.inl ⟨by kernel_rfl, fun W _ => by go_simp⟩) hS ?_
    simp only [Act.put, List.setIfInBounds_toArray, List.set_cons_zero, List.set_cons_succ]
    refine takeH12 1 8 (.pointer (some ⟨bb, 0, none⟩)) rfl rfl (by kernel_rfl) (by kernel_rfl) (by kernel_rfl) (fun _ _ _ h => h) (Or.inl ⟨by kernel_rfl, fun W _ => by go_simp⟩) hS ?_
    simp only [Act.put, List.setIfInBounds_toArray, List.set_cons_zero, List.set_cons_succ]
    refine takeH12 2 9 (.pointer (some ⟨bb, 0, none⟩)) rfl rfl (by kernel_rfl) (by kernel_rfl) (by kernel_rfl) (fun _ _ _ h => h) (Or.inl ⟨by kernel_rfl, fun W _ => by go_simp⟩) hS ?_
    simp only [Act.put, List.setIfInBounds_toArray, List.set_cons_zero, List.set_cons_succ]
    refine takeH12 3 10 ((.slice (some ⟨g, 0, none⟩) ps.length c)) rfl rfl (by kernel_rfl) (by kernel_rfl) (by kernel_rfl) (fun _ _ _ h => h) (Or.inl ⟨by kernel_rfl, fun W hW => by obtain ⟨m, rfl⟩ := (hS1 W).1 hW; go_simp⟩) hS ?_
    simp only [Act.put, List.setIfInBounds_toArray, List.set_cons_zero, List.set_cons_succ]
    refine takeH12 4 11 (.pointer (some ⟨bb, 0, none⟩)) rfl rfl (by kernel_rfl) (by kernel_rfl) (by kernel_rfl) (fun _ _ _ h => h) (Or.inl ⟨by kernel_rfl, fun W _ => by go_simp⟩) hS ?_
    simp only [Act.put, List.setIfInBounds_toArray, List.set_cons_zero, List.set_cons_succ]
    refine wpAnyH_ready (rs := [5]) (by kernel_rfl) (by simp) ?_
    refine AllReadyH.cons rfl (fun K hK => ?_) AllReadyH.nil
    go_simp
    refine (HLast.out X (by rw [← hX]; exact (Below.refl _ _).drew)).mono ?_
    rintro e w1 ⟨rfl, m1, rfl⟩
    refine hK.out _ _ ((hS1 _).2 ⟨1 + m1, by rw [← hX]; exact drewN_more w 1 m1⟩) (fun hS => ?_)
    clear hK K
    refine takeH12 6 13 (.pointer (some ⟨g, t * 6, none⟩)) rfl rfl (by kernel_rfl) (by kernel_rfl) (by kernel_rfl) (fun _ _ _ h => h) (Or.inl ⟨by kernel_rfl, fun W _ => by go_simp⟩) hS ?_
    simp only [Act.put, List.setIfInBounds_toArray, List.set_cons_zero, List.set_cons_succ]
    refine takeH12 7 14 (.pointer (some ⟨g, t * 6 + 5, none⟩)) rfl rfl (by kernel_rfl) (by kernel_rfl) (by kernel_rfl) (fun _ _ _ h => h) (Or.inl ⟨by kernel_rfl, fun W _ => by go_simp⟩) hS ?_
    simp only [Act.put, List.setIfInBounds_toArray, List.set_cons_zero, List.set_cons_succ]
    refine takeH12 8 15 (.slice ka n0.kids.length kc) rfl rfl (by kernel_rfl) (by kernel_rfl) (by kernel_rfl) (fun _ _ _ h => h) (Or.inl ⟨by kernel_rfl, fun W hW => by obtain ⟨m, rfl⟩ := (hS1 W).1 hW; go_simp⟩) hS ?_
    simp only [Act.put, List.setIfInBounds_toArray, List.set_cons_zero, List.set_cons_succ]
    refine takeH12 9 5 (.slice ka n0.kids.length kc) rfl rfl (by kernel_rfl) (by kernel_rfl) (by kernel_rfl) (fun _ _ _ h => h) (Or.inl ⟨by kernel_rfl, fun W _ => by go_simp⟩) hS ?_
    simp only [Act.put, List.setIfInBounds_toArray, List.set_cons_zero, List.set_cons_succ]
    refine wpAnyH_done (by kernel_rfl) ?_ _
    obtain ⟨mm, hmm⟩ := (hS1 _).1 hS
    rw [hmm]
    clear hS hmm hX
    go_wp2_with (go_at_call 96; refine (HL.out _ (hB0 mm)).mono ?_; rintro e w2 ⟨qq, rfl, hp⟩; have HP := hideT (HFin.out _ _ (hp.base (OwnT.of (hB0 mm)))); clear hp)
    go_ret
    exact ⟨qq, rfl, HP.out⟩
  | some i =>
    have hil := List.getLast?_eq_getElem? ▸ hk
    have hkl : 1 ≤ n0.kids.length := by
      cases hq : n0.kids with
      | nil => rw [hq] at hk; cases hk
      | cons a l => simp
    have hi := HkO.2 i (List.mem_of_getLast? hk)
    obtain ⟨j, rfl⟩ : ∃ j : Nat, i = (j : Int) := ⟨i.toNat, by omega⟩
    have hj : j < ps.length := by omega
    obtain ⟨b5, o5, e5, hc5, hb5, ck⟩ := HRK.out.at hil
    subst e5
    obtain ⟨p1, hp1⟩ : ∃ p, ps[j]? = some p := ⟨_, List.getElem?_eq_getElem hj⟩
    obtain ⟨n1, va1, vk1⟩ := p1
    have cK : w.cell? ⟨g, j * 6, none⟩ = some (.int .i64 n1.kind) := (H.out.cell hp1 (i := 0) rfl).1
    have cT := (H.out.cell hp1 (i := 3) rfl).1
    have fT := (H.out.cell hp1 (i := 3) rfl).2
    have hnd := ndAt_map hp1
    have e6 : ((j : Int)).toNat = j := by omega
    have HP1 := hideT hp1
    simp only at cK cT hnd
    simp only [e6, hnd]
    obtain ⟨kl, hkl2⟩ : ∃ kl, n0.kids.length = kl + 1 := ⟨n0.kids.length - 1, by omega⟩
    have q : (0 : Int) < ((kl : Int) + 1) := by omega
    rw [hkl2, Nat.add_sub_cancel] at ck
    rw [hkl2] at hc5
    have hkl4 : kl + 1 ≤ 4096 := by omega
    clear hil hi hk e6 hnd hp1
    by_cases h3 : n1.kind = 3
    · rw [if_pos h3]
      have q3 : (n1.kind == 3) = true := by rw [h3]; rfl
      have htl := HOk.out.tx n1 (ps_nd HOk.out HP1.out)
      have hz1 : (str n1.text).size ≤ 100000000000 := by rw [str_size]; omega
      have hz2 : (str x).size ≤ 100000000000 := by rw [str_size]; omega
      have HCat : Hid (str n1.text ++ str x = str (n1.text ++ x)) := by
        apply str_eq
        rw [ByteArray.data_append, Array.toList_append, str_data, str_data]
      have HT := hideT (fun W (hb : Below w.heap.size w W) => (H.out.below hb).text (n1.text ++ x) HP1.out)
      have HMap := hideT (map_set13 ps j (n1, va1, vk1) ({ n1 with text := n1.text ++ x }, va1, vk1) (fun m => { m with text := m.text ++ x }) HP1.out rfl)
      clear h3 HL HFin htl
      go_enter Tryz.func55, Tryz.ntmps55
      go_upto_region 1 with fail
      refine wp_region_held_drew (S := S) (by kernel_rfl) ((hS1 _).2 ⟨1, rfl⟩) (fun hS => ?_)
      obtain ⟨X, hX⟩ : ∃ X, w.drew = X := ⟨_, rfl⟩
      rw [hX] at hS ⊢
      refine takeH12 0 7 (.pointer (some ⟨bb, 0, none⟩)) rfl rfl (by kernel_rfl) (by kernel_rfl) (by kernel_rfl) (fun _ _ _ h => h) (Or.inl ⟨by kernel_rfl, fun W _ => by go_simp⟩) hS ?_
      simp only [Act.put, List.setIfInBounds_toArray, List.set_cons_zero, List.set_cons_succ]
      refine takeH12 1 8 (.pointer (some ⟨bb, 0, none⟩)) rfl rfl (by kernel_rfl) (by kernel_rfl) (by kernel_rfl) (fun _ _ _ h => h) (Or.inl ⟨by kernel_rfl, fun W _ => by go_simp⟩) hS ?_
      simp only [Act.put, List.setIfInBounds_toArray, List.set_cons_zero, List.set_cons_succ]
      refine takeH12 2 9 (.pointer (some ⟨bb, 0, none⟩)) rfl rfl (by kernel_rfl) (by kernel_rfl) (by kernel_rfl) (fun _ _ _ h => h) (Or.inl ⟨by kernel_rfl, fun W _ => by go_simp⟩) hS ?_
      simp only [Act.put, List.setIfInBounds_toArray, List.set_cons_zero, List.set_cons_succ]
      refine takeH12 3 10 ((.slice (some ⟨g, 0, none⟩) ps.length c)) rfl rfl (by kernel_rfl) (by kernel_rfl) (by kernel_rfl) (fun _ _ _ h => h) (Or.inl ⟨by kernel_rfl, fun W hW => by obtain ⟨m, rfl⟩ := (hS1 W).1 hW; go_simp⟩) hS ?_
      simp only [Act.put, List.setIfInBounds_toArray, List.set_cons_zero, List.set_cons_succ]
      refine takeH12 4 11 (.pointer (some ⟨bb, 0, none⟩)) rfl rfl (by kernel_rfl) (by kernel_rfl) (by kernel_rfl) (fun _ _ _ h => h) (Or.inl ⟨by kernel_rfl, fun W _ => by go_simp⟩) hS ?_
      simp only [Act.put, List.setIfInBounds_toArray, List.set_cons_zero, List.set_cons_succ]
      refine wpAnyH_ready (rs := [5]) (by kernel_rfl) (by simp) ?_
      refine AllReadyH.cons rfl (fun K hK => ?_) AllReadyH.nil
      go_simp
      refine (HLast.out X (by rw [← hX]; exact (Below.refl _ _).drew)).mono ?_
      rintro e w1 ⟨rfl, m1, rfl⟩
      refine hK.out _ _ ((hS1 _).2 ⟨1 + m1, by rw [← hX]; exact drewN_more w 1 m1⟩) (fun hS => ?_)
      clear hK K
      refine takeH12 6 13 (.pointer (some ⟨g, t * 6, none⟩)) rfl rfl (by kernel_rfl) (by kernel_rfl) (by kernel_rfl) (fun _ _ _ h => h) (Or.inl ⟨by kernel_rfl, fun W _ => by go_simp⟩) hS ?_
      simp only [Act.put, List.setIfInBounds_toArray, List.set_cons_zero, List.set_cons_succ]
      refine takeH12 7 14 (.pointer (some ⟨g, t * 6 + 5, none⟩)) rfl rfl (by kernel_rfl) (by kernel_rfl) (by kernel_rfl) (fun _ _ _ h => h) (Or.inl ⟨by kernel_rfl, fun W _ => by go_simp⟩) hS ?_
      simp only [Act.put, List.setIfInBounds_toArray, List.set_cons_zero, List.set_cons_succ]
      refine takeH12 8 15 (.slice (some ⟨b5, o5, none⟩) n0.kids.length kc) rfl rfl (by kernel_rfl) (by kernel_rfl) (by kernel_rfl) (fun _ _ _ h => h) (Or.inl ⟨by kernel_rfl, fun W hW => by obtain ⟨m, rfl⟩ := (hS1 W).1 hW; go_simp⟩) hS ?_
      simp only [Act.put, List.setIfInBounds_toArray, List.set_cons_zero, List.set_cons_succ]
      refine takeH12 9 5 (.slice (some ⟨b5, o5, none⟩) n0.kids.length kc) rfl rfl (by kernel_rfl) (by kernel_rfl) (by kernel_rfl) (fun _ _ _ h => h) (Or.inl ⟨by kernel_rfl, fun W _ => by go_simp⟩) hS ?_
      simp only [Act.put, List.setIfInBounds_toArray, List.set_cons_zero, List.set_cons_succ]
      refine wpAnyH_done (by kernel_rfl) ?_ _
      obtain ⟨mm, hmm⟩ := (hS1 _).1 hS
      rw [hmm]
      clear hS hmm hX
      go_upto_region 3 with fail
      go_quiet (fail)
      go_wp2
      go_ret
      refine ⟨0, rfl, rfl, ?_⟩
      obtain ⟨h8, h9⟩ := HT.out ((w.drewN mm).drewN nq) (by rw [drewN_more]; exact hB0 _)
      show BPost T bb mg w _ (Tre.firstN ((ps.map (·.1)).modify j fun m => { m with text := m.text ++ x })) _
      rw [firstN_modify _ _ (fun m => { m with text := m.text ++ x }) (fun m => ⟨rfl, rfl⟩)]
      refine ⟨T, (.slice (some ⟨g, 0, none⟩) ps.length c), ov, ps.set j ({ n1 with text := n1.text ++ x }, va1, vk1), ?_, HMap.out, ?_, fun k hk => .inl hk⟩
      · rw [HCat.out]
        simpa using h8
      · rw [HCat.out]
        simpa using (OwnT.of (T := T) (hB0 (mm + nq))).trans (by simpa using h9) (fun k h => .inl h)
    · rw [if_neg h3]
      have q3 : (n1.kind == 3) = false := beq_eq_false_iff_ne.2 h3
      clear h3
      go_enter Tryz.func55, Tryz.ntmps55
      go_upto_region 1 with fail
      refine wp_region_held_drew (S := S) (by kernel_rfl) ((hS1 _).2 ⟨1, rfl⟩) (fun hS => ?_)
      obtain ⟨X, hX⟩ : ∃ X, w.drew = X := ⟨_, rfl⟩
      rw [hX] at hS ⊢
      refine takeH12 0 7 (.pointer (some ⟨bb, 0, none⟩)) rfl rfl (by kernel_rfl) (by kernel_rfl) (by kernel_rfl) (fun _ _ _ h => h) (Or.inl ⟨by kernel_rfl, fun W _ => by go_simp⟩) hS ?_
      simp only [Act.put, List.setIfInBounds_toArray, List.set_cons_zero, List.set_cons_succ]
      refine takeH12 1 8 (.pointer (some ⟨bb, 0, none⟩)) rfl rfl (by kernel_rfl) (by kernel_rfl) (by kernel_rfl) (fun _ _ _ h => h) (Or.inl ⟨by kernel_rfl, fun W _ => by go_simp⟩) hS ?_
      simp only [Act.put, List.setIfInBounds_toArray, List.set_cons_zero, List.set_cons_succ]
      refine takeH12 2 9 (.pointer (some ⟨bb, 0, none⟩)) rfl rfl (by kernel_rfl) (by kernel_rfl) (by kernel_rfl) (fun _ _ _ h => h) (Or.inl ⟨by kernel_rfl, fun W _ => by go_simp⟩) hS ?_
      simp only [Act.put, List.setIfInBounds_toArray, List.set_cons_zero, List.set_cons_succ]
      refine takeH12 3 10 ((.slice (some ⟨g, 0, none⟩) ps.length c)) rfl rfl (by kernel_rfl) (by kernel_rfl) (by kernel_rfl) (fun _ _ _ h => h) (Or.inl ⟨by kernel_rfl, fun W hW => by obtain ⟨m, rfl⟩ := (hS1 W).1 hW; go_simp⟩) hS ?_
      simp only [Act.put, List.setIfInBounds_toArray, List.set_cons_zero, List.set_cons_succ]
      refine takeH12 4 11 (.pointer (some ⟨bb, 0, none⟩)) rfl rfl (by kernel_rfl) (by kernel_rfl) (by kernel_rfl) (fun _ _ _ h => h) (Or.inl ⟨by kernel_rfl, fun W _ => by go_simp⟩) hS ?_
      simp only [Act.put, List.setIfInBounds_toArray, List.set_cons_zero, List.set_cons_succ]
      refine wpAnyH_ready (rs := [5]) (by kernel_rfl) (by simp) ?_
      refine AllReadyH.cons rfl (fun K hK => ?_) AllReadyH.nil
      go_simp
      refine (HLast.out X (by rw [← hX]; exact (Below.refl _ _).drew)).mono ?_
      rintro e w1 ⟨rfl, m1, rfl⟩
      refine hK.out _ _ ((hS1 _).2 ⟨1 + m1, by rw [← hX]; exact drewN_more w 1 m1⟩) (fun hS => ?_)
      clear hK K
      refine takeH12 6 13 (.pointer (some ⟨g, t * 6, none⟩)) rfl rfl (by kernel_rfl) (by kernel_rfl) (by kernel_rfl) (fun _ _ _ h => h) (Or.inl ⟨by kernel_rfl, fun W _ => by go_simp⟩) hS ?_
      simp only [Act.put, List.setIfInBounds_toArray, List.set_cons_zero, List.set_cons_succ]
      refine takeH12 7 14 (.pointer (some ⟨g, t * 6 + 5, none⟩)) rfl rfl (by kernel_rfl) (by kernel_rfl) (by kernel_rfl) (fun _ _ _ h => h) (Or.inl ⟨by kernel_rfl, fun W _ => by go_simp⟩) hS ?_
      simp only [Act.put, List.setIfInBounds_toArray, List.set_cons_zero, List.set_cons_succ]
      refine takeH12 8 15 (.slice (some ⟨b5, o5, none⟩) n0.kids.length kc) rfl rfl (by kernel_rfl) (by kernel_rfl) (by kernel_rfl) (fun _ _ _ h => h) (Or.inl ⟨by kernel_rfl, fun W hW => by obtain ⟨m, rfl⟩ := (hS1 W).1 hW; go_simp⟩) hS ?_
      simp only [Act.put, List.setIfInBounds_toArray, List.set_cons_zero, List.set_cons_succ]
      refine takeH12 9 5 (.slice (some ⟨b5, o5, none⟩) n0.kids.length kc) rfl rfl (by kernel_rfl) (by kernel_rfl) (by kernel_rfl) (fun _ _ _ h => h) (Or.inl ⟨by kernel_rfl, fun W _ => by go_simp⟩) hS ?_
      simp only [Act.put, List.setIfInBounds_toArray, List.set_cons_zero, List.set_cons_succ]
      refine wpAnyH_done (by kernel_rfl) ?_ _
      obtain ⟨mm, hmm⟩ := (hS1 _).1 hS
      rw [hmm]
      clear hS hmm hX
      go_upto_region 3 with fail
      go_quiet (fail)
      go_wp2_with (go_at_call 96; refine (HL.out _ (hB0 (mm + nq))).mono ?_; rintro e w2 ⟨qq, rfl, hp⟩; have HP := hideT (HFin.out _ _ (hp.base (OwnT.of (hB0 (mm + nq))))); clear hp)
      go_ret
      exact ⟨qq, rfl, HP.out⟩
end
end Go.Proofs.YtiodaahncadodaaGreatDoor
/- The contract of a builder's addAttrs. -/
namespace Go.Proofs.YtiodaahncadodaaGreatDoor
open Go.RowKit Go.Maps Go.WideMaps
set_option maxHeartbeats 1000000 in
theorem isThere_any (n v q : List UInt8) (g : Nat) (w : World) (hg : w.cell? ⟨g, 0, none⟩ = some (.string (str q))) :
    Calls Tryz.prog 129 #[.agg #[.string (str n), .string (str v)], .pointer (some ⟨g, 0, none⟩)] w fun e w' => e = .returned (.bool (n == q)) ∧ Below w.heap.size w w' := by
  have hlt := cell_lt hg
  have hb : Below w.heap.size w (w.alloc (.cells #[.string (str n), .string (str v)] 67)) := (Below.refl _ w).alloc (Nat.le_refl _) _
  have hg2 := (hb.cell (p := ⟨g, 0, none⟩) hlt).trans hg
  go_enter Tryz.func129, Tryz.ntmps129
  go_wp2
  go_ret
  exact ⟨ret_bool (str_beq n q), hb⟩
set_option maxHeartbeats 1000000 in
theorem thereIndex_any (ats : List Pr) (v : Value) (q : List UInt8) (g : Nat) (w : World) (hg : w.cell? ⟨g, 0, none⟩ = some (.string (str q))) (hv : ReadsPairs w v ats) (hl : ats.length ≤ 1000000) :
    Calls Tryz.prog 99 #[v, .func (.func 129) #[] #[.pointer (some ⟨g, 0, none⟩)]] w fun e w' => (∃ r, e = .returned (.int .i64 r) ∧ decide (0 ≤ r) = Tk.has ats q) ∧ Below w.heap.size w w' := by
  obtain ⟨a, c, rfl⟩ := hv.form
  have HV := hideT hv
  have hlt := cell_lt hg
  clear hv
  go_enter Tryz.func99, Tryz.ntmps99
  go_wp2
  go_loopw [8] (fun i wr => ∃ j : Nat, i = .int .i64 j ∧ j ≤ ats.length ∧ Hid (Tk.has (ats.take j) q = false) ∧ Below w.heap.size w wr) (fun i _ => ats.length - (intOf i).toNat)
  case atStart => exact ⟨0, rfl, Nat.zero_le _, rfl, Below.refl _ _⟩
  case round =>
    obtain ⟨j, rfl, hj, HE, hB⟩ := hrel
    by_cases hjl : j < ats.length
    · have hat : ats[j]? = some ats[j] := List.getElem?_eq_getElem hjl
      obtain ⟨b, o, rfl, hc, hbl, h1, h2⟩ := HV.out.at hat
      have g1 := (hB.cell (p := ⟨b, o + j * 2, none⟩) hbl).trans h1
      have g2 := (hB.cell (p := ⟨b, o + j * 2 + 1, none⟩) hbl).trans h2
      have gg := (hB.cell (p := ⟨g, 0, none⟩) hlt).trans hg
      have hF := isThere_any ats[j].1 ats[j].2 q g wr gg
      cases hq : (ats[j].1 == q)
      · have HN : Hid (Tk.has (ats.take (j + 1)) q = false) := by
          show _ = _
          rw [has_take ats q j hjl, HE.out, hq]
          rfl
        rw [hq] at hF
        clear hat h1 h2 gg hq
        generalize ats[j] = p at *
        go_wp2_with (go_at_call 129; refine hF.mono ?_; rintro e w1 ⟨rfl, hb1⟩)
        go_roundw
        case rel => exact ⟨j + 1, by go_num, by omega, HN, hB.trans (hb1.mono hB.size)⟩
        case measure => simp [intOf]; omega
      · have HN : Hid (Tk.has ats q = true) := has_here ats q j hjl hq
        rw [hq] at hF
        clear hat h1 h2 gg hq
        generalize ats[j] = p at *
        go_wp2_with (go_at_call 129; refine hF.mono ?_; rintro e w1 ⟨rfl, hb1⟩)
        go_ret
        exact ⟨⟨_, rfl, by rw [HN.out]; simp⟩, hB.trans (hb1.mono hB.size)⟩
    · have HN : Hid (Tk.has ats q = false) := by
        have h := HE.out
        rwa [List.take_of_length_le (by omega)] at h
      go_wp2
      go_ret
      exact ⟨⟨_, rfl, by rw [HN.out]; rfl⟩, hB⟩
set_option maxHeartbeats 1000000 in
theorem thereHas_any (ats : List Pr) (v : Value) (q : List UInt8) (g : Nat) (w : World) (hg : w.cell? ⟨g, 0, none⟩ = some (.string (str q))) (hv : ReadsPairs w v ats) (hl : ats.length ≤ 1000000) :
    Calls Tryz.prog 62 #[v, .func (.func 129) #[] #[.pointer (some ⟨g, 0, none⟩)]] w fun e w' => e = .returned (.bool (Tk.has ats q)) ∧ Below w.heap.size w w' := by
  have hI := thereIndex_any ats v q g w hg hv hl
  go_enter Tryz.func62, Tryz.ntmps62
  go_wp2_with (go_at_call 99; refine hI.mono ?_; rintro e w1 ⟨⟨r, rfl, hr⟩, hb1⟩)
  go_ret
  exact ⟨ret_bool (by simp), hb1⟩
/-- One further attribute. -/
theorem step_append_A13 {w : World} {ops : Array Oper} {o : Oper} {a : Act} {K : Act → World → Prop} {Q : Exit → Act → World → Prop} {E : Prop} (hgd : o.guard = none) (s x : Operand)
    (ho : o.op = .call { callee := .builtin .append, args := #[s, x], argTypes := #[40, 40] }) (v : Value) (ks : List Pr) (hs : a.eval s = v) (hown : OwnsA w 0 v ks) (g c : Nat) (hx : a.eval x = .slice (some ⟨g, 0, none⟩) 1 c) (y : Pr) (hg : w.rangeAt g 0 [.string (str y.1), .string (str y.2)]) (hlen : ks.length ≤ 10000000)
    (h : ∀ v' w', OwnsA w' 0 v' (ks ++ [y]) → w.grownBy w' v.ownBlock → (v'.ownBlock = v.ownBlock ∨ v'.ownBlock = some w.heap.size) → K (a.put o.dst v') w') : if Region.wanted o (yielded ops a.tmps) = true then Oper.wp Tryz.prog o a w K Q else E := by
  have hw : Region.wanted o (yielded ops a.tmps) = true := by simp [Region.wanted, hgd]
  rw [if_pos hw]
  obtain ⟨i0, hi, hz0, hz1, hz2⟩ := info_parts infoAttr
  obtain ⟨v', w', r1, r2, r3, _, r5⟩ := run_append_own_at (P := Tryz.prog) w 0 40 o.type 67 i0 (.agg #[.string ByteArray.empty, .string ByteArray.empty]) 2 32 Tryz.underlying40 hi hz0 hz1 hz2 rfl (by decide) v _ _ hown ⟨g, 0, none⟩ 1 c [.string (str y.1), .string (str y.2)] rfl (fun j u hj => by
    rw [add_addr]
    exact hg j u hj) (fun u hu => by simp at hu; rcases hu with rfl | rfl <;> rfl) (by unfold maxLen; omega) (by omega) (Nat.zero_le _)
  unfold Oper.wp execOp
  simp only [ho, resolve, invoke, builtin, Sem.run_bind, Sem.run_pure, Result.andThen_ok, List.map_toArray, List.map_cons, List.map_nil, hs, hx, r1]
  exact h v' w' (OwnsPairs.of rfl rfl rfl r2) r3 r5
theorem wpList_load_A13 {ops : Array Oper} {rest : List Oper} {op : Oper} {a : Act} {w : World} {Q : Exit → Act → World → Prop} (hw : Region.wanted op (yielded ops a.tmps) = true) (x : Operand) (ho : op.op = .load 67 x)
    (b o : Nat) (hx : a.eval x = .pointer (some ⟨b, o, none⟩)) (x0 x1 : Value) (hc : w.rangeAt b o [x0, x1])
    (h : wpList Tryz.prog ops Q rest (a.put op.dst (.agg #[x0, x1])) w) : wpList Tryz.prog ops Q (op :: rest) a w :=
  wpList_step fun _ hK => by
    rw [if_pos hw]
    exact wp_load_mid _ x ho b o hx [x0, x1] _ hc Tryz.underlying67 rfl sizeA (hK _ _ h)
theorem range_two {w : World} {b o : Nat} {x0 x1 : Value} (h0 : w.cell? ⟨b, o, none⟩ = some x0) (h1 : w.cell? ⟨b, o + 1, none⟩ = some x1) : w.rangeAt b o [x0, x1] := by
  intro j u hj
  rcases j with _ | _ | j
  · cases hj
    exact h0
  · cases hj
    exact h1
  · simp at hj
theorem addAll_take (ds bs : List Pr) (j : Nat) (x : Pr) (h : bs[j]? = some x) : Tre.addAll ds (bs.take (j + 1)) = Tk.add (Tre.addAll ds (bs.take j)) x := by
  unfold Tre.addAll
  rw [List.take_add_one, h, List.foldl_append]
  rfl
theorem addAll_le (ds bs : List Pr) (h : ds.length ≤ 64) : (Tre.addAll ds bs).length ≤ 64 := Tre.addAll_len bs ds h
section
variable {w : World} {T : Nat → Prop} {bb mg : Nat} {nv ov : Value} {ps : List PN} {op : List Nat} {F : List UInt8 → Option Nat}
theorem set_set13 {α : Type} (l : List α) (i : Nat) (x y : α) : (l.set i x).set i y = l.set i y := by simp
set_option maxHeartbeats 4000000 in
set_option maxRecDepth 100000 in
theorem addAttrs_any {g c : Nat} (h : BAt w T bb mg (.slice (some ⟨g, 0, none⟩) ps.length c) ov ps op F) (hc : ps.length ≤ c) (hpl : ps.length ≤ 4096) {i : Nat} {n : Nd} {va vk : Value} (hp : ps[i]? = some (n, va, vk)) (hna : n.attrs.length ≤ 64) (a1 : Option Addr) (d1 : Nat) (bs : List Pr) (hR : ∀ W, OwnT T w W → ReadsPairs W (.slice a1 bs.length d1) bs) (hbl : bs.length ≤ 64) :
    Calls Tryz.prog 93 #[.pointer (some ⟨bb, 0, none⟩), .int .i64 (i : Int), .slice a1 bs.length d1] w fun e w' => e = .returned (.tuple #[]) ∧ BPost T bb mg w ⟨(ps.map (·.1)).modify i (fun m => { m with attrs := Tre.addAll m.attrs bs }), op⟩ F w' := by
  have hil : i < ps.length := (List.getElem?_eq_some_iff.1 hp).1
  have hmf : ∀ (fn : Fn) (first cap : Array Value) (w : World), (Instr.makeFunc fn first cap).run Tryz.prog w = .ok (.func fn first cap) w := fun _ _ _ _ => rfl
  have c0 : w.cell? ⟨bb, 0, none⟩ = some (.slice (some ⟨g, 0, none⟩) ps.length c) := Lib.cell_of_heap h.blk 0
  have H := hideT h
  have HR := hideT hR
  have HP := hideT hp
  have HLow := hideT h.low
  have hRo : ReadsPairs w (.slice a1 bs.length d1) bs := hR w (OwnT.refl _ _)
  clear h hR hp
  go_enter Tryz.func93, Tryz.ntmps93
  go_wp2
  go_loopw [18] (fun s wr => ∃ j : Nat, s = .int .i64 j ∧ j ≤ bs.length ∧ Hid (∃ T' va', BAt wr T' bb mg (.slice (some ⟨g, 0, none⟩) ps.length c) ov (ps.set i ({ n with attrs := Tre.addAll n.attrs (bs.take j) }, va', vk)) op F ∧ OwnT T w wr ∧ ∀ k, T' k → T k ∨ w.heap.size ≤ k)) (fun s _ => bs.length - (intOf s).toNat)
  case atStart =>
    refine ⟨0, rfl, Nat.zero_le _, T, va, ?_, OwnT.refl _ _, fun k hk => .inl hk⟩
    show BAt w T bb mg (.slice (some ⟨g, 0, none⟩) ps.length c) ov (ps.set i (n, va, vk)) op F
    rw [set_same ps i _ HP.out]
    exact H.out
  case round =>
    obtain ⟨j, rfl, hj, HI⟩ := hrel
    by_cases hjl : j < bs.length
    · obtain ⟨T', va', hB, hO, hT'⟩ := HI.out
      have hx : bs[j]? = some bs[j] := List.getElem?_eq_getElem hjl
      obtain ⟨b, o, e1, hcc, hblt, x1, x2⟩ := (HR.out wr hO).at hx
      subst e1
      have HX := hideT hx
      generalize bs[j]'hjl = x at *
      obtain ⟨xn, xv⟩ := x
      simp only at x1 x2
      have hpj : (ps.set i ({ n with attrs := Tre.addAll n.attrs (bs.take j) }, va', vk))[i]? = some ({ n with attrs := Tre.addAll n.attrs (bs.take j) }, va', vk) := by
        rw [List.getElem?_set, if_pos rfl, if_pos hil]
      have hle : (Tre.addAll n.attrs (bs.take j)).length ≤ 64 := addAll_le _ _ hna
      have HAdd := hideT (addAll_take n.attrs bs j _ hx)
      have HMore := hideT (fun y => set_set13 ps i ({ n with attrs := Tre.addAll n.attrs (bs.take j) }, va', vk) y)
      have hvA := hB.ats i _ hpj
      obtain ⟨aa, ac, e2⟩ := (OwnsPairs.reads hvA).form
      simp only at e2 hvA
      subst e2
      have HPJ := hideT hpj
      have hb1 : Below wr.heap.size wr (wr.alloc (.cells #[.string (str xn), .string (str xv)] 67)) := (Below.refl _ _).alloc (Nat.le_refl _) _
      have hBA := hB.below hb1
      have hO1 : OwnT T w (wr.alloc (.cells #[.string (str xn), .string (str xv)] 67)) := hO.trans (OwnT.of (T := T) hb1) (fun k h => .inl h)
      have rX := hideT (range_two x1 x2)
      have ca := (hBA.cell hpj (i := 2) rfl).1
      have hhA := heap_new wr (.cells #[.string (str xn), .string (str xv)] 67)
      have nameC := Lib.cell_of_heap hhA 0
      have hrA := OwnsPairs.reads (hBA.ats i _ hpj)
      have HLowT := hideT hB.low
      simp only at ca hrA
      clear hB hO hb1 x1 x2 hx HI hvA
      generalize hAd : Tre.addAll n.attrs (bs.take j) = ats at *
      have HHas := hideT (thereHas_any ats _ xn wr.heap.size _ nameC hrA (by omega))
      have HEnd : Hid (∀ W, (∃ T2 va2, BAt W T2 bb mg (.slice (some ⟨g, 0, none⟩) ps.length c) ov (ps.set i ({ n with attrs := Tk.add ats (xn, xv) }, va2, vk)) op F ∧ OwnT T w W ∧ ∀ k, T2 k → T k ∨ w.heap.size ≤ k) → ∃ T' va', BAt W T' bb mg (.slice (some ⟨g, 0, none⟩) ps.length c) ov (ps.set i ({ n with attrs := Tre.addAll n.attrs (bs.take (j + 1)) }, va', vk)) op F ∧ OwnT T w W ∧ ∀ k, T' k → T k ∨ w.heap.size ≤ k) := fun W hW => by
        rw [HAdd.out]
        exact hW
      clear hAd hrA nameC
      by_cases h64 : ats.length < 64
      · have q64 : (ats.length : Int) < 64 := by omega
        cases hh : Tk.has ats xn
        · have HAd2 : Hid (Tk.add ats (xn, xv) = ats ++ [(xn, xv)]) := by
            show _ = _
            unfold Tk.add
            rw [if_pos ⟨hh, h64⟩]
          rw [hh] at HHas
          clear hh
          go_upto_region 6 with (first
            | ((with_reducible show wpList _ _ _ ({ op := Op.load 67 _, .. } :: _) _ _); refine wpList_load_A13 (by rfl) _ rfl b (o + j * 2) rfl _ _ rX.out ?_)
            | (go_at_call 62; refine HHas.out.mono ?_; rintro e w3 ⟨rfl, hb3⟩))
          have hB3 := hBA.below hb3
          have hO3 := hO1.trans (OwnT.of (T := T) hb3) (fun k h => .inl h)
          have hs1 : (wr.alloc (.cells #[.string (str xn), .string (str xv)] 67)).heap.size = wr.heap.size + 1 := by simp
          have hg3 := (hb3.block wr.heap.size (by omega)).trans hhA
          have hs3 := hb3.size
          have hgT : ¬ T' wr.heap.size := fun h => by have := HLowT.out _ h; omega
          have hgs : wr.heap.size < w3.heap.size := by omega
          clear hBA hO1 hhA hb3 HHas ca hs1 hs3
          generalize wr.heap.size = gb at *
          obtain ⟨S, hS1⟩ : ∃ S : World → Prop, ∀ W, S W ↔ (W.cell? ⟨g, i * 6 + 2, none⟩ = some (.slice aa ats.length ac) ∧ W.frozen? ⟨g, i * 6 + 2, none⟩ = false ∧ W.rangeAt gb 0 [.string (str xn), .string (str xv)]) := ⟨_, fun _ => Iff.rfl⟩
          have hdr : Below w3.heap.size w3 w3.drew := (Below.refl _ _).drew
          have hBX := hB3.below hdr
          have hgX := (hdr.block gb hgs).trans hg3
          have hOX : OwnT T w w3.drew := hO3.trans (OwnT.of (T := T) hdr) (fun k h => .inl h)
          have hsX : gb < w3.drew.heap.size := hgs
          refine wp_region_L (S := S) 10 (by kernel_rfl) ((hS1 _).2 ⟨(hBX.cell HPJ.out (i := 2) rfl).1, (hBX.cell HPJ.out (i := 2) rfl).2, range_two (Lib.cell_of_heap hgX 0) (Lib.cell_of_heap hgX 1)⟩) (fun hS => ?_)
          clear hdr hB3 hg3 hO3 hgs
          generalize w3.drew = X at *
          refine takeL 0 38 (.pointer (some ⟨g, i * 6, none⟩)) rfl rfl rfl (by kernel_rfl) (by kernel_rfl) (by kernel_rfl) (by kernel_rfl) (fun _ _ _ h => h) (Or.inl ⟨by kernel_rfl, fun W _ => by go_simp⟩) hS ?_
          simp only [Act.put, List.setIfInBounds_toArray, List.set_cons_zero, List.set_cons_succ]
          refine takeL 1 39 (.pointer (some ⟨g, i * 6, none⟩)) rfl rfl rfl (by kernel_rfl) (by kernel_rfl) (by kernel_rfl) (by kernel_rfl) (fun _ _ _ h => h) (Or.inl ⟨by kernel_rfl, fun W _ => by go_simp⟩) hS ?_
          simp only [Act.put, List.setIfInBounds_toArray, List.set_cons_zero, List.set_cons_succ]
          refine takeL 2 40 (.pointer (some ⟨g, i * 6, none⟩)) rfl rfl rfl (by kernel_rfl) (by kernel_rfl) (by kernel_rfl) (by kernel_rfl) (fun _ _ _ h => h) (Or.inl ⟨by kernel_rfl, fun W _ => by go_simp⟩) hS ?_
          simp only [Act.put, List.setIfInBounds_toArray, List.set_cons_zero, List.set_cons_succ]
          refine takeL 3 41 (.pointer (some ⟨g, i * 6 + 2, none⟩)) rfl rfl rfl (by kernel_rfl) (by kernel_rfl) (by kernel_rfl) (by kernel_rfl) (fun _ _ _ h => h) (Or.inl ⟨by kernel_rfl, fun W _ => by go_simp⟩) hS ?_
          simp only [Act.put, List.setIfInBounds_toArray, List.set_cons_zero, List.set_cons_succ]
          refine takeL 4 42 (.slice aa ats.length ac) rfl rfl rfl (by kernel_rfl) (by kernel_rfl) (by kernel_rfl) (by kernel_rfl) (fun _ _ _ h => h) (Or.inl ⟨by kernel_rfl, fun W hW => by have hc := (((hS1 W).1 hW).1); go_simp⟩) hS ?_
          simp only [Act.put, List.setIfInBounds_toArray, List.set_cons_zero, List.set_cons_succ]
          refine takeL 5 43 (.agg #[.string (str xn), .string (str xv)]) rfl rfl rfl (by kernel_rfl) (by kernel_rfl) (by kernel_rfl) (by kernel_rfl) (fun _ _ _ h => h) (yieldsIf_load_mid (by kernel_rfl) 67 (Operand.tmp 8) rfl gb 0 (by kernel_rfl) [.string (str xn), .string (str xv)] _ (fun W hW => ((hS1 W).1 hW).2.2) Tryz.underlying67 rfl sizeA) hS ?_
          simp only [Act.put, List.setIfInBounds_toArray, List.set_cons_zero, List.set_cons_succ]
          refine wpAnyL_one (i := 6) (by kernel_rfl) rfl (fun K hK => ?_)
          go_simp
          have hbA : Below X.heap.size X (X.alloc (.cells #[.string (str xn), .string (str xv)] 67)) := (Below.refl _ _).alloc (Nat.le_refl _) _
          have hBY := hBX.below hbA
          have rA : (X.alloc (.cells #[.string (str xn), .string (str xv)] 67)).rangeAt X.heap.size 0 [.string (str xn), .string (str xv)] := range_two (Lib.cell_of_heap (heap_new X _) 0) (Lib.cell_of_heap (heap_new X _) 1)
          have hgY := (hbA.block gb (by omega)).trans hgX
          have hOY := hOX.trans (OwnT.of (T := T) hbA) (fun k h => .inl h)
          have hS9 : S (X.alloc (.cells #[.string (str xn), .string (str xv)] 67)) := (hS1 _).2 ⟨(hBY.cell HPJ.out (i := 2) rfl).1, (hBY.cell HPJ.out (i := 2) rfl).2, range_two (Lib.cell_of_heap hgY 0) (Lib.cell_of_heap hgY 1)⟩
          refine hK.out _ _ (fun _ => hS9) ?_
          have hS := hS9
          have hsY : X.heap.size ≤ (X.alloc (.cells #[.string (str xn), .string (str xv)] 67)).heap.size := hbA.size
          clear hS9 hK K hbA
          generalize hXs : X.heap.size = xs at *
          generalize X.alloc (.cells #[.string (str xn), .string (str xv)] 67) = Y at *
          refine wpAnyL_one (i := 7) (by kernel_rfl) rfl (fun K hK => ?_)
          refine step_append_A13 rfl (.tmp 42) (.tmp 44) rfl (.slice aa ats.length ac) ats (by kernel_rfl) (hBY.ats i _ HPJ.out) xs 1 (by kernel_rfl) (xn, xv) rA (by omega) ?_
          intro v8 w8 h8 g8 hat8
          obtain ⟨xa8, xc8, e8⟩ := (OwnsPairs.reads h8).form
          rw [List.length_append, List.length_singleton] at e8
          subst e8
          have hsl := slot_ats (.slice (some ⟨g, 0, none⟩) ps.length c) ov HPJ.out
          have hkg : w8.heap[g]? = Y.heap[g]? := g8.block g (hBY.low _ (gB hBY).1) (fun e => hBY.apart 0 _ _ _ rfl hsl (by omega) g rfl e.symm)
          have hkb : w8.heap[gb]? = Y.heap[gb]? := g8.block gb (by omega) (fun e => hgT (hBY.off _ (List.mem_of_getElem? hsl) gb e.symm).1)
          have c8 : w8.cell? ⟨g, i * 6 + 2, none⟩ = some (.slice aa ats.length ac) := by
            rw [World.cell?_of_block hkg]
            exact (hBY.cell HPJ.out (i := 2) rfl).1
          have f8 : w8.frozen? ⟨g, i * 6 + 2, none⟩ = false := by
            rw [World.frozen?_of_block hkg]
            exact (hBY.cell HPJ.out (i := 2) rfl).2
          have hg8 := hkb.trans hgY
          have hS9 : S w8 := (hS1 _).2 ⟨c8, f8, range_two (Lib.cell_of_heap hg8 0) (Lib.cell_of_heap hg8 1)⟩
          refine hK.out _ _ (fun _ => hS9) ?_
          have hS := hS9
          clear hS9 hK K
          refine wpAnyL_one (i := 8) (by kernel_rfl) rfl (fun K hK => ?_)
          go_simp
          refine hK.out _ _ (fun _ => hS) ?_
          clear hK K
          refine wpAnyL_one (i := 9) (by kernel_rfl) rfl (fun K hK => ?_)
          go_simp
          refine hK.out _ _ (fun _ => hS) ?_
          clear hK K
          refine wpAnyL_one (i := 10) (by kernel_rfl) rfl (fun K hK => ?_)
          go_simp
          refine hK.out _ _ (fun h => absurd rfl h) ?_
          clear hK K
          refine wpAnyL_done (by kernel_rfl) ?_ _
          obtain ⟨hB9, hO9⟩ := hBY.attrs HPJ.out h8 g8 hat8
          rw [HMore.out] at hB9
          have HQ : Hid (∃ T2 va2, BAt (w8.setCell ⟨g, i * 6 + 2, none⟩ (.slice xa8 (ats.length + 1) xc8)) T2 bb mg (.slice (some ⟨g, 0, none⟩) ps.length c) ov (ps.set i ({ n with attrs := Tk.add ats (xn, xv) }, va2, vk)) op F ∧ OwnT T w (w8.setCell ⟨g, i * 6 + 2, none⟩ (.slice xa8 (ats.length + 1) xc8)) ∧ ∀ k, T2 k → T k ∨ w.heap.size ≤ k) := by
            rw [HAd2.out]
            have hOs := hOY.size
            refine ⟨_, _, hB9, hOY.trans hO9 hT', fun k hk => ?_⟩
            rcases hk with hk | hk
            · exact hT' k hk
            · exact .inr (by omega)
          have HQ2 := hideT (HEnd.out _ HQ.out)
          clear hB9 hO9 hBY h8 g8 hat8 hS hS1 HQ
          go_wp2
          go_roundw
          case rel => exact ⟨j + 1, by go_num, by omega, HQ2⟩
          case measure => simp [intOf]; omega
        · have HAd2 : Hid (Tk.add ats (xn, xv) = ats) := by
            show _ = _
            unfold Tk.add
            rw [if_neg (by rw [hh]; simp)]
          rw [hh] at HHas
          have HQ := hideT (fun W (hb : Below (wr.alloc (.cells #[.string (str xn), .string (str xv)] 67)).heap.size (wr.alloc (.cells #[.string (str xn), .string (str xv)] 67)) W) => HEnd.out W (by
            rw [HAd2.out]
            exact ⟨T', _, hBA.below hb, hO1.trans (OwnT.of (T := T) hb) (fun k h => .inl h), hT'⟩))
          clear hh hBA hO1
          go_wp2_with (first
            | ((with_reducible show wpList _ _ _ ({ op := Op.load 67 _, .. } :: _) _ _); refine wpList_load_A13 (by rfl) _ rfl b (o + j * 2) rfl _ _ rX.out ?_)
            | (go_at_call 62; refine HHas.out.mono ?_; rintro e w3 ⟨rfl, hb3⟩))
          go_roundw
          case rel => exact ⟨j + 1, by go_num, by omega, HQ.out _ hb3⟩
          case measure => simp [intOf]; omega
      · have q64 : ¬ (ats.length : Int) < 64 := by omega
        have HAd2 : Hid (Tk.add ats (xn, xv) = ats) := by
          show _ = _
          unfold Tk.add
          rw [if_neg (fun h => h64 h.2)]
        have HQ := hideT (HEnd.out (wr.alloc (.cells #[.string (str xn), .string (str xv)] 67)) (by
          rw [HAd2.out]
          exact ⟨T', _, hBA, hO1, hT'⟩))
        clear hBA hO1 h64 HHas
        go_wp2_with (first
          | ((with_reducible show wpList _ _ _ ({ op := Op.load 67 _, .. } :: _) _ _); refine wpList_load_A13 (by rfl) _ rfl b (o + j * 2) rfl _ _ rX.out ?_))
        go_roundw
        case rel => exact ⟨j + 1, by go_num, by omega, HQ⟩
        case measure => simp [intOf]; omega
    · have hje : j = bs.length := by omega
      subst hje
      obtain ⟨T', va', hB, hO, hT'⟩ := HI.out
      rw [List.take_length] at hB
      have hM := map_set13 ps i (n, va, vk) ({ n with attrs := Tre.addAll n.attrs bs }, va', vk) (fun m => { m with attrs := Tre.addAll m.attrs bs }) HP.out rfl
      have HF : Hid (BPost T bb mg w ⟨(ps.map (·.1)).modify i (fun m => { m with attrs := Tre.addAll m.attrs bs }), op⟩ F wr) := ⟨T', _, _, _, hB, hM, hO, hT'⟩
      clear hB hO hT' hM HI
      go_wp2
      go_end0
      exact ⟨rfl, HF.out⟩
end
end Go.Proofs.YtiodaahncadodaaGreatDoor
/- The map of the first html and body: look-ups and stores. -/
namespace Go.Proofs.YtiodaahncadodaaGreatDoor
open Go.RowKit Go.Maps Go.WideMaps
theorem zero_int13 (w : World) : (zeroValue 3).run Tryz.prog w = .ok (.int .i64 0) w := by
  obtain ⟨i0, hi, hz0, hz1, hz2⟩ := info_parts infoInt13
  simp [zeroValue, typeInfo, hi, hz0, Result.andThen]
theorem lawS13 : Keyed Tryz.prog 9 := string_keyed Tryz.underlying9
theorem key13 {l : List UInt8} (hl : l.length ≤ 1000000000) : keyOf Tryz.prog 9 (.string (str l)) = some (.string l) := by
  have := keyOf_string_mk (s := str l) Tryz.underlying9 (by rw [str_size]; unfold maxLen; omega)
  rw [str_data] at this
  exact this
theorem FAt.look {w : World} {mg c : Nat} {F : List UInt8 → Option Nat} (h : FAt w mg c F) {l : List UInt8} (hl : l.length ≤ 1000000000) :
    (Instr.lookup 52 (.map (some mg)) (.string (str l)) true).run Tryz.prog w = .ok (.tuple #[.int .i64 (((F l).getD 0 : Nat) : Int), .bool (F l).isSome]) w := by
  obtain ⟨n, D, hn, hown, hF⟩ := h
  obtain ⟨v, ps, hrun, hv⟩ := hown.look_ok lawS13 Tryz.underlying52 (zero_int13 w) (plainElem_int Tryz.underlying3 (by decide)) (key13 hl)
  obtain ⟨x, rfl, hx, _⟩ := plainElem_int_inv Tryz.underlying3 hv
  have hx2 : D.atKey (.string l) (.lit (.int .i64 0)) = .lit (.int .i64 x) := congrArg Prod.fst hx
  have h1 := (hF l).1
  rw [hrun, h1]
  cases hf : F l with
  | none =>
    rw [hf] at h1
    rw [atKey_of_not_has h1] at hx2
    cases hx2
    rfl
  | some i =>
    rw [(hF l).2 i hf] at hx2
    cases hx2
    rfl
theorem FAt.put {w : World} {mg c : Nat} {F : List UInt8 → Option Nat} (h : FAt w mg c F) (hc : c ≤ 1000000) {l : List UInt8} (hl : l.length ≤ 1000000000) (i : Nat) (hi : i ≤ 1000000) :
    ∃ w', (Instr.mapUpdate 52 (.map (some mg)) (.string (str l)) (.int .i64 (i : Int))).run Tryz.prog w = .ok () w' ∧ FAt w' mg (c + 1) (fun t => if t = l then some i else F t) ∧ w.grownBy w' (some mg) := by
  obtain ⟨n, D, hn, hown, hF⟩ := h
  have hwf : (Lit.int .i64 (i : Int)).wf = true := by
    simp only [Lit.wf, Bool.and_eq_true, decide_eq_true_eq]
    exact ⟨by show (-9223372036854775808 : Int) ≤ _; omega, by show _ ≤ (9223372036854775807 : Int); omega⟩
  obtain ⟨w', hr, h1, h2⟩ := hown.update lawS13 Tryz.underlying52 (by unfold maxLen; omega) (key13 hl) (plainElem_int Tryz.underlying3 hwf)
  have htidy := hown.tidy lawS13
  refine ⟨w', hr, ⟨n + 1, _, by omega, h1, fun t => ?_⟩, h2⟩
  by_cases e : t = l
  · subst e
    have e1 : (fun t_1 => if t_1 = t then some i else F t_1) t = some i := if_pos rfl
    rw [e1]
    refine ⟨has_put_same (k := .string t) htidy.isMap trivial _, fun k hk => ?_⟩
    cases hk
    exact atKey_put_same (k := .string t) htidy.isMap trivial _ _
  · have hne : (Lit.string t) ≠ .string l := fun e2 => e (Lit.string.inj e2)
    have e1 : (fun t_1 => if t_1 = l then some i else F t_1) t = F t := if_neg e
    rw [e1, has_put_other hne]
    refine ⟨(hF t).1, fun k hk => ?_⟩
    rw [atKey_put_other hne]
    exact (hF t).2 k hk
end Go.Proofs.YtiodaahncadodaaGreatDoor
