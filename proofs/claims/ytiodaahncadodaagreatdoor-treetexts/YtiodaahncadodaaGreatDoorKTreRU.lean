/- Texts laid as one. -/
import Derived.Test.YtiodaahncadodaaGreatDoorKTreOQ
import Derived.Test.YtiodaahncadodaaGreatDoorKTkEG
/- The contract of a builder's start. -/
set_option linter.unusedVariables false
set_option linter.unusedSimpArgs false
namespace Go.Proofs.YtiodaahncadodaaGreatDoor
open Go.RowKit Go.Maps Go.WideMaps
def AddT (T : Nat → Prop) (v : Value) : Nat → Prop := fun k => T k ∨ v.ownBlock = some k
theorem OwnT.wider {T T' : Nat → Prop} {w w' : World} (h : OwnT T w w') (hT : ∀ k, T k → T' k) : OwnT T' w w' := ⟨h.os, h.tape, h.output, h.size, fun k hk hn => h.block k hk (fun ht => hn (hT k ht))⟩
theorem BPost.wider {T T' : Nat → Prop} {bb mg : Nat} {w w' : World} {b : Tre.St} {F : List UInt8 → Option Nat} (h : BPost T bb mg w b F w') (hT : ∀ k, T k → T' k) : BPost T' bb mg w b F w' := by
  obtain ⟨T2, nv, ov, ps, h1, h2, h3, h4⟩ := h
  exact ⟨T2, nv, ov, ps, h1, h2, h3.wider hT, fun k hk => (h4 k hk).imp (hT k) id⟩
theorem step_map13 {w : World} {ops : Array Oper} {o : Oper} {a : Act} {K : Act → World → Prop} {Q : Exit → Act → World → Prop} {E : Prop} (hgd : o.guard = none) (m x v : Operand) (ho : o.op = .mapUpdate 52 m x v)
    {mg c : Nat} {F : List UInt8 → Option Nat} (h : FAt w mg c F) (hc : c ≤ 1000000) {l : List UInt8} (hl : l.length ≤ 1000000000) (i : Nat) (hi : i ≤ 1000000) (hm : a.eval m = .map (some mg)) (hx : a.eval x = .string (str l)) (hv : a.eval v = .int .i64 (i : Int))
    (hK : ∀ w', FAt w' mg (c + 1) (fun t => if t = l then some i else F t) → w.grownBy w' (some mg) → K (a.put o.dst undef) w') : if Region.wanted o (yielded ops a.tmps) = true then Oper.wp Tryz.prog o a w K Q else E := by
  have hw : Region.wanted o (yielded ops a.tmps) = true := by simp [Region.wanted, hgd]
  rw [if_pos hw]
  obtain ⟨w', hr, h1, h2⟩ := h.put hc hl i hi
  unfold Oper.wp
  simp [execOp, ho, hm, hx, hv, hr, Result.andThen]
  exact hK w' h1 h2
theorem lay_err {b : Tre.St} {n : Nd} {k : Nat} (h : Tre.lay b n = .error k) : k = 5 ∨ k = 8 := by
  unfold Tre.lay at h
  split at h
  · cases h
    exact .inl rfl
  split at h
  · cases h
    exact .inr rfl
  · cases h
theorem firstN_put {b b2 : Tre.St} {l : List UInt8} {a : List Pr} (h : Tre.lay b ⟨2, l, a, [], 0, []⟩ = .ok b2) (hl : Tre.isHB l = true) (h0 : Tre.firstN b.nodes l = none) : Tre.firstN b2.nodes = fun t => if t = l then some b.nodes.length else Tre.firstN b.nodes t := by
  funext t
  unfold Tre.firstN at *
  rw [if_pos hl] at h0
  by_cases ht : t = l
  · subst ht
    rw [if_pos hl, if_pos rfl, Tre.lay_first h t, h0]
    simp
  · rw [if_neg ht]
    by_cases hn : Tre.isHB t = true
    · rw [if_pos hn, if_pos hn, Tre.lay_first h t]
      cases Tre.findN b.nodes t with
      | some i => rfl
      | none =>
        have : (l == t) = false := beq_eq_false_iff_ne.2 (fun e => ht e.symm)
        simp [this]
    · rw [if_neg hn, if_neg hn]
theorem cnt_put {F : List UInt8 → Option Nat} {l : List UInt8} (i : Nat) (hl : Tre.isHB l = true) (h0 : F l = none) : cntF (fun t => if t = l then some i else F t) = cntF F + 1 := by
  unfold cntF
  rw [Tre.isHB_iff] at hl
  rcases hl with rfl | rfl
  · rw [h0]
    have : ¬ (Tre.body = Tre.html) := by decide
    simp [this]
    omega
  · rw [h0]
    have : ¬ (Tre.html = Tre.body) := by decide
    simp [this]
theorem cnt_le (F : List UInt8 → Option Nat) : cntF F ≤ 2 := by
  unfold cntF
  split <;> split <;> omega
theorem closes_len (l : List UInt8) : (Tre.closes l).1.length ≤ 10 ∧ (Tre.closes l).2.length ≤ 10 := by
  unfold Tre.closes
  repeat' split
  all_goals decide
theorem info_str13 : (Tryz.prog.info? 9).map (fun i => (i.zero, i.size, i.bytes)) = some (some (.string ByteArray.empty), 1, 16) := by kernel_rfl
section
variable {w : World} {T : Nat → Prop} {bb mg : Nat} {nv ov : Value} {ps : List PN} {op : List Nat}
set_option maxHeartbeats 8000000 in
set_option maxRecDepth 100000 in
theorem Tstart_any {M : Nat} (h : BAt w T bb mg nv ov ps op (Tre.firstN (ps.map (·.1)))) (hOk : Tre.Ok ⟨ps.map (·.1), op⟩ M) (l : List UInt8) (hl : l.length ≤ 1000000000) (ats : List Pr) (hats : ats.length ≤ 64) (aa : Option Addr) (ac : Nat) (hva : OwnsA w 0 (.slice aa ats.length ac) ats) (hvf : ∀ k, (Value.slice aa ats.length ac).ownBlock = some k → ¬ T k) (kd : Int) (sf : Bool) (x : List UInt8) :
    Calls Tryz.prog 53 #[.pointer (some ⟨bb, 0, none⟩), tokI kd l (.slice aa ats.length ac) sf x] w (SPost (AddT T (.slice aa ats.length ac)) bb mg w fst13 (Tre.startT ⟨ps.map (·.1), op⟩ l ats)) := by
  have hlm : (ps.map (·.1)).length = ps.length := List.length_map ..
  have hll := hOk.len
  have ho := hOk.op1
  simp only [hlm] at hll ho
  obtain ⟨g, c, rfl, hc⟩ := h.nform (by omega)
  have hb0 : Below w.heap.size w (w.alloc (.cells (kCells kd l (.slice aa ats.length ac) sf x) 56)) := (Below.refl _ w).alloc (Nat.le_refl _) _
  have htk : KAt (w.alloc (.cells (kCells kd l (.slice aa ats.length ac) sf x) 56)) w.heap.size (kCells kd l (.slice aa ats.length ac) sf x) := heap_new w _
  have hs0 : (w.alloc (.cells (kCells kd l (.slice aa ats.length ac) sf x) 56)).heap.size = w.heap.size + 1 := by simp
  obtain ⟨W0, hW0⟩ : ∃ W, w.alloc (.cells (kCells kd l (.slice aa ats.length ac) sf x) 56) = W := ⟨_, rfl⟩
  rw [hW0] at hb0 htk hs0
  have HW0 := hideT hW0
  have h0 := h.below hb0
  have hva0 := OwnsPairs.below hva hb0
  have HLow := hideT h.low
  have hvlt : ∀ k, (Value.slice aa ats.length ac).ownBlock = some k → k < w.heap.size := fun k e => (World.ownsRow.lt hva k e).2
  have c2 : W0.cell? ⟨bb, 2, none⟩ = some (.map (some mg)) := Lib.cell_of_heap h0.blk 2
  have tn := Lib.cell_of_heap htk 1
  have ta := Lib.cell_of_heap htk 2
  have hB0 : ∀ m, Below W0.heap.size W0 (W0.drewN m) := fun m => bel_quiet ⟨m, rfl⟩
  obtain ⟨S, hS1⟩ : ∃ S : World → Prop, ∀ W, S W ↔ ∃ m, W = W0.drewN m := ⟨_, fun _ => Iff.rfl⟩
  obtain ⟨tb, htb⟩ : ∃ tb, w.heap.size = tb := ⟨_, rfl⟩
  have HTB := hideT htb
  have hLook := fun m => (h0.mp.keep (w' := W0.drewN m) rfl).look hl
  cases hF : Tre.firstN (ps.map (·.1)) l with
  | some i =>
    have hst : Tre.startT ⟨ps.map (·.1), op⟩ l ats = .ok ⟨(ps.map (·.1)).modify i (fun m => { m with attrs := Tre.addAll m.attrs ats }), op⟩ := by
      unfold Tre.startT
      rw [hF]
    rw [hst]
    have hi : i < ps.length := by
      unfold Tre.firstN at hF
      split at hF
      · have := Tre.findN_some hF
        rwa [hlm] at this
      · cases hF
    obtain ⟨p, hp⟩ : ∃ p, ps[i]? = some p := ⟨_, List.getElem?_eq_getElem hi⟩
    obtain ⟨n, va, vk⟩ := p
    have hn64 := hOk.ats n (ps_nd hOk hp)
    have HAA := hideT (fun m => addAttrs_any (h0.below (hB0 m)) hc (by omega) hp hn64 aa ac ats (fun W hO => OwnsPairs.reads (t := 67) (B := 0) (row_keepK (OwnsPairs.below hva0 (hB0 m)) (fun k e hk => hO.block k hk (hvf k e)))) hats)
    have hLk : ∀ m, (Instr.lookup 52 (.map (some mg)) (.string (str l)) true).run Tryz.prog (W0.drewN m) = .ok (.tuple #[.int .i64 (i : Int), .bool true]) (W0.drewN m) := fun m => by
      have := hLook m
      rw [hF] at this
      exact this
    have HFin : Hid (∀ m w', BPost T bb mg (W0.drewN m) ⟨(ps.map (·.1)).modify i (fun m => { m with attrs := Tre.addAll m.attrs ats }), op⟩ (Tre.firstN (ps.map (·.1))) w' → SRest (AddT T (.slice aa ats.length ac)) bb mg w fst13 (.ok ⟨(ps.map (·.1)).modify i (fun m => { m with attrs := Tre.addAll m.attrs ats }), op⟩) 0 w') := fun m w' hp => by
      refine ⟨rfl, ?_⟩
      show BPost _ bb mg w _ (Tre.firstN ((ps.map (·.1)).modify i _)) w'
      rw [firstN_modify _ _ (fun m => { m with attrs := Tre.addAll m.attrs ats }) (fun m => ⟨rfl, rfl⟩)]
      exact (hp.base (OwnT.of (bel hb0 (hB0 m)))).wider (fun k h => .inl h)
    clear h h0 hva hva0 hF hLook hst hp hOk htk hb0 hvf hW0
    rw [htb] at tn ta hs0
    go_enter Tryz.func53, Tryz.ntmps53
    go_upto_region 1 with fail
    rw [HW0.out]
    (try rw [HTB.out])
    refine wp_region_held_drew (S := S) (by kernel_rfl) ((hS1 _).2 ⟨1, rfl⟩) (fun hS => ?_)
    refine takeH12 0 12 (.pointer (some ⟨bb, 0, none⟩)) rfl rfl (by kernel_rfl) (by kernel_rfl) (by kernel_rfl) (fun _ _ _ h => h) (Or.inl ⟨by kernel_rfl, fun W _ => by go_simp⟩) hS ?_
    simp only [Act.put, List.setIfInBounds_toArray, List.set_cons_zero, List.set_cons_succ]
    refine takeH12 1 13 (.pointer (some ⟨bb, 0, none⟩)) rfl rfl (by kernel_rfl) (by kernel_rfl) (by kernel_rfl) (fun _ _ _ h => h) (Or.inl ⟨by kernel_rfl, fun W _ => by go_simp⟩) hS ?_
    simp only [Act.put, List.setIfInBounds_toArray, List.set_cons_zero, List.set_cons_succ]
    refine takeH12 2 14 (.pointer (some ⟨bb, 2, none⟩)) rfl rfl (by kernel_rfl) (by kernel_rfl) (by kernel_rfl) (fun _ _ _ h => h) (Or.inl ⟨by kernel_rfl, fun W _ => by go_simp⟩) hS ?_
    simp only [Act.put, List.setIfInBounds_toArray, List.set_cons_zero, List.set_cons_succ]
    refine takeH12 3 15 (.map (some mg)) rfl rfl (by kernel_rfl) (by kernel_rfl) (by kernel_rfl) (fun _ _ _ h => h) (Or.inl ⟨by kernel_rfl, fun W hW => by obtain ⟨m, rfl⟩ := (hS1 W).1 hW; go_simp⟩) hS ?_
    simp only [Act.put, List.setIfInBounds_toArray, List.set_cons_zero, List.set_cons_succ]
    refine takeH12 4 16 (.pointer (some ⟨tb, 1, none⟩)) rfl rfl (by kernel_rfl) (by kernel_rfl) (by kernel_rfl) (fun _ _ _ h => h) (Or.inl ⟨by kernel_rfl, fun W _ => by go_simp⟩) hS ?_
    simp only [Act.put, List.setIfInBounds_toArray, List.set_cons_zero, List.set_cons_succ]
    refine takeH12 5 17 (.string (str l)) rfl rfl (by kernel_rfl) (by kernel_rfl) (by kernel_rfl) (fun _ _ _ h => h) (Or.inl ⟨by kernel_rfl, fun W hW => by obtain ⟨m, rfl⟩ := (hS1 W).1 hW; go_simp⟩) hS ?_
    simp only [Act.put, List.setIfInBounds_toArray, List.set_cons_zero, List.set_cons_succ]
    refine takeH12 6 18 (.tuple #[.int .i64 (i : Int), .bool true]) rfl rfl (by kernel_rfl) (by kernel_rfl) (by kernel_rfl) (fun _ _ _ h => h) (Or.inl ⟨by kernel_rfl, fun W hW => by obtain ⟨m, rfl⟩ := (hS1 W).1 hW; have hc := hLk m; go_simp⟩) hS ?_
    simp only [Act.put, List.setIfInBounds_toArray, List.set_cons_zero, List.set_cons_succ]
    refine takeH12 7 11 (.tuple #[.int .i64 (i : Int), .bool true]) rfl rfl (by kernel_rfl) (by kernel_rfl) (by kernel_rfl) (fun _ _ _ h => h) (Or.inl ⟨by kernel_rfl, fun W _ => by go_simp⟩) hS ?_
    simp only [Act.put, List.setIfInBounds_toArray, List.set_cons_zero, List.set_cons_succ]
    refine takeH12 8 19 (.int .i64 (i : Int)) rfl rfl (by kernel_rfl) (by kernel_rfl) (by kernel_rfl) (fun _ _ _ h => h) (Or.inl ⟨by kernel_rfl, fun W _ => by go_simp⟩) hS ?_
    simp only [Act.put, List.setIfInBounds_toArray, List.set_cons_zero, List.set_cons_succ]
    refine takeH12 9 20 (.bool true) rfl rfl (by kernel_rfl) (by kernel_rfl) (by kernel_rfl) (fun _ _ _ h => h) (Or.inl ⟨by kernel_rfl, fun W _ => by go_simp⟩) hS ?_
    simp only [Act.put, List.setIfInBounds_toArray, List.set_cons_zero, List.set_cons_succ]
    refine takeH12 10 5 (.int .i64 (i : Int)) rfl rfl (by kernel_rfl) (by kernel_rfl) (by kernel_rfl) (fun _ _ _ h => h) (Or.inl ⟨by kernel_rfl, fun W _ => by go_simp⟩) hS ?_
    simp only [Act.put, List.setIfInBounds_toArray, List.set_cons_zero, List.set_cons_succ]
    refine takeH12 11 6 (.bool true) rfl rfl (by kernel_rfl) (by kernel_rfl) (by kernel_rfl) (fun _ _ _ h => h) (Or.inl ⟨by kernel_rfl, fun W _ => by go_simp⟩) hS ?_
    simp only [Act.put, List.setIfInBounds_toArray, List.set_cons_zero, List.set_cons_succ]
    refine wpAnyH_done (by kernel_rfl) ?_ _
    obtain ⟨mm, hmm⟩ := (hS1 _).1 hS
    rw [hmm]
    clear hS hmm
    go_wp2_with (go_at_call 93; refine (HAA.out mm).mono ?_; rintro e w2 ⟨rfl, hp⟩; have HP := hideT (HFin.out _ _ hp); clear hp)
    go_ret
    exact ⟨0, rfl, HP.out⟩
  | none =>
    obtain ⟨i0, hi0, hz0, hz1, hz2⟩ := info_parts info_str13
    have hLk : ∀ m, (Instr.lookup 52 (.map (some mg)) (.string (str l)) true).run Tryz.prog (W0.drewN m) = .ok (.tuple #[.int .i64 0, .bool false]) (W0.drewN m) := fun m => by
      have := hLook m
      rw [hF] at this
      exact this
    have hcl := closes_len l
    have hst : Tre.startT ⟨ps.map (·.1), op⟩ l ats = match Tre.lay ⟨ps.map (·.1), (Tre.shut ⟨ps.map (·.1), op⟩ (Tre.closes l).1 ((Tre.closes l).2 ++ [Tre.body, Tre.html])).opn⟩ ⟨2, l, ats, [], 0, []⟩ with
        | .error e => .error e
        | .ok b2 => .ok (if Tre.isVoid l = true then b2 else ⟨b2.nodes, b2.opn ++ [ps.length]⟩) := by
      unfold Tre.startT
      rw [hF]
      simp only [hlm]
      rfl
    have hOk2 : Tre.Ok ⟨ps.map (·.1), (Tre.shut ⟨ps.map (·.1), op⟩ (Tre.closes l).1 ((Tre.closes l).2 ++ [Tre.body, Tre.html])).opn⟩ M := Tre.ok_shut hOk _ _
    have hCB := hideT (fun m => closedBy_any l (W0.drewN m))
    have HCL := hideT (fun W (hb : Below W0.heap.size W0 W) v1 v2 r1 r2 => closeLast_any (h0.below hb) ho.1 (by omega) (fun y hy => by have := hOk.opin y hy; simp only [hlm] at this; exact this) v1 v2 (Tre.closes l).1 ((Tre.closes l).2 ++ [Tre.body, Tre.html]) r1 r2 (by omega) (by rw [List.length_append]; show _ + 2 ≤ _; omega))
    have hnT : ¬ T w.heap.size := fun hT => by have := HLow.out _ hT; omega
    have hbw0 := hideT hb0
    rw [hst]
    generalize hop2 : (Tre.shut ⟨ps.map (·.1), op⟩ (Tre.closes l).1 ((Tre.closes l).2 ++ [Tre.body, Tre.html])).opn = op2 at *
    generalize (Tre.closes l).1 = names at *
    generalize (Tre.closes l).2 = walls at *
    have HLay := hideT (fun W w4 ov' (hb : Below W0.heap.size W0 W) (h4 : BAt w4 T bb mg (.slice (some ⟨g, 0, none⟩) ps.length c) ov' ps op2 (Tre.firstN (ps.map (·.1)))) (hO : OwnT T W w4) => by
      have hv4 : OwnsA w4 0 (.slice aa ats.length ac) ats := row_keepK (OwnsPairs.below hva0 hb) (fun k e hk => hO.block k hk (hvf k e))
      have hlt4 : ∀ k, AddT T (.slice aa ats.length ac) k → k < w4.heap.size := fun k hk => by
        rcases hk with hk | hk
        · exact h4.low k hk
        · exact (World.ownsRow.lt hv4 k hk).2
      exact lay_any (h4.wide (fun k hk => .inl hk) hlt4) hOk2 ⟨2, l, ats, [], 0, []⟩ rfl aa ac hv4 (fun k e => ⟨.inr e, fun e2 => hvf k e (by rw [e2]; exact h4.tb), fun e2 => hvf k e (by rw [e2]; exact h4.tm)⟩) (fun y hy k e1 e2 => hvf k e2 (h4.off y hy k e1).1))
    clear hLook hst hop2
    cases hlay : Tre.lay ⟨ps.map (·.1), op2⟩ ⟨2, l, ats, [], 0, []⟩ with
    | error k =>
      rw [hlay] at HLay
      have hkk := lay_err hlay
      have q10 : ((k : Int) != 0) = true := by simp; omega
      clear hlay
      clear h h0 hva hva0 hF hOk hb0 hW0
      rw [htb] at tn ta hs0 hnT htk
      go_enter Tryz.func53, Tryz.ntmps53
      go_upto_region 1 with fail
      rw [HW0.out]
      (try rw [HTB.out])
      refine wp_region_held_drew (S := S) (by kernel_rfl) ((hS1 _).2 ⟨1, rfl⟩) (fun hS => ?_)
      refine takeH12 0 12 (.pointer (some ⟨bb, 0, none⟩)) rfl rfl (by kernel_rfl) (by kernel_rfl) (by kernel_rfl) (fun _ _ _ h => h) (Or.inl ⟨by kernel_rfl, fun W _ => by go_simp⟩) hS ?_
      simp only [Act.put, List.setIfInBounds_toArray, List.set_cons_zero, List.set_cons_succ]
      refine takeH12 1 13 (.pointer (some ⟨bb, 0, none⟩)) rfl rfl (by kernel_rfl) (by kernel_rfl) (by kernel_rfl) (fun _ _ _ h => h) (Or.inl ⟨by kernel_rfl, fun W _ => by go_simp⟩) hS ?_
      simp only [Act.put, List.setIfInBounds_toArray, List.set_cons_zero, List.set_cons_succ]
      refine takeH12 2 14 (.pointer (some ⟨bb, 2, none⟩)) rfl rfl (by kernel_rfl) (by kernel_rfl) (by kernel_rfl) (fun _ _ _ h => h) (Or.inl ⟨by kernel_rfl, fun W _ => by go_simp⟩) hS ?_
      simp only [Act.put, List.setIfInBounds_toArray, List.set_cons_zero, List.set_cons_succ]
      refine takeH12 3 15 (.map (some mg)) rfl rfl (by kernel_rfl) (by kernel_rfl) (by kernel_rfl) (fun _ _ _ h => h) (Or.inl ⟨by kernel_rfl, fun W hW => by obtain ⟨m, rfl⟩ := (hS1 W).1 hW; go_simp⟩) hS ?_
      simp only [Act.put, List.setIfInBounds_toArray, List.set_cons_zero, List.set_cons_succ]
      refine takeH12 4 16 (.pointer (some ⟨tb, 1, none⟩)) rfl rfl (by kernel_rfl) (by kernel_rfl) (by kernel_rfl) (fun _ _ _ h => h) (Or.inl ⟨by kernel_rfl, fun W _ => by go_simp⟩) hS ?_
      simp only [Act.put, List.setIfInBounds_toArray, List.set_cons_zero, List.set_cons_succ]
      refine takeH12 5 17 (.string (str l)) rfl rfl (by kernel_rfl) (by kernel_rfl) (by kernel_rfl) (fun _ _ _ h => h) (Or.inl ⟨by kernel_rfl, fun W hW => by obtain ⟨m, rfl⟩ := (hS1 W).1 hW; go_simp⟩) hS ?_
      simp only [Act.put, List.setIfInBounds_toArray, List.set_cons_zero, List.set_cons_succ]
      refine takeH12 6 18 (.tuple #[.int .i64 0, .bool false]) rfl rfl (by kernel_rfl) (by kernel_rfl) (by kernel_rfl) (fun _ _ _ h => h) (Or.inl ⟨by kernel_rfl, fun W hW => by obtain ⟨m, rfl⟩ := (hS1 W).1 hW; have hc := hLk m; go_simp⟩) hS ?_
      simp only [Act.put, List.setIfInBounds_toArray, List.set_cons_zero, List.set_cons_succ]
      refine takeH12 7 11 (.tuple #[.int .i64 0, .bool false]) rfl rfl (by kernel_rfl) (by kernel_rfl) (by kernel_rfl) (fun _ _ _ h => h) (Or.inl ⟨by kernel_rfl, fun W _ => by go_simp⟩) hS ?_
      simp only [Act.put, List.setIfInBounds_toArray, List.set_cons_zero, List.set_cons_succ]
      refine takeH12 8 19 (.int .i64 0) rfl rfl (by kernel_rfl) (by kernel_rfl) (by kernel_rfl) (fun _ _ _ h => h) (Or.inl ⟨by kernel_rfl, fun W _ => by go_simp⟩) hS ?_
      simp only [Act.put, List.setIfInBounds_toArray, List.set_cons_zero, List.set_cons_succ]
      refine takeH12 9 20 (.bool false) rfl rfl (by kernel_rfl) (by kernel_rfl) (by kernel_rfl) (fun _ _ _ h => h) (Or.inl ⟨by kernel_rfl, fun W _ => by go_simp⟩) hS ?_
      simp only [Act.put, List.setIfInBounds_toArray, List.set_cons_zero, List.set_cons_succ]
      refine takeH12 10 5 (.int .i64 0) rfl rfl (by kernel_rfl) (by kernel_rfl) (by kernel_rfl) (fun _ _ _ h => h) (Or.inl ⟨by kernel_rfl, fun W _ => by go_simp⟩) hS ?_
      simp only [Act.put, List.setIfInBounds_toArray, List.set_cons_zero, List.set_cons_succ]
      refine takeH12 11 6 (.bool false) rfl rfl (by kernel_rfl) (by kernel_rfl) (by kernel_rfl) (fun _ _ _ h => h) (Or.inl ⟨by kernel_rfl, fun W _ => by go_simp⟩) hS ?_
      simp only [Act.put, List.setIfInBounds_toArray, List.set_cons_zero, List.set_cons_succ]
      refine wpAnyH_done (by kernel_rfl) ?_ _
      obtain ⟨mm, hmm⟩ := (hS1 _).1 hS
      rw [hmm]
      clear hS hmm
      go_upto_region 8 with (first
        | (go_at_call 94; refine (hCB.out mm).mono ?_; rintro e w1 ⟨v1, v2, rfl, hk1, ho2, hb1⟩; obtain ⟨x2, d2, e2⟩ := ReadsTexts13.form ho2.reads; subst e2; have hb1a : Below W0.heap.size W0 w1 := (hB0 mm).trans (hb1.mono (Nat.le_refl _)); have hs1 := hb1a.size; have hbw1 : Below w1.heap.size w1 (w1.alloc (.cells #[.string ⟨#[98, 111, 100, 121]⟩, .string ⟨#[104, 116, 109, 108]⟩] 9)) := (Below.refl _ _).alloc (Nat.le_refl _) _)
        | (at_builtin; refine wpList_append_own _ rfl _ _ 62 rfl 0 9 i0 (.string ByteArray.empty) 1 16 Tryz.underlying62 hi0 hz0 hz1 hz2 rfl (by decide) _ _ _ rfl (World.ownsRow.alloc (OwnsTexts13.mono ho2 (Nat.zero_le _)) _) ⟨w1.heap.size, 0, none⟩ 2 2 [.string ⟨#[98, 111, 100, 121]⟩, .string ⟨#[104, 116, 109, 108]⟩] rfl rfl (cell_two_new w1 _ _ _) (fun y hy => by simp at hy; rcases hy with rfl | rfl <;> rfl) (by unfold maxLen; omega) (by omega) (Nat.zero_le _) ?_; intro v3 w3 h3 g3 n3; obtain ⟨x3, d3, e3⟩ := row_form h3 (by omega); subst e3; have hb3 : Below W0.heap.size W0 w3 := (hb1a.alloc hs1 _).grown g3 (by simp; omega) (fun q e => (World.ownsRow.lt ho2 q e).1); have hr3 : ReadsTexts w3 (.slice x3 (walls.length + 2) d3) (walls ++ [Tre.body, Tre.html]) := OwnsTexts.reads (B := 0) (by unfold OwnsTexts; rw [List.length_append, List.map_append]; exact h3); have hr1 := hk1 _ _ hbw1 g3)
        | (go_at_call 95; refine (HCL.out _ hb3 _ _ hr1 hr3).mono ?_; rintro e w4 ⟨rfl, ov4, h4, hO4⟩; have c40 := Lib.cell_of_heap h4.blk 0; have htk3 := (hb3.block tb (by omega)).trans htk; have htk4 := (hO4.block tb (Array.getElem?_eq_some_iff.1 htk3).1 hnT).trans htk3; have tn4 := Lib.cell_of_heap htk4 1; have ta4 := Lib.cell_of_heap htk4 2; have HL4 := hideT (HLay.out w3 w4 ov4 hb3 h4 hO4); have HO4 := hideT ((OwnT.of (T := T) (hbw0.out.trans (hb3.mono hbw0.out.size))).trans hO4 (fun k h => .inl h)); have hb4s : tb < w4.heap.size := (Array.getElem?_eq_some_iff.1 htk4).1))
      go_wp2_with (go_at_call 96; refine HL4.out.mono ?_; rintro e w5 ⟨q, rfl, rfl, hO5⟩; have HF5 := hideT (((HO4.out.wider (fun k h => .inl h)).trans hO5 (fun k h => .inl h) : OwnT (AddT T (.slice aa ats.length ac)) w w5)))
      go_ret
      exact ⟨_, rfl, rfl, HF5.out⟩
    | ok b2 =>
      rw [hlay] at HLay
      have hOk5 := (Tre.ok_lay hOk2 rfl hats (Nat.zero_le _) hlay)
      have hop5 : 1 ≤ b2.opn.length ∧ b2.opn.length ≤ 65 := hOk5.1.op1
      have hlayH := hideT hlay
      have hF0 := hideT hF
      have hTm := h.tm
      simp only
      clear hOk5
      by_cases hlh : l = Tre.html
      · have HLH := hideT hlh
        have hhb : Tre.isHB l = true := by rw [hlh]; decide
        have hvv : Tre.isVoid l = false := by rw [hlh]; decide
        have q1 : ((str l).toList == [104, 116, 109, 108]) = true := lit13_yes hlh
        have hvd : Hid (Tre.isVoid l = false) := hvv
        rw [show (if Tre.isVoid l = true then b2 else (⟨b2.nodes, b2.opn ++ [ps.length]⟩ : Tre.St)) = ⟨b2.nodes, b2.opn ++ [ps.length]⟩ from by rw [hvv]; rfl]
        clear hlh hlay hvv
        clear h h0 hva hva0 hF hOk hb0 hW0
        rw [htb] at tn ta hs0 hnT htk
        go_enter Tryz.func53, Tryz.ntmps53
        go_upto_region 1 with fail
        rw [HW0.out]
        (try rw [HTB.out])
        refine wp_region_held_drew (S := S) (by kernel_rfl) ((hS1 _).2 ⟨1, rfl⟩) (fun hS => ?_)
        refine takeH12 0 12 (.pointer (some ⟨bb, 0, none⟩)) rfl rfl (by kernel_rfl) (by kernel_rfl) (by kernel_rfl) (fun _ _ _ h => h) (Or.inl ⟨by kernel_rfl, fun W _ => by go_simp⟩) hS ?_
        simp only [Act.put, List.setIfInBounds_toArray, List.set_cons_zero, List.set_cons_succ]
        refine takeH12 1 13 (.pointer (some ⟨bb, 0, none⟩)) rfl rfl (by kernel_rfl) (by kernel_rfl) (by kernel_rfl) (fun _ _ _ h => h) (Or.inl ⟨by kernel_rfl, fun W _ => by go_simp⟩) hS ?_
        simp only [Act.put, List.setIfInBounds_toArray, List.set_cons_zero, List.set_cons_succ]
        refine takeH12 2 14 (.pointer (some ⟨bb, 2, none⟩)) rfl rfl (by kernel_rfl) (by kernel_rfl) (by kernel_rfl) (fun _ _ _ h => h) (Or.inl ⟨by kernel_rfl, fun W _ => by go_simp⟩) hS ?_
        simp only [Act.put, List.setIfInBounds_toArray, List.set_cons_zero, List.set_cons_succ]
        refine takeH12 3 15 (.map (some mg)) rfl rfl (by kernel_rfl) (by kernel_rfl) (by kernel_rfl) (fun _ _ _ h => h) (Or.inl ⟨by kernel_rfl, fun W hW => by obtain ⟨m, rfl⟩ := (hS1 W).1 hW; go_simp⟩) hS ?_
        simp only [Act.put, List.setIfInBounds_toArray, List.set_cons_zero, List.set_cons_succ]
        refine takeH12 4 16 (.pointer (some ⟨tb, 1, none⟩)) rfl rfl (by kernel_rfl) (by kernel_rfl) (by kernel_rfl) (fun _ _ _ h => h) (Or.inl ⟨by kernel_rfl, fun W _ => by go_simp⟩) hS ?_
        simp only [Act.put, List.setIfInBounds_toArray, List.set_cons_zero, List.set_cons_succ]
        refine takeH12 5 17 (.string (str l)) rfl rfl (by kernel_rfl) (by kernel_rfl) (by kernel_rfl) (fun _ _ _ h => h) (Or.inl ⟨by kernel_rfl, fun W hW => by obtain ⟨m, rfl⟩ := (hS1 W).1 hW; go_simp⟩) hS ?_
        simp only [Act.put, List.setIfInBounds_toArray, List.set_cons_zero, List.set_cons_succ]
        refine takeH12 6 18 (.tuple #[.int .i64 0, .bool false]) rfl rfl (by kernel_rfl) (by kernel_rfl) (by kernel_rfl) (fun _ _ _ h => h) (Or.inl ⟨by kernel_rfl, fun W hW => by obtain ⟨m, rfl⟩ := (hS1 W).1 hW; have hc := hLk m; go_simp⟩) hS ?_
        simp only [Act.put, List.setIfInBounds_toArray, List.set_cons_zero, List.set_cons_succ]
        refine takeH12 7 11 (.tuple #[.int .i64 0, .bool false]) rfl rfl (by kernel_rfl) (by kernel_rfl) (by kernel_rfl) (fun _ _ _ h => h) (Or.inl ⟨by kernel_rfl, fun W _ => by go_simp⟩) hS ?_
        simp only [Act.put, List.setIfInBounds_toArray, List.set_cons_zero, List.set_cons_succ]
        refine takeH12 8 19 (.int .i64 0) rfl rfl (by kernel_rfl) (by kernel_rfl) (by kernel_rfl) (fun _ _ _ h => h) (Or.inl ⟨by kernel_rfl, fun W _ => by go_simp⟩) hS ?_
        simp only [Act.put, List.setIfInBounds_toArray, List.set_cons_zero, List.set_cons_succ]
        refine takeH12 9 20 (.bool false) rfl rfl (by kernel_rfl) (by kernel_rfl) (by kernel_rfl) (fun _ _ _ h => h) (Or.inl ⟨by kernel_rfl, fun W _ => by go_simp⟩) hS ?_
        simp only [Act.put, List.setIfInBounds_toArray, List.set_cons_zero, List.set_cons_succ]
        refine takeH12 10 5 (.int .i64 0) rfl rfl (by kernel_rfl) (by kernel_rfl) (by kernel_rfl) (fun _ _ _ h => h) (Or.inl ⟨by kernel_rfl, fun W _ => by go_simp⟩) hS ?_
        simp only [Act.put, List.setIfInBounds_toArray, List.set_cons_zero, List.set_cons_succ]
        refine takeH12 11 6 (.bool false) rfl rfl (by kernel_rfl) (by kernel_rfl) (by kernel_rfl) (fun _ _ _ h => h) (Or.inl ⟨by kernel_rfl, fun W _ => by go_simp⟩) hS ?_
        simp only [Act.put, List.setIfInBounds_toArray, List.set_cons_zero, List.set_cons_succ]
        refine wpAnyH_done (by kernel_rfl) ?_ _
        obtain ⟨mm, hmm⟩ := (hS1 _).1 hS
        rw [hmm]
        clear hS hmm
        go_upto_region 8 with (first
          | (go_at_call 94; refine (hCB.out mm).mono ?_; rintro e w1 ⟨v1, v2, rfl, hk1, ho2, hb1⟩; obtain ⟨x2, d2, e2⟩ := ReadsTexts13.form ho2.reads; subst e2; have hb1a : Below W0.heap.size W0 w1 := (hB0 mm).trans (hb1.mono (Nat.le_refl _)); have hs1 := hb1a.size; have hbw1 : Below w1.heap.size w1 (w1.alloc (.cells #[.string ⟨#[98, 111, 100, 121]⟩, .string ⟨#[104, 116, 109, 108]⟩] 9)) := (Below.refl _ _).alloc (Nat.le_refl _) _)
          | (at_builtin; refine wpList_append_own _ rfl _ _ 62 rfl 0 9 i0 (.string ByteArray.empty) 1 16 Tryz.underlying62 hi0 hz0 hz1 hz2 rfl (by decide) _ _ _ rfl (World.ownsRow.alloc (OwnsTexts13.mono ho2 (Nat.zero_le _)) _) ⟨w1.heap.size, 0, none⟩ 2 2 [.string ⟨#[98, 111, 100, 121]⟩, .string ⟨#[104, 116, 109, 108]⟩] rfl rfl (cell_two_new w1 _ _ _) (fun y hy => by simp at hy; rcases hy with rfl | rfl <;> rfl) (by unfold maxLen; omega) (by omega) (Nat.zero_le _) ?_; intro v3 w3 h3 g3 n3; obtain ⟨x3, d3, e3⟩ := row_form h3 (by omega); subst e3; have hb3 : Below W0.heap.size W0 w3 := (hb1a.alloc hs1 _).grown g3 (by simp; omega) (fun q e => (World.ownsRow.lt ho2 q e).1); have hr3 : ReadsTexts w3 (.slice x3 (walls.length + 2) d3) (walls ++ [Tre.body, Tre.html]) := OwnsTexts.reads (B := 0) (by unfold OwnsTexts; rw [List.length_append, List.map_append]; exact h3); have hr1 := hk1 _ _ hbw1 g3)
          | (go_at_call 95; refine (HCL.out _ hb3 _ _ hr1 hr3).mono ?_; rintro e w4 ⟨rfl, ov4, h4, hO4⟩; have c40 := Lib.cell_of_heap h4.blk 0; have htk3 := (hb3.block tb (by omega)).trans htk; have htk4 := (hO4.block tb (Array.getElem?_eq_some_iff.1 htk3).1 hnT).trans htk3; have tn4 := Lib.cell_of_heap htk4 1; have ta4 := Lib.cell_of_heap htk4 2; have HL4 := hideT (HLay.out w3 w4 ov4 hb3 h4 hO4); have HO4 := hideT ((OwnT.of (T := T) (hbw0.out.trans (hb3.mono hbw0.out.size))).trans hO4 (fun k h => .inl h)); have hb4s : tb < w4.heap.size := (Array.getElem?_eq_some_iff.1 htk4).1))
        go_upto_region 9 with (go_at_call 96; refine HL4.out.mono ?_; rintro e w5 ⟨q, rfl, hp⟩; obtain ⟨rfl, T5, nv5, ov5, ps5, hB5, hpsn, hO5, hT5⟩ := hp)
        have hO5w : OwnT (AddT T (.slice aa ats.length ac)) w w5 := (HO4.out.wider (fun k h => .inl h)).trans hO5 (fun k h => .inl h)
        have hT5w : ∀ k, T5 k → AddT T (.slice aa ats.length ac) k ∨ w.heap.size ≤ k := fun k hk => (hT5 k hk).imp id (fun h => by have := HTB.out; omega)
        have htA : ¬ AddT T (.slice aa ats.length ac) tb := fun hk => by
          rcases hk with hk | hk
          · exact hnT hk
          · have := hvlt tb hk
            have := HTB.out
            omega
        have htk5 := (hO5.block tb hb4s htA).trans htk4
        have tn5 := Lib.cell_of_heap htk5 1
        have hb5s : tb < w5.heap.size := (Array.getElem?_eq_some_iff.1 htk5).1
        go_upto_region 12 with fail
        have hBd := hB5.below (Below.refl _ _).drew
        have tnd : w5.drew.cell? ⟨tb, 1, none⟩ = some (.string (str l)) := tn5
        have hOd : OwnT (AddT T (.slice aa ats.length ac)) w w5.drew := hO5w.trans (OwnT.of (T := T5) (Below.refl _ _).drew) hT5w
        have hbds : tb < w5.drew.heap.size := hb5s
        obtain ⟨S3, hS3⟩ : ∃ S : World → Prop, ∀ W, S W ↔ (W.cell? ⟨bb, 2, none⟩ = some (.map (some mg)) ∧ W.cell? ⟨tb, 1, none⟩ = some (.string (str l))) := ⟨_, fun _ => Iff.rfl⟩
        refine wp_region_L (S := S3) 7 (by kernel_rfl) ((hS3 _).2 ⟨Lib.cell_of_heap hBd.blk 2, tnd⟩) (fun hS => ?_)
        clear hB5 hO5 hO5w tn5 htk5 hb5s
        generalize w5.drew = wd at *
        have hmg : mg ≠ tb := fun e => htA (by rw [← e]; exact .inl hTm)
        refine takeL 0 62 (.pointer (some ⟨bb, 0, none⟩)) rfl rfl rfl (by kernel_rfl) (by kernel_rfl) (by kernel_rfl) (by kernel_rfl) (fun _ _ _ h => h) (Or.inl ⟨by kernel_rfl, fun W _ => by go_simp⟩) hS ?_
        simp only [Act.put, List.setIfInBounds_toArray, List.set_cons_zero, List.set_cons_succ]
        refine takeL 1 63 (.pointer (some ⟨bb, 0, none⟩)) rfl rfl rfl (by kernel_rfl) (by kernel_rfl) (by kernel_rfl) (by kernel_rfl) (fun _ _ _ h => h) (Or.inl ⟨by kernel_rfl, fun W _ => by go_simp⟩) hS ?_
        simp only [Act.put, List.setIfInBounds_toArray, List.set_cons_zero, List.set_cons_succ]
        refine takeL 2 64 (.pointer (some ⟨bb, 2, none⟩)) rfl rfl rfl (by kernel_rfl) (by kernel_rfl) (by kernel_rfl) (by kernel_rfl) (fun _ _ _ h => h) (Or.inl ⟨by kernel_rfl, fun W _ => by go_simp⟩) hS ?_
        simp only [Act.put, List.setIfInBounds_toArray, List.set_cons_zero, List.set_cons_succ]
        refine takeL 3 65 (.map (some mg)) rfl rfl rfl (by kernel_rfl) (by kernel_rfl) (by kernel_rfl) (by kernel_rfl) (fun _ _ _ h => h) (Or.inl ⟨by kernel_rfl, fun W hW => by have hc := (((hS3 W).1 hW).1); go_simp⟩) hS ?_
        simp only [Act.put, List.setIfInBounds_toArray, List.set_cons_zero, List.set_cons_succ]
        refine takeL 4 66 (.pointer (some ⟨tb, 1, none⟩)) rfl rfl rfl (by kernel_rfl) (by kernel_rfl) (by kernel_rfl) (by kernel_rfl) (fun _ _ _ h => h) (Or.inl ⟨by kernel_rfl, fun W _ => by go_simp⟩) hS ?_
        simp only [Act.put, List.setIfInBounds_toArray, List.set_cons_zero, List.set_cons_succ]
        refine takeL 5 67 (.string (str l)) rfl rfl rfl (by kernel_rfl) (by kernel_rfl) (by kernel_rfl) (by kernel_rfl) (fun _ _ _ h => h) (Or.inl ⟨by kernel_rfl, fun W hW => by have hc := (((hS3 W).1 hW).2); go_simp⟩) hS ?_
        simp only [Act.put, List.setIfInBounds_toArray, List.set_cons_zero, List.set_cons_succ]
        refine takeL 6 68 (.int .i64 (ps.length : Int)) rfl rfl rfl (by kernel_rfl) (by kernel_rfl) (by kernel_rfl) (by kernel_rfl) (fun _ _ _ h => h) (Or.inl ⟨by kernel_rfl, fun W _ => by go_simp⟩) hS ?_
        simp only [Act.put, List.setIfInBounds_toArray, List.set_cons_zero, List.set_cons_succ]
        refine wpAnyL_one (i := 7) (by kernel_rfl) rfl (fun K hK => ?_)
        refine step_map13 rfl (.tmp 65) (.tmp 67) (.tmp 68) rfl hBd.mp (by have := cnt_le (Tre.firstN (ps.map (·.1))); omega) hl ps.length (by omega) (by kernel_rfl) (by kernel_rfl) (by kernel_rfl) ?_
        intro w6 h6 g6
        refine hK.out _ _ (fun h => absurd rfl h) ?_
        clear hK K
        refine wpAnyL_done (by kernel_rfl) ?_ _
        have hB6a := (hBd.map' (F' := fun t => if t = l then some ps.length else Tre.firstN (ps.map (·.1)) t) (by rw [cnt_put _ hhb hF0.out]; exact h6) g6)
        obtain ⟨hB6, hO6a⟩ := hB6a
        have e9 : (fun t => if t = l then some ps.length else Tre.firstN (ps.map (·.1)) t) = Tre.firstN b2.nodes := by
          rw [firstN_put hlayH.out hhb hF0.out]
          show _ = fun t => if t = l then some (ps.map (·.1)).length else _
          rw [hlm]
        rw [e9] at hB6
        have hO6 := hOd.trans hO6a hT5w
        have tn6 := (World.cell?_of_block (w := wd) (w' := w6) (a := ⟨tb, 1, none⟩) (g6.block tb hbds (fun e => hmg (Option.some.inj e).symm))).trans tnd
        clear hBd hOd h6 g6 hO6a e9 tnd hS hS3
        go_upto_region 13 with fail
        have hov := hB6.oform (by omega)
        obtain ⟨go6, co6, e6, hco6, _⟩ := hov
        subst e6
        have hbA : Below w6.heap.size w6 (w6.alloc (.cells #[.int .i64 (ps.length : Int)] 3)) := (Below.refl _ _).alloc (Nat.le_refl _) _
        have hB7 := hB6.below hbA
        have cA := Lib.cell_of_heap (heap_new w6 (.cells #[.int .i64 (ps.length : Int)] 3)) 0
        have co1 : w6.cell? ⟨bb, 1, none⟩ = some (.slice (some ⟨go6, 0, none⟩) b2.opn.length co6) := Lib.cell_of_heap hB6.blk 1
        have hVo := isVoid_any l
        have HFin6 : Hid (∀ w7 v7, OwnsI w7 0 v7 ((b2.opn.map fun x : Nat => (x : Int)) ++ [(ps.length : Int)]) → (w6.alloc (.cells #[.int .i64 (ps.length : Int)] 3)).grownBy w7 (Value.slice (some ⟨go6, 0, none⟩) b2.opn.length co6).ownBlock → (v7.ownBlock = (Value.slice (some ⟨go6, 0, none⟩) b2.opn.length co6).ownBlock ∨ v7.ownBlock = some (w6.alloc (.cells #[.int .i64 (ps.length : Int)] 3)).heap.size) → SRest (AddT T (.slice aa ats.length ac)) bb mg w fst13 (.ok ⟨b2.nodes, b2.opn ++ [ps.length]⟩) 0 (w7.setCell ⟨bb, 1, none⟩ v7)) := fun w7 v7 h7 g7 hat7 => by
          obtain ⟨h8, h9⟩ := hB7.open' (op' := b2.opn ++ [ps.length]) (by rw [List.map_append]; exact h7) g7 hat7
          have hs7 := hbA.size
          refine ⟨rfl, _, _, _, _, h8, hpsn, (hO6.trans (OwnT.of (T := T5) hbA) hT5w).trans h9 hT5w, fun k hk => ?_⟩
          rcases hk with hk | hk
          · exact hT5w k hk
          · have := hO6.size
            exact .inr (by omega)
        have hkl6 : (b2.opn.map fun x : Nat => (x : Int)).length ≤ 10000000 := by rw [List.length_map]; omega
        have hblk6 := hB7.blk
        have hlen6 : (b2.opn.map fun x : Nat => (x : Int)).length = b2.opn.length := List.length_map ..
        have hopn7 : OwnsI (w6.alloc (.cells #[.int .i64 (ps.length : Int)] 3)) 0 (.slice (some ⟨go6, 0, none⟩) b2.opn.length co6) (b2.opn.map fun x : Nat => (x : Int)) := hB7.opn
        have hkeep6 : ∀ w7, (w6.alloc (.cells #[.int .i64 (ps.length : Int)] 3)).grownBy w7 (Value.slice (some ⟨go6, 0, none⟩) b2.opn.length co6).ownBlock → w7.heap[bb]? = (w6.alloc (.cells #[.int .i64 (ps.length : Int)] 3)).heap[bb]? := fun w7 g7 => (hB7.kept_bb (by simp) g7).1
        have hvoid : Hid (Tre.isVoid l = false) := hvd.out
        rw [hvoid.out] at hVo
        clear hB6 hB7 hbA hO6
        go_wp2_with (first
          | (go_at_call 69; refine (hVo _).mono ?_; rintro e w9 ⟨rfl, he9⟩; replace he9 := he9.symm; subst he9)
          | (at_builtin; refine wpList_append_I rfl (.tmp 77) (.tmp 79) rfl 0 (.slice (some ⟨go6, 0, none⟩) b2.opn.length co6) _ rfl hopn7 w6.heap.size 1 rfl (ps.length : Int) cA hkl6 (Nat.zero_le _) ?_; intro v7 w7 h7 g7 hat7; obtain ⟨xa7, xc7, e7⟩ := (OwnsI.reads h7).form; rw [List.length_append, List.length_singleton, hlen6] at e7; subst e7; have hbb7 := (hkeep6 w7 g7).trans hblk6; have c71 := Lib.cell_of_heap hbb7 1; have f71 := Lib.frozen_of_heap hbb7 1; have HQ := hideT (HFin6.out _ _ h7 g7 hat7)))
        go_ret
        exact ⟨0, rfl, HQ.out⟩
      · have q1 : ((str l).toList == [104, 116, 109, 108]) = false := lit13_no hlh
        have hlh1 := hlh
        clear hlh
        by_cases hlh : l = Tre.body
        · have HLH := hideT hlh
          have hhb : Tre.isHB l = true := by rw [hlh]; decide
          have hvv : Tre.isVoid l = false := by rw [hlh]; decide
          have q2 : ((str l).toList == [98, 111, 100, 121]) = true := lit13_yes hlh
          have hvd : Hid (Tre.isVoid l = false) := hvv
          rw [show (if Tre.isVoid l = true then b2 else (⟨b2.nodes, b2.opn ++ [ps.length]⟩ : Tre.St)) = ⟨b2.nodes, b2.opn ++ [ps.length]⟩ from by rw [hvv]; rfl]
          clear hlh hlay hvv
          clear h h0 hva hva0 hF hOk hb0 hW0
          rw [htb] at tn ta hs0 hnT htk
          go_enter Tryz.func53, Tryz.ntmps53
          go_upto_region 1 with fail
          rw [HW0.out]
          (try rw [HTB.out])
          refine wp_region_held_drew (S := S) (by kernel_rfl) ((hS1 _).2 ⟨1, rfl⟩) (fun hS => ?_)
          refine takeH12 0 12 (.pointer (some ⟨bb, 0, none⟩)) rfl rfl (by kernel_rfl) (by kernel_rfl) (by kernel_rfl) (fun _ _ _ h => h) (Or.inl ⟨by kernel_rfl, fun W _ => by go_simp⟩) hS ?_
          simp only [Act.put, List.setIfInBounds_toArray, List.set_cons_zero, List.set_cons_succ]
          refine takeH12 1 13 (.pointer (some ⟨bb, 0, none⟩)) rfl rfl (by kernel_rfl) (by kernel_rfl) (by kernel_rfl) (fun _ _ _ h => h) (Or.inl ⟨by kernel_rfl, fun W _ => by go_simp⟩) hS ?_
          simp only [Act.put, List.setIfInBounds_toArray, List.set_cons_zero, List.set_cons_succ]
          refine takeH12 2 14 (.pointer (some ⟨bb, 2, none⟩)) rfl rfl (by kernel_rfl) (by kernel_rfl) (by kernel_rfl) (fun _ _ _ h => h) (Or.inl ⟨by kernel_rfl, fun W _ => by go_simp⟩) hS ?_
          simp only [Act.put, List.setIfInBounds_toArray, List.set_cons_zero, List.set_cons_succ]
          refine takeH12 3 15 (.map (some mg)) rfl rfl (by kernel_rfl) (by kernel_rfl) (by kernel_rfl) (fun _ _ _ h => h) (Or.inl ⟨by kernel_rfl, fun W hW => by obtain ⟨m, rfl⟩ := (hS1 W).1 hW; go_simp⟩) hS ?_
          simp only [Act.put, List.setIfInBounds_toArray, List.set_cons_zero, List.set_cons_succ]
          refine takeH12 4 16 (.pointer (some ⟨tb, 1, none⟩)) rfl rfl (by kernel_rfl) (by kernel_rfl) (by kernel_rfl) (fun _ _ _ h => h) (Or.inl ⟨by kernel_rfl, fun W _ => by go_simp⟩) hS ?_
          simp only [Act.put, List.setIfInBounds_toArray, List.set_cons_zero, List.set_cons_succ]
          refine takeH12 5 17 (.string (str l)) rfl rfl (by kernel_rfl) (by kernel_rfl) (by kernel_rfl) (fun _ _ _ h => h) (Or.inl ⟨by kernel_rfl, fun W hW => by obtain ⟨m, rfl⟩ := (hS1 W).1 hW; go_simp⟩) hS ?_
          simp only [Act.put, List.setIfInBounds_toArray, List.set_cons_zero, List.set_cons_succ]
          refine takeH12 6 18 (.tuple #[.int .i64 0, .bool false]) rfl rfl (by kernel_rfl) (by kernel_rfl) (by kernel_rfl) (fun _ _ _ h => h) (Or.inl ⟨by kernel_rfl, fun W hW => by obtain ⟨m, rfl⟩ := (hS1 W).1 hW; have hc := hLk m; go_simp⟩) hS ?_
          simp only [Act.put, List.setIfInBounds_toArray, List.set_cons_zero, List.set_cons_succ]
          refine takeH12 7 11 (.tuple #[.int .i64 0, .bool false]) rfl rfl (by kernel_rfl) (by kernel_rfl) (by kernel_rfl) (fun _ _ _ h => h) (Or.inl ⟨by kernel_rfl, fun W _ => by go_simp⟩) hS ?_
          simp only [Act.put, List.setIfInBounds_toArray, List.set_cons_zero, List.set_cons_succ]
          refine takeH12 8 19 (.int .i64 0) rfl rfl (by kernel_rfl) (by kernel_rfl) (by kernel_rfl) (fun _ _ _ h => h) (Or.inl ⟨by kernel_rfl, fun W _ => by go_simp⟩) hS ?_
          simp only [Act.put, List.setIfInBounds_toArray, List.set_cons_zero, List.set_cons_succ]
          refine takeH12 9 20 (.bool false) rfl rfl (by kernel_rfl) (by kernel_rfl) (by kernel_rfl) (fun _ _ _ h => h) (Or.inl ⟨by kernel_rfl, fun W _ => by go_simp⟩) hS ?_
          simp only [Act.put, List.setIfInBounds_toArray, List.set_cons_zero, List.set_cons_succ]
          refine takeH12 10 5 (.int .i64 0) rfl rfl (by kernel_rfl) (by kernel_rfl) (by kernel_rfl) (fun _ _ _ h => h) (Or.inl ⟨by kernel_rfl, fun W _ => by go_simp⟩) hS ?_
          simp only [Act.put, List.setIfInBounds_toArray, List.set_cons_zero, List.set_cons_succ]
          refine takeH12 11 6 (.bool false) rfl rfl (by kernel_rfl) (by kernel_rfl) (by kernel_rfl) (fun _ _ _ h => h) (Or.inl ⟨by kernel_rfl, fun W _ => by go_simp⟩) hS ?_
          simp only [Act.put, List.setIfInBounds_toArray, List.set_cons_zero, List.set_cons_succ]
          refine wpAnyH_done (by kernel_rfl) ?_ _
          obtain ⟨mm, hmm⟩ := (hS1 _).1 hS
          rw [hmm]
          clear hS hmm
          go_upto_region 8 with (first
            | (go_at_call 94; refine (hCB.out mm).mono ?_; rintro e w1 ⟨v1, v2, rfl, hk1, ho2, hb1⟩; obtain ⟨x2, d2, e2⟩ := ReadsTexts13.form ho2.reads; subst e2; have hb1a : Below W0.heap.size W0 w1 := (hB0 mm).trans (hb1.mono (Nat.le_refl _)); have hs1 := hb1a.size; have hbw1 : Below w1.heap.size w1 (w1.alloc (.cells #[.string ⟨#[98, 111, 100, 121]⟩, .string ⟨#[104, 116, 109, 108]⟩] 9)) := (Below.refl _ _).alloc (Nat.le_refl _) _)
            | (at_builtin; refine wpList_append_own _ rfl _ _ 62 rfl 0 9 i0 (.string ByteArray.empty) 1 16 Tryz.underlying62 hi0 hz0 hz1 hz2 rfl (by decide) _ _ _ rfl (World.ownsRow.alloc (OwnsTexts13.mono ho2 (Nat.zero_le _)) _) ⟨w1.heap.size, 0, none⟩ 2 2 [.string ⟨#[98, 111, 100, 121]⟩, .string ⟨#[104, 116, 109, 108]⟩] rfl rfl (cell_two_new w1 _ _ _) (fun y hy => by simp at hy; rcases hy with rfl | rfl <;> rfl) (by unfold maxLen; omega) (by omega) (Nat.zero_le _) ?_; intro v3 w3 h3 g3 n3; obtain ⟨x3, d3, e3⟩ := row_form h3 (by omega); subst e3; have hb3 : Below W0.heap.size W0 w3 := (hb1a.alloc hs1 _).grown g3 (by simp; omega) (fun q e => (World.ownsRow.lt ho2 q e).1); have hr3 : ReadsTexts w3 (.slice x3 (walls.length + 2) d3) (walls ++ [Tre.body, Tre.html]) := OwnsTexts.reads (B := 0) (by unfold OwnsTexts; rw [List.length_append, List.map_append]; exact h3); have hr1 := hk1 _ _ hbw1 g3)
            | (go_at_call 95; refine (HCL.out _ hb3 _ _ hr1 hr3).mono ?_; rintro e w4 ⟨rfl, ov4, h4, hO4⟩; have c40 := Lib.cell_of_heap h4.blk 0; have htk3 := (hb3.block tb (by omega)).trans htk; have htk4 := (hO4.block tb (Array.getElem?_eq_some_iff.1 htk3).1 hnT).trans htk3; have tn4 := Lib.cell_of_heap htk4 1; have ta4 := Lib.cell_of_heap htk4 2; have HL4 := hideT (HLay.out w3 w4 ov4 hb3 h4 hO4); have HO4 := hideT ((OwnT.of (T := T) (hbw0.out.trans (hb3.mono hbw0.out.size))).trans hO4 (fun k h => .inl h)); have hb4s : tb < w4.heap.size := (Array.getElem?_eq_some_iff.1 htk4).1))
          go_upto_region 9 with (go_at_call 96; refine HL4.out.mono ?_; rintro e w5 ⟨q, rfl, hp⟩; obtain ⟨rfl, T5, nv5, ov5, ps5, hB5, hpsn, hO5, hT5⟩ := hp)
          have hO5w : OwnT (AddT T (.slice aa ats.length ac)) w w5 := (HO4.out.wider (fun k h => .inl h)).trans hO5 (fun k h => .inl h)
          have hT5w : ∀ k, T5 k → AddT T (.slice aa ats.length ac) k ∨ w.heap.size ≤ k := fun k hk => (hT5 k hk).imp id (fun h => by have := HTB.out; omega)
          have htA : ¬ AddT T (.slice aa ats.length ac) tb := fun hk => by
            rcases hk with hk | hk
            · exact hnT hk
            · have := hvlt tb hk
              have := HTB.out
              omega
          have htk5 := (hO5.block tb hb4s htA).trans htk4
          have tn5 := Lib.cell_of_heap htk5 1
          have hb5s : tb < w5.heap.size := (Array.getElem?_eq_some_iff.1 htk5).1
          go_upto_region 12 with fail
          have hBd := hB5.below (Below.refl _ _).drew
          have tnd : w5.drew.cell? ⟨tb, 1, none⟩ = some (.string (str l)) := tn5
          have hOd : OwnT (AddT T (.slice aa ats.length ac)) w w5.drew := hO5w.trans (OwnT.of (T := T5) (Below.refl _ _).drew) hT5w
          have hbds : tb < w5.drew.heap.size := hb5s
          obtain ⟨S3, hS3⟩ : ∃ S : World → Prop, ∀ W, S W ↔ (W.cell? ⟨bb, 2, none⟩ = some (.map (some mg)) ∧ W.cell? ⟨tb, 1, none⟩ = some (.string (str l))) := ⟨_, fun _ => Iff.rfl⟩
          refine wp_region_L (S := S3) 7 (by kernel_rfl) ((hS3 _).2 ⟨Lib.cell_of_heap hBd.blk 2, tnd⟩) (fun hS => ?_)
          clear hB5 hO5 hO5w tn5 htk5 hb5s
          generalize w5.drew = wd at *
          have hmg : mg ≠ tb := fun e => htA (by rw [← e]; exact .inl hTm)
          refine takeL 0 62 (.pointer (some ⟨bb, 0, none⟩)) rfl rfl rfl (by kernel_rfl) (by kernel_rfl) (by kernel_rfl) (by kernel_rfl) (fun _ _ _ h => h) (Or.inl ⟨by kernel_rfl, fun W _ => by go_simp⟩) hS ?_
          simp only [Act.put, List.setIfInBounds_toArray, List.set_cons_zero, List.set_cons_succ]
          refine takeL 1 63 (.pointer (some ⟨bb, 0, none⟩)) rfl rfl rfl (by kernel_rfl) (by kernel_rfl) (by kernel_rfl) (by kernel_rfl) (fun _ _ _ h => h) (Or.inl ⟨by kernel_rfl, fun W _ => by go_simp⟩) hS ?_
          simp only [Act.put, List.setIfInBounds_toArray, List.set_cons_zero, List.set_cons_succ]
          refine takeL 2 64 (.pointer (some ⟨bb, 2, none⟩)) rfl rfl rfl (by kernel_rfl) (by kernel_rfl) (by kernel_rfl) (by kernel_rfl) (fun _ _ _ h => h) (Or.inl ⟨by kernel_rfl, fun W _ => by go_simp⟩) hS ?_
          simp only [Act.put, List.setIfInBounds_toArray, List.set_cons_zero, List.set_cons_succ]
          refine takeL 3 65 (.map (some mg)) rfl rfl rfl (by kernel_rfl) (by kernel_rfl) (by kernel_rfl) (by kernel_rfl) (fun _ _ _ h => h) (Or.inl ⟨by kernel_rfl, fun W hW => by have hc := (((hS3 W).1 hW).1); go_simp⟩) hS ?_
          simp only [Act.put, List.setIfInBounds_toArray, List.set_cons_zero, List.set_cons_succ]
          refine takeL 4 66 (.pointer (some ⟨tb, 1, none⟩)) rfl rfl rfl (by kernel_rfl) (by kernel_rfl) (by kernel_rfl) (by kernel_rfl) (fun _ _ _ h => h) (Or.inl ⟨by kernel_rfl, fun W _ => by go_simp⟩) hS ?_
          simp only [Act.put, List.setIfInBounds_toArray, List.set_cons_zero, List.set_cons_succ]
          refine takeL 5 67 (.string (str l)) rfl rfl rfl (by kernel_rfl) (by kernel_rfl) (by kernel_rfl) (by kernel_rfl) (fun _ _ _ h => h) (Or.inl ⟨by kernel_rfl, fun W hW => by have hc := (((hS3 W).1 hW).2); go_simp⟩) hS ?_
          simp only [Act.put, List.setIfInBounds_toArray, List.set_cons_zero, List.set_cons_succ]
          refine takeL 6 68 (.int .i64 (ps.length : Int)) rfl rfl rfl (by kernel_rfl) (by kernel_rfl) (by kernel_rfl) (by kernel_rfl) (fun _ _ _ h => h) (Or.inl ⟨by kernel_rfl, fun W _ => by go_simp⟩) hS ?_
          simp only [Act.put, List.setIfInBounds_toArray, List.set_cons_zero, List.set_cons_succ]
          refine wpAnyL_one (i := 7) (by kernel_rfl) rfl (fun K hK => ?_)
          refine step_map13 rfl (.tmp 65) (.tmp 67) (.tmp 68) rfl hBd.mp (by have := cnt_le (Tre.firstN (ps.map (·.1))); omega) hl ps.length (by omega) (by kernel_rfl) (by kernel_rfl) (by kernel_rfl) ?_
          intro w6 h6 g6
          refine hK.out _ _ (fun h => absurd rfl h) ?_
          clear hK K
          refine wpAnyL_done (by kernel_rfl) ?_ _
          have hB6a := (hBd.map' (F' := fun t => if t = l then some ps.length else Tre.firstN (ps.map (·.1)) t) (by rw [cnt_put _ hhb hF0.out]; exact h6) g6)
          obtain ⟨hB6, hO6a⟩ := hB6a
          have e9 : (fun t => if t = l then some ps.length else Tre.firstN (ps.map (·.1)) t) = Tre.firstN b2.nodes := by
            rw [firstN_put hlayH.out hhb hF0.out]
            show _ = fun t => if t = l then some (ps.map (·.1)).length else _
            rw [hlm]
          rw [e9] at hB6
          have hO6 := hOd.trans hO6a hT5w
          have tn6 := (World.cell?_of_block (w := wd) (w' := w6) (a := ⟨tb, 1, none⟩) (g6.block tb hbds (fun e => hmg (Option.some.inj e).symm))).trans tnd
          clear hBd hOd h6 g6 hO6a e9 tnd hS hS3
          go_upto_region 13 with fail
          have hov := hB6.oform (by omega)
          obtain ⟨go6, co6, e6, hco6, _⟩ := hov
          subst e6
          have hbA : Below w6.heap.size w6 (w6.alloc (.cells #[.int .i64 (ps.length : Int)] 3)) := (Below.refl _ _).alloc (Nat.le_refl _) _
          have hB7 := hB6.below hbA
          have cA := Lib.cell_of_heap (heap_new w6 (.cells #[.int .i64 (ps.length : Int)] 3)) 0
          have co1 : w6.cell? ⟨bb, 1, none⟩ = some (.slice (some ⟨go6, 0, none⟩) b2.opn.length co6) := Lib.cell_of_heap hB6.blk 1
          have hVo := isVoid_any l
          have HFin6 : Hid (∀ w7 v7, OwnsI w7 0 v7 ((b2.opn.map fun x : Nat => (x : Int)) ++ [(ps.length : Int)]) → (w6.alloc (.cells #[.int .i64 (ps.length : Int)] 3)).grownBy w7 (Value.slice (some ⟨go6, 0, none⟩) b2.opn.length co6).ownBlock → (v7.ownBlock = (Value.slice (some ⟨go6, 0, none⟩) b2.opn.length co6).ownBlock ∨ v7.ownBlock = some (w6.alloc (.cells #[.int .i64 (ps.length : Int)] 3)).heap.size) → SRest (AddT T (.slice aa ats.length ac)) bb mg w fst13 (.ok ⟨b2.nodes, b2.opn ++ [ps.length]⟩) 0 (w7.setCell ⟨bb, 1, none⟩ v7)) := fun w7 v7 h7 g7 hat7 => by
            obtain ⟨h8, h9⟩ := hB7.open' (op' := b2.opn ++ [ps.length]) (by rw [List.map_append]; exact h7) g7 hat7
            have hs7 := hbA.size
            refine ⟨rfl, _, _, _, _, h8, hpsn, (hO6.trans (OwnT.of (T := T5) hbA) hT5w).trans h9 hT5w, fun k hk => ?_⟩
            rcases hk with hk | hk
            · exact hT5w k hk
            · have := hO6.size
              exact .inr (by omega)
          have hkl6 : (b2.opn.map fun x : Nat => (x : Int)).length ≤ 10000000 := by rw [List.length_map]; omega
          have hblk6 := hB7.blk
          have hlen6 : (b2.opn.map fun x : Nat => (x : Int)).length = b2.opn.length := List.length_map ..
          have hopn7 : OwnsI (w6.alloc (.cells #[.int .i64 (ps.length : Int)] 3)) 0 (.slice (some ⟨go6, 0, none⟩) b2.opn.length co6) (b2.opn.map fun x : Nat => (x : Int)) := hB7.opn
          have hkeep6 : ∀ w7, (w6.alloc (.cells #[.int .i64 (ps.length : Int)] 3)).grownBy w7 (Value.slice (some ⟨go6, 0, none⟩) b2.opn.length co6).ownBlock → w7.heap[bb]? = (w6.alloc (.cells #[.int .i64 (ps.length : Int)] 3)).heap[bb]? := fun w7 g7 => (hB7.kept_bb (by simp) g7).1
          have hvoid : Hid (Tre.isVoid l = false) := hvd.out
          rw [hvoid.out] at hVo
          clear hB6 hB7 hbA hO6
          go_wp2_with (first
            | (go_at_call 69; refine (hVo _).mono ?_; rintro e w9 ⟨rfl, he9⟩; replace he9 := he9.symm; subst he9)
            | (at_builtin; refine wpList_append_I rfl (.tmp 77) (.tmp 79) rfl 0 (.slice (some ⟨go6, 0, none⟩) b2.opn.length co6) _ rfl hopn7 w6.heap.size 1 rfl (ps.length : Int) cA hkl6 (Nat.zero_le _) ?_; intro v7 w7 h7 g7 hat7; obtain ⟨xa7, xc7, e7⟩ := (OwnsI.reads h7).form; rw [List.length_append, List.length_singleton, hlen6] at e7; subst e7; have hbb7 := (hkeep6 w7 g7).trans hblk6; have c71 := Lib.cell_of_heap hbb7 1; have f71 := Lib.frozen_of_heap hbb7 1; have HQ := hideT (HFin6.out _ _ h7 g7 hat7)))
          go_ret
          exact ⟨0, rfl, HQ.out⟩
        · have q2 : ((str l).toList == [98, 111, 100, 121]) = false := lit13_no hlh
          have hhb : Tre.isHB l = false := by
            cases hq : Tre.isHB l
            · rfl
            · rcases (Tre.isHB_iff l).1 hq with e | e
              · exact absurd e hlh1
              · exact absurd e hlh
          have hsame := hideT (firstN_lay hlay (.inr hhb))
          clear hlh hlh1 hlay
          cases hvv : Tre.isVoid l
          · have hvd : Hid (Tre.isVoid l = false) := hvv
            rw [show (if false = true then b2 else (⟨b2.nodes, b2.opn ++ [ps.length]⟩ : Tre.St)) = ⟨b2.nodes, b2.opn ++ [ps.length]⟩ from rfl]
            clear hvv
            clear h h0 hva hva0 hF hOk hb0 hW0
            rw [htb] at tn ta hs0 hnT htk
            go_enter Tryz.func53, Tryz.ntmps53
            go_upto_region 1 with fail
            rw [HW0.out]
            (try rw [HTB.out])
            refine wp_region_held_drew (S := S) (by kernel_rfl) ((hS1 _).2 ⟨1, rfl⟩) (fun hS => ?_)
            refine takeH12 0 12 (.pointer (some ⟨bb, 0, none⟩)) rfl rfl (by kernel_rfl) (by kernel_rfl) (by kernel_rfl) (fun _ _ _ h => h) (Or.inl ⟨by kernel_rfl, fun W _ => by go_simp⟩) hS ?_
            simp only [Act.put, List.setIfInBounds_toArray, List.set_cons_zero, List.set_cons_succ]
            refine takeH12 1 13 (.pointer (some ⟨bb, 0, none⟩)) rfl rfl (by kernel_rfl) (by kernel_rfl) (by kernel_rfl) (fun _ _ _ h => h) (Or.inl ⟨by kernel_rfl, fun W _ => by go_simp⟩) hS ?_
            simp only [Act.put, List.setIfInBounds_toArray, List.set_cons_zero, List.set_cons_succ]
            refine takeH12 2 14 (.pointer (some ⟨bb, 2, none⟩)) rfl rfl (by kernel_rfl) (by kernel_rfl) (by kernel_rfl) (fun _ _ _ h => h) (Or.inl ⟨by kernel_rfl, fun W _ => by go_simp⟩) hS ?_
            simp only [Act.put, List.setIfInBounds_toArray, List.set_cons_zero, List.set_cons_succ]
            refine takeH12 3 15 (.map (some mg)) rfl rfl (by kernel_rfl) (by kernel_rfl) (by kernel_rfl) (fun _ _ _ h => h) (Or.inl ⟨by kernel_rfl, fun W hW => by obtain ⟨m, rfl⟩ := (hS1 W).1 hW; go_simp⟩) hS ?_
            simp only [Act.put, List.setIfInBounds_toArray, List.set_cons_zero, List.set_cons_succ]
            refine takeH12 4 16 (.pointer (some ⟨tb, 1, none⟩)) rfl rfl (by kernel_rfl) (by kernel_rfl) (by kernel_rfl) (fun _ _ _ h => h) (Or.inl ⟨by kernel_rfl, fun W _ => by go_simp⟩) hS ?_
            simp only [Act.put, List.setIfInBounds_toArray, List.set_cons_zero, List.set_cons_succ]
            refine takeH12 5 17 (.string (str l)) rfl rfl (by kernel_rfl) (by kernel_rfl) (by kernel_rfl) (fun _ _ _ h => h) (Or.inl ⟨by kernel_rfl, fun W hW => by obtain ⟨m, rfl⟩ := (hS1 W).1 hW; go_simp⟩) hS ?_
            simp only [Act.put, List.setIfInBounds_toArray, List.set_cons_zero, List.set_cons_succ]
            refine takeH12 6 18 (.tuple #[.int .i64 0, .bool false]) rfl rfl (by kernel_rfl) (by kernel_rfl) (by kernel_rfl) (fun _ _ _ h => h) (Or.inl ⟨by kernel_rfl, fun W hW => by obtain ⟨m, rfl⟩ := (hS1 W).1 hW; have hc := hLk m; go_simp⟩) hS ?_
            simp only [Act.put, List.setIfInBounds_toArray, List.set_cons_zero, List.set_cons_succ]
            refine takeH12 7 11 (.tuple #[.int .i64 0, .bool false]) rfl rfl (by kernel_rfl) (by kernel_rfl) (by kernel_rfl) (fun _ _ _ h => h) (Or.inl ⟨by kernel_rfl, fun W _ => by go_simp⟩) hS ?_
            simp only [Act.put, List.setIfInBounds_toArray, List.set_cons_zero, List.set_cons_succ]
            refine takeH12 8 19 (.int .i64 0) rfl rfl (by kernel_rfl) (by kernel_rfl) (by kernel_rfl) (fun _ _ _ h => h) (Or.inl ⟨by kernel_rfl, fun W _ => by go_simp⟩) hS ?_
            simp only [Act.put, List.setIfInBounds_toArray, List.set_cons_zero, List.set_cons_succ]
            refine takeH12 9 20 (.bool false) rfl rfl (by kernel_rfl) (by kernel_rfl) (by kernel_rfl) (fun _ _ _ h => h) (Or.inl ⟨by kernel_rfl, fun W _ => by go_simp⟩) hS ?_
            simp only [Act.put, List.setIfInBounds_toArray, List.set_cons_zero, List.set_cons_succ]
            refine takeH12 10 5 (.int .i64 0) rfl rfl (by kernel_rfl) (by kernel_rfl) (by kernel_rfl) (fun _ _ _ h => h) (Or.inl ⟨by kernel_rfl, fun W _ => by go_simp⟩) hS ?_
            simp only [Act.put, List.setIfInBounds_toArray, List.set_cons_zero, List.set_cons_succ]
            refine takeH12 11 6 (.bool false) rfl rfl (by kernel_rfl) (by kernel_rfl) (by kernel_rfl) (fun _ _ _ h => h) (Or.inl ⟨by kernel_rfl, fun W _ => by go_simp⟩) hS ?_
            simp only [Act.put, List.setIfInBounds_toArray, List.set_cons_zero, List.set_cons_succ]
            refine wpAnyH_done (by kernel_rfl) ?_ _
            obtain ⟨mm, hmm⟩ := (hS1 _).1 hS
            rw [hmm]
            clear hS hmm
            go_upto_region 8 with (first
              | (go_at_call 94; refine (hCB.out mm).mono ?_; rintro e w1 ⟨v1, v2, rfl, hk1, ho2, hb1⟩; obtain ⟨x2, d2, e2⟩ := ReadsTexts13.form ho2.reads; subst e2; have hb1a : Below W0.heap.size W0 w1 := (hB0 mm).trans (hb1.mono (Nat.le_refl _)); have hs1 := hb1a.size; have hbw1 : Below w1.heap.size w1 (w1.alloc (.cells #[.string ⟨#[98, 111, 100, 121]⟩, .string ⟨#[104, 116, 109, 108]⟩] 9)) := (Below.refl _ _).alloc (Nat.le_refl _) _)
              | (at_builtin; refine wpList_append_own _ rfl _ _ 62 rfl 0 9 i0 (.string ByteArray.empty) 1 16 Tryz.underlying62 hi0 hz0 hz1 hz2 rfl (by decide) _ _ _ rfl (World.ownsRow.alloc (OwnsTexts13.mono ho2 (Nat.zero_le _)) _) ⟨w1.heap.size, 0, none⟩ 2 2 [.string ⟨#[98, 111, 100, 121]⟩, .string ⟨#[104, 116, 109, 108]⟩] rfl rfl (cell_two_new w1 _ _ _) (fun y hy => by simp at hy; rcases hy with rfl | rfl <;> rfl) (by unfold maxLen; omega) (by omega) (Nat.zero_le _) ?_; intro v3 w3 h3 g3 n3; obtain ⟨x3, d3, e3⟩ := row_form h3 (by omega); subst e3; have hb3 : Below W0.heap.size W0 w3 := (hb1a.alloc hs1 _).grown g3 (by simp; omega) (fun q e => (World.ownsRow.lt ho2 q e).1); have hr3 : ReadsTexts w3 (.slice x3 (walls.length + 2) d3) (walls ++ [Tre.body, Tre.html]) := OwnsTexts.reads (B := 0) (by unfold OwnsTexts; rw [List.length_append, List.map_append]; exact h3); have hr1 := hk1 _ _ hbw1 g3)
              | (go_at_call 95; refine (HCL.out _ hb3 _ _ hr1 hr3).mono ?_; rintro e w4 ⟨rfl, ov4, h4, hO4⟩; have c40 := Lib.cell_of_heap h4.blk 0; have htk3 := (hb3.block tb (by omega)).trans htk; have htk4 := (hO4.block tb (Array.getElem?_eq_some_iff.1 htk3).1 hnT).trans htk3; have tn4 := Lib.cell_of_heap htk4 1; have ta4 := Lib.cell_of_heap htk4 2; have HL4 := hideT (HLay.out w3 w4 ov4 hb3 h4 hO4); have HO4 := hideT ((OwnT.of (T := T) (hbw0.out.trans (hb3.mono hbw0.out.size))).trans hO4 (fun k h => .inl h)); have hb4s : tb < w4.heap.size := (Array.getElem?_eq_some_iff.1 htk4).1))
            go_upto_region 9 with (go_at_call 96; refine HL4.out.mono ?_; rintro e w5 ⟨q, rfl, hp⟩; obtain ⟨rfl, T5, nv5, ov5, ps5, hB5, hpsn, hO5, hT5⟩ := hp)
            have hO5w : OwnT (AddT T (.slice aa ats.length ac)) w w5 := (HO4.out.wider (fun k h => .inl h)).trans hO5 (fun k h => .inl h)
            have hT5w : ∀ k, T5 k → AddT T (.slice aa ats.length ac) k ∨ w.heap.size ≤ k := fun k hk => (hT5 k hk).imp id (fun h => by have := HTB.out; omega)
            have htA : ¬ AddT T (.slice aa ats.length ac) tb := fun hk => by
              rcases hk with hk | hk
              · exact hnT hk
              · have := hvlt tb hk
                have := HTB.out
                omega
            have htk5 := (hO5.block tb hb4s htA).trans htk4
            have tn5 := Lib.cell_of_heap htk5 1
            have hb5s : tb < w5.heap.size := (Array.getElem?_eq_some_iff.1 htk5).1
            go_upto_region 13 with fail
            have hB6 := hB5
            rw [← hsame.out] at hB6
            have hO6 := hO5w
            have tn6 := tn5
            clear hB5 hO5 hO5w tn5 htk5
            rename World => w6
            have hov := hB6.oform (by omega)
            obtain ⟨go6, co6, e6, hco6, _⟩ := hov
            subst e6
            have hbA : Below w6.heap.size w6 (w6.alloc (.cells #[.int .i64 (ps.length : Int)] 3)) := (Below.refl _ _).alloc (Nat.le_refl _) _
            have hB7 := hB6.below hbA
            have cA := Lib.cell_of_heap (heap_new w6 (.cells #[.int .i64 (ps.length : Int)] 3)) 0
            have co1 : w6.cell? ⟨bb, 1, none⟩ = some (.slice (some ⟨go6, 0, none⟩) b2.opn.length co6) := Lib.cell_of_heap hB6.blk 1
            have hVo := isVoid_any l
            have HFin6 : Hid (∀ w7 v7, OwnsI w7 0 v7 ((b2.opn.map fun x : Nat => (x : Int)) ++ [(ps.length : Int)]) → (w6.alloc (.cells #[.int .i64 (ps.length : Int)] 3)).grownBy w7 (Value.slice (some ⟨go6, 0, none⟩) b2.opn.length co6).ownBlock → (v7.ownBlock = (Value.slice (some ⟨go6, 0, none⟩) b2.opn.length co6).ownBlock ∨ v7.ownBlock = some (w6.alloc (.cells #[.int .i64 (ps.length : Int)] 3)).heap.size) → SRest (AddT T (.slice aa ats.length ac)) bb mg w fst13 (.ok ⟨b2.nodes, b2.opn ++ [ps.length]⟩) 0 (w7.setCell ⟨bb, 1, none⟩ v7)) := fun w7 v7 h7 g7 hat7 => by
              obtain ⟨h8, h9⟩ := hB7.open' (op' := b2.opn ++ [ps.length]) (by rw [List.map_append]; exact h7) g7 hat7
              have hs7 := hbA.size
              refine ⟨rfl, _, _, _, _, h8, hpsn, (hO6.trans (OwnT.of (T := T5) hbA) hT5w).trans h9 hT5w, fun k hk => ?_⟩
              rcases hk with hk | hk
              · exact hT5w k hk
              · have := hO6.size
                exact .inr (by omega)
            have hkl6 : (b2.opn.map fun x : Nat => (x : Int)).length ≤ 10000000 := by rw [List.length_map]; omega
            have hblk6 := hB7.blk
            have hlen6 : (b2.opn.map fun x : Nat => (x : Int)).length = b2.opn.length := List.length_map ..
            have hopn7 : OwnsI (w6.alloc (.cells #[.int .i64 (ps.length : Int)] 3)) 0 (.slice (some ⟨go6, 0, none⟩) b2.opn.length co6) (b2.opn.map fun x : Nat => (x : Int)) := hB7.opn
            have hkeep6 : ∀ w7, (w6.alloc (.cells #[.int .i64 (ps.length : Int)] 3)).grownBy w7 (Value.slice (some ⟨go6, 0, none⟩) b2.opn.length co6).ownBlock → w7.heap[bb]? = (w6.alloc (.cells #[.int .i64 (ps.length : Int)] 3)).heap[bb]? := fun w7 g7 => (hB7.kept_bb (by simp) g7).1
            have hvoid : Hid (Tre.isVoid l = false) := hvd.out
            rw [hvoid.out] at hVo
            clear hB6 hB7 hbA hO6
            go_wp2_with (first
              | (go_at_call 69; refine (hVo _).mono ?_; rintro e w9 ⟨rfl, he9⟩; replace he9 := he9.symm; subst he9)
              | (at_builtin; refine wpList_append_I rfl (.tmp 77) (.tmp 79) rfl 0 (.slice (some ⟨go6, 0, none⟩) b2.opn.length co6) _ rfl hopn7 w6.heap.size 1 rfl (ps.length : Int) cA hkl6 (Nat.zero_le _) ?_; intro v7 w7 h7 g7 hat7; obtain ⟨xa7, xc7, e7⟩ := (OwnsI.reads h7).form; rw [List.length_append, List.length_singleton, hlen6] at e7; subst e7; have hbb7 := (hkeep6 w7 g7).trans hblk6; have c71 := Lib.cell_of_heap hbb7 1; have f71 := Lib.frozen_of_heap hbb7 1; have HQ := hideT (HFin6.out _ _ h7 g7 hat7)))
            go_ret
            exact ⟨0, rfl, HQ.out⟩
          · have hvd : Hid (Tre.isVoid l = true) := hvv
            rw [show (if true = true then b2 else (⟨b2.nodes, b2.opn ++ [ps.length]⟩ : Tre.St)) = b2 from rfl]
            have hVo := isVoid_any l
            rw [hvv] at hVo
            clear hvv
            clear h h0 hva hva0 hF hOk hb0 hW0
            rw [htb] at tn ta hs0 hnT htk
            go_enter Tryz.func53, Tryz.ntmps53
            go_upto_region 1 with fail
            rw [HW0.out]
            (try rw [HTB.out])
            refine wp_region_held_drew (S := S) (by kernel_rfl) ((hS1 _).2 ⟨1, rfl⟩) (fun hS => ?_)
            refine takeH12 0 12 (.pointer (some ⟨bb, 0, none⟩)) rfl rfl (by kernel_rfl) (by kernel_rfl) (by kernel_rfl) (fun _ _ _ h => h) (Or.inl ⟨by kernel_rfl, fun W _ => by go_simp⟩) hS ?_
            simp only [Act.put, List.setIfInBounds_toArray, List.set_cons_zero, List.set_cons_succ]
            refine takeH12 1 13 (.pointer (some ⟨bb, 0, none⟩)) rfl rfl (by kernel_rfl) (by kernel_rfl) (by kernel_rfl) (fun _ _ _ h => h) (Or.inl ⟨by kernel_rfl, fun W _ => by go_simp⟩) hS ?_
            simp only [Act.put, List.setIfInBounds_toArray, List.set_cons_zero, List.set_cons_succ]
            refine takeH12 2 14 (.pointer (some ⟨bb, 2, none⟩)) rfl rfl (by kernel_rfl) (by kernel_rfl) (by kernel_rfl) (fun _ _ _ h => h) (Or.inl ⟨by kernel_rfl, fun W _ => by go_simp⟩) hS ?_
            simp only [Act.put, List.setIfInBounds_toArray, List.set_cons_zero, List.set_cons_succ]
            refine takeH12 3 15 (.map (some mg)) rfl rfl (by kernel_rfl) (by kernel_rfl) (by kernel_rfl) (fun _ _ _ h => h) (Or.inl ⟨by kernel_rfl, fun W hW => by obtain ⟨m, rfl⟩ := (hS1 W).1 hW; go_simp⟩) hS ?_
            simp only [Act.put, List.setIfInBounds_toArray, List.set_cons_zero, List.set_cons_succ]
            refine takeH12 4 16 (.pointer (some ⟨tb, 1, none⟩)) rfl rfl (by kernel_rfl) (by kernel_rfl) (by kernel_rfl) (fun _ _ _ h => h) (Or.inl ⟨by kernel_rfl, fun W _ => by go_simp⟩) hS ?_
            simp only [Act.put, List.setIfInBounds_toArray, List.set_cons_zero, List.set_cons_succ]
            refine takeH12 5 17 (.string (str l)) rfl rfl (by kernel_rfl) (by kernel_rfl) (by kernel_rfl) (fun _ _ _ h => h) (Or.inl ⟨by kernel_rfl, fun W hW => by obtain ⟨m, rfl⟩ := (hS1 W).1 hW; go_simp⟩) hS ?_
            simp only [Act.put, List.setIfInBounds_toArray, List.set_cons_zero, List.set_cons_succ]
            refine takeH12 6 18 (.tuple #[.int .i64 0, .bool false]) rfl rfl (by kernel_rfl) (by kernel_rfl) (by kernel_rfl) (fun _ _ _ h => h) (Or.inl ⟨by kernel_rfl, fun W hW => by obtain ⟨m, rfl⟩ := (hS1 W).1 hW; have hc := hLk m; go_simp⟩) hS ?_
            simp only [Act.put, List.setIfInBounds_toArray, List.set_cons_zero, List.set_cons_succ]
            refine takeH12 7 11 (.tuple #[.int .i64 0, .bool false]) rfl rfl (by kernel_rfl) (by kernel_rfl) (by kernel_rfl) (fun _ _ _ h => h) (Or.inl ⟨by kernel_rfl, fun W _ => by go_simp⟩) hS ?_
            simp only [Act.put, List.setIfInBounds_toArray, List.set_cons_zero, List.set_cons_succ]
            refine takeH12 8 19 (.int .i64 0) rfl rfl (by kernel_rfl) (by kernel_rfl) (by kernel_rfl) (fun _ _ _ h => h) (Or.inl ⟨by kernel_rfl, fun W _ => by go_simp⟩) hS ?_
            simp only [Act.put, List.setIfInBounds_toArray, List.set_cons_zero, List.set_cons_succ]
            refine takeH12 9 20 (.bool false) rfl rfl (by kernel_rfl) (by kernel_rfl) (by kernel_rfl) (fun _ _ _ h => h) (Or.inl ⟨by kernel_rfl, fun W _ => by go_simp⟩) hS ?_
            simp only [Act.put, List.setIfInBounds_toArray, List.set_cons_zero, List.set_cons_succ]
            refine takeH12 10 5 (.int .i64 0) rfl rfl (by kernel_rfl) (by kernel_rfl) (by kernel_rfl) (fun _ _ _ h => h) (Or.inl ⟨by kernel_rfl, fun W _ => by go_simp⟩) hS ?_
            simp only [Act.put, List.setIfInBounds_toArray, List.set_cons_zero, List.set_cons_succ]
            refine takeH12 11 6 (.bool false) rfl rfl (by kernel_rfl) (by kernel_rfl) (by kernel_rfl) (fun _ _ _ h => h) (Or.inl ⟨by kernel_rfl, fun W _ => by go_simp⟩) hS ?_
            simp only [Act.put, List.setIfInBounds_toArray, List.set_cons_zero, List.set_cons_succ]
            refine wpAnyH_done (by kernel_rfl) ?_ _
            obtain ⟨mm, hmm⟩ := (hS1 _).1 hS
            rw [hmm]
            clear hS hmm
            go_upto_region 8 with (first
              | (go_at_call 94; refine (hCB.out mm).mono ?_; rintro e w1 ⟨v1, v2, rfl, hk1, ho2, hb1⟩; obtain ⟨x2, d2, e2⟩ := ReadsTexts13.form ho2.reads; subst e2; have hb1a : Below W0.heap.size W0 w1 := (hB0 mm).trans (hb1.mono (Nat.le_refl _)); have hs1 := hb1a.size; have hbw1 : Below w1.heap.size w1 (w1.alloc (.cells #[.string ⟨#[98, 111, 100, 121]⟩, .string ⟨#[104, 116, 109, 108]⟩] 9)) := (Below.refl _ _).alloc (Nat.le_refl _) _)
              | (at_builtin; refine wpList_append_own _ rfl _ _ 62 rfl 0 9 i0 (.string ByteArray.empty) 1 16 Tryz.underlying62 hi0 hz0 hz1 hz2 rfl (by decide) _ _ _ rfl (World.ownsRow.alloc (OwnsTexts13.mono ho2 (Nat.zero_le _)) _) ⟨w1.heap.size, 0, none⟩ 2 2 [.string ⟨#[98, 111, 100, 121]⟩, .string ⟨#[104, 116, 109, 108]⟩] rfl rfl (cell_two_new w1 _ _ _) (fun y hy => by simp at hy; rcases hy with rfl | rfl <;> rfl) (by unfold maxLen; omega) (by omega) (Nat.zero_le _) ?_; intro v3 w3 h3 g3 n3; obtain ⟨x3, d3, e3⟩ := row_form h3 (by omega); subst e3; have hb3 : Below W0.heap.size W0 w3 := (hb1a.alloc hs1 _).grown g3 (by simp; omega) (fun q e => (World.ownsRow.lt ho2 q e).1); have hr3 : ReadsTexts w3 (.slice x3 (walls.length + 2) d3) (walls ++ [Tre.body, Tre.html]) := OwnsTexts.reads (B := 0) (by unfold OwnsTexts; rw [List.length_append, List.map_append]; exact h3); have hr1 := hk1 _ _ hbw1 g3)
              | (go_at_call 95; refine (HCL.out _ hb3 _ _ hr1 hr3).mono ?_; rintro e w4 ⟨rfl, ov4, h4, hO4⟩; have c40 := Lib.cell_of_heap h4.blk 0; have htk3 := (hb3.block tb (by omega)).trans htk; have htk4 := (hO4.block tb (Array.getElem?_eq_some_iff.1 htk3).1 hnT).trans htk3; have tn4 := Lib.cell_of_heap htk4 1; have ta4 := Lib.cell_of_heap htk4 2; have HL4 := hideT (HLay.out w3 w4 ov4 hb3 h4 hO4); have HO4 := hideT ((OwnT.of (T := T) (hbw0.out.trans (hb3.mono hbw0.out.size))).trans hO4 (fun k h => .inl h)); have hb4s : tb < w4.heap.size := (Array.getElem?_eq_some_iff.1 htk4).1))
            go_upto_region 9 with (go_at_call 96; refine HL4.out.mono ?_; rintro e w5 ⟨q, rfl, hp⟩; obtain ⟨rfl, T5, nv5, ov5, ps5, hB5, hpsn, hO5, hT5⟩ := hp)
            have hO5w : OwnT (AddT T (.slice aa ats.length ac)) w w5 := (HO4.out.wider (fun k h => .inl h)).trans hO5 (fun k h => .inl h)
            have hT5w : ∀ k, T5 k → AddT T (.slice aa ats.length ac) k ∨ w.heap.size ≤ k := fun k hk => (hT5 k hk).imp id (fun h => by have := HTB.out; omega)
            have htA : ¬ AddT T (.slice aa ats.length ac) tb := fun hk => by
              rcases hk with hk | hk
              · exact hnT hk
              · have := hvlt tb hk
                have := HTB.out
                omega
            have htk5 := (hO5.block tb hb4s htA).trans htk4
            have tn5 := Lib.cell_of_heap htk5 1
            have hb5s : tb < w5.heap.size := (Array.getElem?_eq_some_iff.1 htk5).1
            go_upto_region 13 with fail
            have hB6 := hB5
            rw [← hsame.out] at hB6
            have HQ : Hid (SRest (AddT T (.slice aa ats.length ac)) bb mg w fst13 (.ok b2) 0 w5) := ⟨rfl, T5, _, _, _, hB6, hpsn, hO5w, hT5w⟩
            clear hB6 hB5 hO5 hO5w htk5
            go_wp2_with (go_at_call 69; refine (hVo _).mono ?_; rintro e w9 ⟨rfl, he9⟩; replace he9 := he9.symm; subst he9)
            go_ret
            exact ⟨0, rfl, HQ.out⟩
end
end Go.Proofs.YtiodaahncadodaaGreatDoor
/- The contract of a builder's add: a step. -/
namespace Go.Proofs.YtiodaahncadodaaGreatDoor
open Go.RowKit Go.Maps Go.WideMaps
theorem SRest.wider {T T' : Nat → Prop} {bb mg : Nat} {w w' : World} {F : Tre.St → List UInt8 → Option Nat} {r : Except Nat Tre.St} {q : Nat} (h : SRest T bb mg w F r q w') (hT : ∀ k, T k → T' k) : SRest T' bb mg w F r q w' := by
  cases r with
  | error k => exact ⟨h.1, h.2.wider hT⟩
  | ok b' => exact ⟨h.1, h.2.wider hT⟩
section
variable {w : World} {T : Nat → Prop} {bb mg : Nat} {nv ov : Value} {ps : List PN} {op : List Nat}
set_option maxHeartbeats 4000000 in
set_option maxRecDepth 100000 in
theorem Tadd_any {M : Nat} (h : BAt w T bb mg nv ov ps op (Tre.firstN (ps.map (·.1)))) (hOk : Tre.Ok ⟨ps.map (·.1), op⟩ M) (hM : M ≤ 100000000000) (k : Tk.Tok) (hl : k.name.length ≤ 1000000000) (hats : k.attrs.length ≤ 64) (hx : k.text.length ≤ 100000000000) (aa : Option Addr) (ac : Nat) (hva : OwnsA w 0 (.slice aa k.attrs.length ac) k.attrs) (hvf : ∀ i, (Value.slice aa k.attrs.length ac).ownBlock = some i → ¬ T i) :
    Calls Tryz.prog 25 #[.pointer (some ⟨bb, 0, none⟩), tokI k.kind k.name (.slice aa k.attrs.length ac) k.self k.text] w (SPost (AddT T (.slice aa k.attrs.length ac)) bb mg w fst13 (Tre.step ⟨ps.map (·.1), op⟩ k)) := by
  obtain ⟨kd, l, ats, sf, x⟩ := k
  simp only at hl hats hx hva hvf ⊢
  have hlm : (ps.map (·.1)).length = ps.length := List.length_map ..
  have hb0 : Below w.heap.size w (w.alloc (.cells (kCells kd l (.slice aa ats.length ac) sf x) 56)) := (Below.refl _ w).alloc (Nat.le_refl _) _
  have htk : KAt (w.alloc (.cells (kCells kd l (.slice aa ats.length ac) sf x) 56)) w.heap.size (kCells kd l (.slice aa ats.length ac) sf x) := heap_new w _
  have h0 := h.below hb0
  have hva0 := OwnsPairs.below hva hb0
  have tk0 := Lib.cell_of_heap htk 0
  have tk1 := Lib.cell_of_heap htk 1
  have tk4 := Lib.cell_of_heap htk 4
  have hO0 : OwnT T w (w.alloc (.cells (kCells kd l (.slice aa ats.length ac) sf x) 56)) := OwnT.of hb0
  unfold Tre.step
  simp only
  by_cases h1 : kd = 1
  · subst h1
    have HC := hideT (Tstart_any h0 hOk l hl ats hats aa ac hva0 hvf 1 sf x)
    have HO := hideT hO0
    rw [if_pos rfl]
    clear h h0 hva hva0 hb0 hvf hO0 hOk
    go_enter Tryz.func25, Tryz.ntmps25
    go_wp2_with (first
      | (go_at_call 53; refine HC.out.mono ?_; rintro e w2 ⟨q, rfl, hp⟩; have HP := hideT (hp.base (HO.out.wider (fun k h => .inl h))); clear hp)
      | (refine wpList_load_K _ rfl rfl w.heap.size _ _ _ _ _ rfl htk ?_))
    go_ret
    exact ⟨q, rfl, HP.out⟩
  · have q1 : ((kd : Int) == 1) = false := by simp; omega
    rw [if_neg h1]
    by_cases h2 : kd = 2
    · subst h2
      have HC := hideT (Tend_any h0 (by have := hOk.op1; simp only at this; omega) (by have := hOk.op1; simp only at this; omega) (fun y hy => by have := hOk.opin y hy; simp only [hlm] at this; exact this) l)
      have HO := hideT hO0
      rw [if_pos rfl]
      clear h h0 hva hva0 hb0 hvf hO0 hOk
      go_enter Tryz.func25, Tryz.ntmps25
      go_wp2_with (go_at_call 54; refine HC.out.mono ?_; rintro e w2 ⟨rfl, ov2, hB2, hO2⟩; have HP : Hid (SRest (AddT T (.slice aa ats.length ac)) bb mg w fst13 (.ok (Tre.endT ⟨ps.map (·.1), op⟩ l)) 0 w2) := ⟨rfl, T, nv, ov2, ps, hB2, rfl, (HO.out.trans hO2 (fun k h => .inl h)).wider (fun k h => .inl h), fun k hk => .inl (.inl hk)⟩; clear hB2 hO2)
      go_ret
      exact ⟨0, rfl, HP.out⟩
    · have q2 : ((kd : Int) == 2) = false := by simp; omega
      rw [if_neg h2]
      by_cases h3 : kd = 3
      · subst h3
        have HC := hideT (text_any h0 hOk x hM hx)
        have HO := hideT hO0
        rw [if_pos rfl]
        clear h h0 hva hva0 hb0 hvf hO0 hOk
        go_enter Tryz.func25, Tryz.ntmps25
        go_wp2_with (go_at_call 55; refine HC.out.mono ?_; rintro e w2 ⟨q, rfl, hp⟩; have HP := hideT (hp.base HO.out); clear hp)
        go_ret
        exact ⟨q, rfl, HP.out.wider (fun k h => .inl h)⟩
      · have q3 : ((kd : Int) == 3) = false := by simp; omega
        rw [if_neg h3]
        have HP : Hid (SRest (AddT T (.slice aa ats.length ac)) bb mg w fst13 (.ok ⟨ps.map (·.1), op⟩) 0 (w.alloc (.cells (kCells kd l (.slice aa ats.length ac) sf x) 56))) := ⟨rfl, T, nv, ov, ps, h0, rfl, hO0.wider (fun k h => .inl h), fun k hk => .inl (.inl hk)⟩
        clear h h0 hva hva0 hb0 hvf hO0 hOk
        go_enter Tryz.func25, Tryz.ntmps25
        go_wp2_with fail
        go_ret
        exact ⟨0, rfl, HP.out⟩
end
end Go.Proofs.YtiodaahncadodaaGreatDoor
/- A new builder. -/
namespace Go.Proofs.YtiodaahncadodaaGreatDoor
open Go.RowKit Go.Maps Go.WideMaps
def root13 : PN := (Tre.root, .slice none 0 0, .slice none 0 0)
theorem row_new13 (w : World) (t : TypeId) (s : Nat) (n : Nat) (xs : List Value) (hn : n ≤ 1000) (hl : xs.length = n * s) : (w.alloc (.cells xs.toArray t)).ownsRow w.heap.size t s (.slice (some ⟨w.heap.size, 0, none⟩) n n) n xs := by
  refine ⟨hl, .inr ⟨w.heap.size, n, xs.toArray, rfl, Nat.le_refl _, heap_new w _, Nat.le_refl _, by unfold maxLen; omega, by simp [hl], ?_⟩⟩
  rw [List.take_of_length_le (by simp [hl])]
theorem sizeB13 : (Tryz.prog.info? 54).map (·.size) = some 3 := by kernel_rfl
theorem sizeDoc13 : (Tryz.prog.info? 26).map (·.size) = some 1 := by kernel_rfl
theorem ret_B13 {fn : Func} {p : Tmp} {Q : Ending → World → Prop} {a : Act} {w : World} {b : Nat} {x0 x1 x2 : Value} (hr : fn.results = #[.cell p 54]) (hd : a.defers = []) (hp : a.tmps.getD p undef = .pointer (some ⟨b, 0, none⟩)) (h : w.heap[b]? = some (.cells #[x0, x1, x2] 54 (0, 0))) (hQ : Q (.returned (.agg #[x0, x1, x2])) w) :
    bodyPost Tryz.prog fn Q .ret a w := by
  have hl : (loadVar 54 ⟨b, 0, none⟩).run Tryz.prog w = .ok (.agg #[x0, x1, x2]) w := run_loadVar_row _ _ _ _ _ _ _ h Tryz.underlying54 rfl sizeB13
  refine bodyPost_ret (v := .agg #[x0, x1, x2]) ?_ hd hQ
  rw [results_cell hr, hp]
  simp [asAddr, Result.andThen, hl]
theorem ret_D13 {fn : Func} {p q : Tmp} {Q : Ending → World → Prop} {a : Act} {w : World} {b : Nat} {x0 x : Value} (hr : fn.results = #[.cell p 26, .tmp q]) (hd : a.defers = []) (hp : a.tmps.getD p undef = .pointer (some ⟨b, 0, none⟩)) (hx : a.tmps.getD q undef = x) (h : w.heap[b]? = some (.cells #[x0] 26 (0, 0))) (hQ : Q (.returned (.tuple #[.agg #[x0], x])) w) :
    bodyPost Tryz.prog fn Q .ret a w := by
  have hl : (loadVar 26 ⟨b, 0, none⟩).run Tryz.prog w = .ok (.agg #[x0]) w := run_loadVar_row _ _ _ _ _ _ _ h Tryz.underlying26 rfl sizeDoc13
  refine bodyPost_ret (v := .tuple #[.agg #[x0], x]) ?_ hd hQ
  rw [results_cell_tmp hr, hp, hx]
  simp [asAddr, Result.andThen, hl]
def NewBPost (w : World) (e : Ending) (w' : World) : Prop :=
  ∃ g g2 mg, e = .returned (.agg #[.slice (some ⟨g, 0, none⟩) 1 1, .slice (some ⟨g2, 0, none⟩) 1 1, .map (some mg)]) ∧ w'.ownsRow w.heap.size 43 6 (.slice (some ⟨g, 0, none⟩) 1 1) 1 (nCells [root13]) ∧ OwnsI w' w.heap.size (.slice (some ⟨g2, 0, none⟩) 1 1) [0] ∧ FAt w' mg 0 (fun _ => none) ∧ w.heap.size ≤ g ∧ w.heap.size ≤ g2 ∧ w.heap.size ≤ mg ∧ g ≠ g2 ∧ g ≠ mg ∧ g2 ≠ mg ∧ Below w.heap.size w w'
set_option maxHeartbeats 4000000 in
set_option maxRecDepth 100000 in
theorem newB_any (w : World) :
    Calls Tryz.prog 24 #[] w (NewBPost w) := by
  have hmm := @run_makeMap Tryz.prog
  go_enter Tryz.func24, Tryz.ntmps24
  go_wp2
  generalize hW1 : (w.alloc (Obj.cells #[Value.slice (some { block := w.heap.size + 1, off := 0 }) 1 1, Value.slice (some { block := w.heap.size + 1 + 1, off := 0 }) 1 1, Value.map (some (w.heap.size + 1 + 1 + 1))] 54)) = W1
  have hb1 : Below w.heap.size w W1 := hW1 ▸ (Below.refl _ _).alloc (Nat.le_refl _) _
  have hs1 : W1.heap.size = w.heap.size + 1 := by rw [← hW1]; simp
  have hb2 : Below W1.heap.size W1 (W1.alloc (.cells (nCells [root13]).toArray 43)) := (Below.refl _ _).alloc (Nat.le_refl _) _
  have hr2 := row_new13 W1 43 6 1 (nCells [root13]) (by decide) rfl
  have hs2 : (W1.alloc (.cells (nCells [root13]).toArray 43)).heap.size = w.heap.size + 2 := by simp [hs1]
  have hb3 : Below (W1.alloc (.cells (nCells [root13]).toArray 43)).heap.size _ ((W1.alloc (.cells (nCells [root13]).toArray 43)).alloc (.cells #[.int .i64 0] 3)) := (Below.refl _ _).alloc (Nat.le_refl _) _
  have hr3 := row_new13 (W1.alloc (.cells (nCells [root13]).toArray 43)) 3 1 1 (isL [0]) (by decide) rfl
  have hs3 : ((W1.alloc (.cells (nCells [root13]).toArray 43)).alloc (.cells #[.int .i64 0] 3)).heap.size = w.heap.size + 3 := by simp [hs1]
  have hb4 : Below ((W1.alloc (.cells (nCells [root13]).toArray 43)).alloc (.cells #[.int .i64 0] 3)).heap.size _ (((W1.alloc (.cells (nCells [root13]).toArray 43)).alloc (.cells #[.int .i64 0] 3)).alloc (.map #[] 0)) := (Below.refl _ _).alloc (Nat.le_refl _) _
  have hm4 := FAt.made ((W1.alloc (.cells (nCells [root13]).toArray 43)).alloc (.cells #[.int .i64 0] 3))
  have hc0 : (((W1.alloc (.cells (nCells [root13]).toArray 43)).alloc (.cells #[.int .i64 0] 3)).alloc (.map #[] 0)).heap[w.heap.size]? = some (.cells #[Value.slice (some { block := w.heap.size + 1, off := 0 }) 1 1, Value.slice (some { block := w.heap.size + 1 + 1, off := 0 }) 1 1, Value.map (some (w.heap.size + 1 + 1 + 1))] 54 (0, 0)) := by
    rw [hb4.block _ (by omega), hb3.block _ (by omega), hb2.block _ (by omega), ← hW1]
    exact heap_new w _
  have HP : Hid (NewBPost w (.returned (.agg #[.slice (some ⟨w.heap.size + 1, 0, none⟩) 1 1, .slice (some ⟨w.heap.size + 1 + 1, 0, none⟩) 1 1, .map (some (w.heap.size + 1 + 1 + 1))])) (((W1.alloc (.cells (nCells [root13]).toArray 43)).alloc (.cells #[.int .i64 0] 3)).alloc (.map #[] 0))) := by
    refine ⟨_, _, _, rfl, ?_, ?_, ?_, by omega, by omega, by omega, by omega, by omega, by omega, ?_⟩
    · rw [← hs1]
      exact ownsRow_below (ownsRow_below (row_mono13 hr2 (by omega)) hb3) hb4
    · rw [show w.heap.size + 1 + 1 = (W1.alloc (.cells (nCells [root13]).toArray 43)).heap.size from by omega]
      exact ownsRow_below (row_mono13 hr3 (by omega)) hb4
    · rw [show w.heap.size + 1 + 1 + 1 = ((W1.alloc (.cells (nCells [root13]).toArray 43)).alloc (.cells #[.int .i64 0] 3)).heap.size from by omega]
      exact hm4
    · exact hb1.trans ((hb2.trans ((hb3.trans (hb4.mono (by omega))).mono (by omega))).mono (by omega))
  exact ret_B13 rfl rfl rfl hc0 HP.out
theorem slots_root13 (nv ov : Value) : slotsB nv ov [root13] = [nv, ov, .slice none 0 0, .slice none 0 0] := rfl
/-- A builder that has just been made. -/
theorem BAt.new {w w1 w2 : World} {g g2 mg bb : Nat} (hr : w1.ownsRow w.heap.size 43 6 (.slice (some ⟨g, 0, none⟩) 1 1) 1 (nCells [root13])) (ho : OwnsI w1 w.heap.size (.slice (some ⟨g2, 0, none⟩) 1 1) [0]) (hf : FAt w1 mg 0 (fun _ => none)) (h1 : g ≠ g2) (h2 : g ≠ mg) (h3 : g2 ≠ mg) (hm : w.heap.size ≤ mg) (hbb : bb = w1.heap.size)
    (hw2 : Below w1.heap.size w1 w2) (hs : bb < w2.heap.size) (hc : w2.heap[bb]? = some (.cells #[.slice (some ⟨g, 0, none⟩) 1 1, .slice (some ⟨g2, 0, none⟩) 1 1, .map (some mg)] 54 (0, 0))) (hww : w.heap.size ≤ w1.heap.size) :
    BAt w2 (fun k => w.heap.size ≤ k ∧ k < w2.heap.size) bb mg (.slice (some ⟨g, 0, none⟩) 1 1) (.slice (some ⟨g2, 0, none⟩) 1 1) [root13] [0] (Tre.firstN ([root13].map (·.1))) := by
  have hF : (Tre.firstN ([root13].map (·.1))) = fun _ => none := by
    funext t
    unfold Tre.firstN
    split
    · rfl
    · rfl
  have hml := hf.lt
  have hgl := World.ownsRow.lt hr g rfl
  have hg2l := World.ownsRow.lt ho g2 rfl
  have hs2 := hw2.size
  rw [hF]
  refine ⟨hc, row_mono13 (ownsRow_below hr hw2) (Nat.zero_le _), row_mono13 (ownsRow_below ho hw2) (Nat.zero_le _), ?_, ?_, ?_, ?_, ?_, ⟨by omega, hs⟩, ⟨hm, by omega⟩, by omega, fun k hk => hk.2⟩
  · exact hf.keep (hw2.block mg hml)
  · intro i p hp
    rcases i with _ | i
    · simp at hp
      subst hp
      exact OwnsPairs.nil _ _ _
    · simp at hp
  · intro i p hp
    rcases i with _ | i
    · simp at hp
      subst hp
      exact OwnsI.nil _ _
    · simp at hp
  · intro a b u v ha hb hab k e1 e2
    rw [slots_root13] at ha hb
    rcases a with _ | _ | _ | _ | a <;> rcases b with _ | _ | _ | _ | b <;> simp at ha hb <;> subst ha <;> subst hb <;> simp [Value.ownBlock] at e1 e2 <;> omega
  · intro v hv k e
    rw [slots_root13] at hv
    simp at hv
    rcases hv with rfl | rfl | rfl <;> simp [Value.ownBlock] at e <;> subst e <;> omega
end Go.Proofs.YtiodaahncadodaaGreatDoor
