/- Texts laid as one. -/
import Derived.Test.YtiodaahncadodabGreatDoorKTreAE
import Derived.Test.YtiodaahncadodabGreatDoorKTkQR
import Derived.Test.YtiodaahncadodabGreatDoorKTreM
/- Families of rows of numbers of one's own; the contract of the reference's kids. -/
set_option linter.unusedVariables false
set_option linter.unusedSimpArgs false
namespace Go.Proofs.YtiodaahncadodabGreatDoor
open Go.RowKit
def isL (ks : List Int) : List Value := ks.map fun x => .int .i64 x
abbrev OwnsI (w : World) (B : Nat) (v : Value) (ks : List Int) : Prop := w.ownsRow B 3 1 v ks.length (isL ks)
theorem OwnsI.nil (w : World) (B : Nat) : OwnsI w B (.slice none 0 0) [] := World.ownsRow_nil _ _ _ _
theorem OwnsI.reads {w : World} {B : Nat} {v : Value} {ks : List Int} (h : OwnsI w B v ks) : ReadsIs w v ks := by
  have h0 := h
  rcases h.2 with ⟨rfl, hz⟩ | ⟨g, cap, cur, rfl, _, hg, hc, _, hcs, ht⟩
  · exact .inl ⟨_, _, rfl, List.eq_nil_of_length_eq_zero hz⟩
  · refine .inr ⟨g, 0, cap, rfl, hc, fun j x hj => ?_⟩
    have hlt : j < ks.length := (List.getElem?_eq_some_iff.1 hj).1
    have := World.ownsRow.cellAt (w := w) (base := B) (e := 3) (size := 1) (g := g) (cap := cap) (n := ks.length) (xs := isL ks) h0 j (by omega)
    rw [Nat.zero_add, this]
    unfold isL
    rw [List.getElem?_map, hj]
    rfl
/-- One further number. -/
theorem run_append_I (w : World) (ty : TypeId) (B : Nat) (v : Value) (ks : List Int) (h : OwnsI w B v ks) (ad : Addr) (c : Nat) (x : Int) (hx : w.cell? ad = some (.int .i64 x)) (hs : ad.spot = none) (hlen : ks.length ≤ 10000000) (hB : B ≤ w.heap.size) :
    ∃ v' w', (Builtin.append_ #[36, 36] ty #[v, .slice (some ad) 1 c]).run Tryz.prog w = .ok v' w' ∧ OwnsI w' B v' (ks ++ [x]) ∧ w.grownBy w' v.ownBlock ∧ (v'.ownBlock = v.ownBlock ∨ v'.ownBlock = some w.heap.size) := by
  obtain ⟨i0, hi, hz0, hz1, hz2⟩ := info_parts infoInt13
  obtain ⟨v', w', h1, h2, h3, _, h5⟩ := run_append_own_at (P := Tryz.prog) w B 36 ty 3 i0 (.int .i64 0) 1 8 Tryz.underlying36 hi hz0 hz1 hz2 rfl (by decide) v _ _ h ad 1 c [.int .i64 x] rfl (fun j u hj => by
    rcases j with _ | j
    · simp at hj
      subst hj
      obtain ⟨b, o, s⟩ := ad
      simp only at hs
      subst hs
      rw [add_addr]
      exact hx
    · simp at hj) (fun u hu => by simp at hu; subst hu; rfl) (by unfold maxLen; omega) (by omega) hB
  refine ⟨v', w', h1, ?_, h3, h5⟩
  unfold OwnsI isL
  rw [List.map_append, List.length_append]
  exact h2
theorem wpList_append_I {w : World} {ops : Array Oper} {rest : List Oper} {o : Oper} {a : Act} {Q : Exit → Act → World → Prop} (hgd : o.guard = none) (s x : Operand)
    (ho : o.op = .call { callee := .builtin .append, args := #[s, x], argTypes := #[36, 36] }) (B : Nat) (v : Value) (ks : List Int) (hs : a.eval s = v) (hown : OwnsI w B v ks) (g c : Nat) (hx : a.eval x = .slice (some ⟨g, 0, none⟩) 1 c) (y : Int) (hg : w.cell? ⟨g, 0, none⟩ = some (.int .i64 y)) (hlen : ks.length ≤ 10000000) (hB : B ≤ w.heap.size)
    (h : ∀ v' w', OwnsI w' B v' (ks ++ [y]) → w.grownBy w' v.ownBlock → (v'.ownBlock = v.ownBlock ∨ v'.ownBlock = some w.heap.size) → wpList Tryz.prog ops Q rest (a.put o.dst v') w') : wpList Tryz.prog ops Q (o :: rest) a w :=
  wpList_plain hgd fun _ hK => by
    obtain ⟨v', w', hr, h2, h3, h4⟩ := run_append_I w o.type B v ks hown ⟨g, 0, none⟩ c y hg rfl hlen hB
    unfold Oper.wp execOp
    simp only [ho, resolve, invoke, builtin, Sem.run_bind, Sem.run_pure, Result.andThen_ok, List.map_toArray, List.map_cons, List.map_nil, hs, hx, hr]
    exact hK _ _ (h v' w' h2 h3 h4)
/-- Rows of numbers of one's own, no two in one block. -/
structure Fam (w : World) (B : Nat) (vs : List Value) (f : Nat → List Int) : Prop where
  own : ∀ (u : Nat) v, vs[u]? = some v → OwnsI w B v (f u)
  apart : ∀ (u y : Nat) v x, vs[u]? = some v → vs[y]? = some x → u ≠ y → ApK v x
theorem Fam.keep {w w' : World} {B : Nat} {vs : List Value} {f : Nat → List Int} (h : Fam w B vs f) (hk : ∀ k, B ≤ k → k < w.heap.size → w'.heap[k]? = w.heap[k]?) : Fam w' B vs f :=
  ⟨fun u v hu => row_keepK (h.own u v hu) (fun k e hl => hk k (World.ownsRow.lt (h.own u v hu) k e).1 hl), h.apart⟩
theorem Fam.below {w w' : World} {B : Nat} {vs : List Value} {f : Nat → List Int} (h : Fam w B vs f) (hb : Below w.heap.size w w') : Fam w' B vs f := h.keep (fun k _ hl => hb.block k hl)
theorem Fam.nil (w : World) (B n : Nat) : Fam w B (List.replicate n (.slice none 0 0)) (fun _ => []) := by
  have h0 : ∀ (u : Nat) (v : Value), (List.replicate n (Value.slice none 0 0))[u]? = some v → v = .slice none 0 0 := fun u v hu => by
    rw [List.getElem?_replicate] at hu
    split at hu
    · exact (Option.some.inj hu).symm
    · cases hu
  refine ⟨fun u v hu => ?_, fun u y v x hu hy hne k hk => ?_⟩
  · rw [h0 u v hu]
    exact OwnsI.nil _ _
  · rw [h0 u v hu] at hk
    cases hk
theorem Fam.push {w w' : World} {B : Nat} {vs : List Value} {f g : Nat → List Int} (h : Fam w B vs f) {u : Nat} {v v' : Value} (hu : vs[u]? = some v) (h1 : OwnsI w' B v' (g u)) (h2 : w.grownBy w' v.ownBlock) (h3 : v'.ownBlock = v.ownBlock ∨ v'.ownBlock = some w.heap.size) (hg : ∀ y, y ≠ u → g y = f y) : Fam w' B (vs.set u v') g := by
  have hul : u < vs.length := (List.getElem?_eq_some_iff.1 hu).1
  have hap : ∀ y x, vs[y]? = some x → y ≠ u → ApK x v' := fun y x hy hne k e1 e2 => by
    rcases h3 with e | e
    · exact h.apart y u x v hy hu hne k e1 (by rw [← e]; exact e2)
    · rw [e] at e2
      cases e2
      have := (World.ownsRow.lt (h.own y x hy) _ e1).2
      omega
  refine ⟨fun y x hy => ?_, fun y z x q hy hz hne => ?_⟩
  · rw [List.getElem?_set] at hy
    by_cases e : u = y
    · subst e
      rw [if_pos rfl, if_pos hul] at hy
      cases hy
      exact h1
    · rw [if_neg e] at hy
      rw [hg y (fun e2 => e e2.symm)]
      exact row_keepK (h.own y x hy) (fun k ek hl => h2.block k hl (fun e2 => h.apart y u x v hy hu (fun e3 => e e3.symm) k ek e2.symm))
  · rw [List.getElem?_set] at hy hz
    by_cases e : u = y
    · subst e
      rw [if_pos rfl, if_pos hul] at hy
      rw [if_neg hne] at hz
      cases hy
      exact fun k e1 e2 => hap z q hz (fun e => hne e.symm) k e2 e1
    · rw [if_neg e] at hy
      by_cases e2 : u = z
      · subst e2
        rw [if_pos rfl, if_pos hul] at hz
        cases hz
        exact hap y x hy (fun e3 => e e3.symm)
      · rw [if_neg e2] at hz
        exact h.apart y z x q hy hz hne
theorem infoIs13 : (Tryz.prog.info? 36).map (fun i => (i.zero, i.size, i.bytes)) = some (some (.slice none 0 0), 1, 24) := by kernel_rfl
/-- What the reference's kids answers: of each node the places of those that lie in it. -/
def KidsAt (w : World) (g : Nat) (ns : List Nd) : Prop := ∀ u, u < ns.length → ∃ a c, w.cell? ⟨g, u, none⟩ = some (.slice a (Tre.kidsTo ns u ns.length).length c) ∧ ReadsIs w (.slice a (Tre.kidsTo ns u ns.length).length c) (Tre.kidsTo ns u ns.length)
theorem KidsAt.below {w w' : World} {g : Nat} {ns : List Nd} (h : KidsAt w g ns) (hb : Below w.heap.size w w') : KidsAt w' g ns := fun u hu => by
  obtain ⟨a, c, h1, h2⟩ := h u hu
  exact ⟨a, c, (hb.cell (p := ⟨g, u, none⟩) (cell_lt h1)).trans h1, h2.below hb⟩
end Go.Proofs.YtiodaahncadodabGreatDoor
/- The contracts of tree's isVoid, isBlock, closedBy, of slices.Contains and the reference's Has. -/
set_option linter.unusedVariables false
set_option linter.unusedSimpArgs false
namespace Go.Proofs.YtiodaahncadodabGreatDoor
open Go.RowKit
theorem lit13_no {l m : List UInt8} (h : ¬ l = m) : ((str l).toList == m) = false := by rw [str_list]; exact beq_eq_false_iff_ne.2 h
theorem lit13_yes {l m : List UInt8} (h : l = m) : ((str l).toList == m) = true := by rw [str_list, h]; exact beq_self_eq_true m
theorem con_yes {a : List UInt8} {l : List (List UInt8)} (h : a ∈ l) : l.contains a = true := by simpa using h
theorem own_lit (w : World) (ts : List (List UInt8)) (h : ts.length ≤ 1000) : OwnsTexts (w.alloc (.cells (ts.map strV).toArray 9)) w.heap.size (.slice (some ⟨w.heap.size, 0, none⟩) ts.length ts.length) ts := by
  refine ⟨by simp, .inr ⟨w.heap.size, ts.length, (ts.map strV).toArray, rfl, Nat.le_refl _, heap_new w _, Nat.le_refl _, by unfold maxLen; omega, by simp, ?_⟩⟩
  rw [Nat.mul_one, List.take_of_length_le (by simp)]
theorem row_mono13 {w : World} {B C : Nat} {e : TypeId} {s n : Nat} {v : Value} {xs : List Value} (h : w.ownsRow C e s v n xs) (hb : B ≤ C) : w.ownsRow B e s v n xs := by
  refine ⟨h.1, ?_⟩
  rcases h.2 with h0 | ⟨g, cap, cur, hv, h1, hc⟩
  · exact .inl h0
  · exact .inr ⟨g, cap, cur, hv, Nat.le_trans hb h1, hc⟩
theorem OwnsTexts13.below {w w' : World} {B : Nat} {v : Value} {ts : List (List UInt8)} (h : OwnsTexts w B v ts) (hb : Below w.heap.size w w') : OwnsTexts w' B v ts := ownsRow_below h hb
theorem OwnsTexts13.mono {w : World} {B C : Nat} {v : Value} {ts : List (List UInt8)} (h : OwnsTexts w C v ts) (hb : B ≤ C) : OwnsTexts w B v ts := row_mono13 h hb
set_option maxHeartbeats 4000000 in
set_option maxRecDepth 100000 in
theorem isVoid_any (l : List UInt8) (w : World) :
    Calls Tryz.prog 41 #[.string (str l)] w fun e w' => e = .returned (.bool (Tre.isVoid l)) ∧ w' = w := by
  by_cases h0 : l = [97, 114, 101, 97]
  · have HL : Hid (Tre.isVoid l = true) := by show _ = _; rw [h0]; decide +kernel
    have q0 := lit13_yes h0
    clear h0
    go_enter Tryz.func41, Tryz.ntmps41
    go_wp2
    go_ret
    exact ⟨ret_bool HL.out.symm, rfl⟩
  have H0 : Hid (¬ l = [97, 114, 101, 97]) := h0
  have q0 := lit13_no h0
  clear h0
  by_cases h1 : l = [98, 97, 115, 101]
  · have HL : Hid (Tre.isVoid l = true) := by show _ = _; rw [h1]; decide +kernel
    have q1 := lit13_yes h1
    clear h1
    go_enter Tryz.func41, Tryz.ntmps41
    go_wp2
    go_ret
    exact ⟨ret_bool HL.out.symm, rfl⟩
  have H1 : Hid (¬ l = [98, 97, 115, 101]) := h1
  have q1 := lit13_no h1
  clear h1
  by_cases h2 : l = [98, 114]
  · have HL : Hid (Tre.isVoid l = true) := by show _ = _; rw [h2]; decide +kernel
    have q2 := lit13_yes h2
    clear h2
    go_enter Tryz.func41, Tryz.ntmps41
    go_wp2
    go_ret
    exact ⟨ret_bool HL.out.symm, rfl⟩
  have H2 : Hid (¬ l = [98, 114]) := h2
  have q2 := lit13_no h2
  clear h2
  by_cases h3 : l = [99, 111, 108]
  · have HL : Hid (Tre.isVoid l = true) := by show _ = _; rw [h3]; decide +kernel
    have q3 := lit13_yes h3
    clear h3
    go_enter Tryz.func41, Tryz.ntmps41
    go_wp2
    go_ret
    exact ⟨ret_bool HL.out.symm, rfl⟩
  have H3 : Hid (¬ l = [99, 111, 108]) := h3
  have q3 := lit13_no h3
  clear h3
  by_cases h4 : l = [101, 109, 98, 101, 100]
  · have HL : Hid (Tre.isVoid l = true) := by show _ = _; rw [h4]; decide +kernel
    have q4 := lit13_yes h4
    clear h4
    go_enter Tryz.func41, Tryz.ntmps41
    go_wp2
    go_ret
    exact ⟨ret_bool HL.out.symm, rfl⟩
  have H4 : Hid (¬ l = [101, 109, 98, 101, 100]) := h4
  have q4 := lit13_no h4
  clear h4
  by_cases h5 : l = [104, 114]
  · have HL : Hid (Tre.isVoid l = true) := by show _ = _; rw [h5]; decide +kernel
    have q5 := lit13_yes h5
    clear h5
    go_enter Tryz.func41, Tryz.ntmps41
    go_wp2
    go_ret
    exact ⟨ret_bool HL.out.symm, rfl⟩
  have H5 : Hid (¬ l = [104, 114]) := h5
  have q5 := lit13_no h5
  clear h5
  by_cases h6 : l = [105, 109, 103]
  · have HL : Hid (Tre.isVoid l = true) := by show _ = _; rw [h6]; decide +kernel
    have q6 := lit13_yes h6
    clear h6
    go_enter Tryz.func41, Tryz.ntmps41
    go_wp2
    go_ret
    exact ⟨ret_bool HL.out.symm, rfl⟩
  have H6 : Hid (¬ l = [105, 109, 103]) := h6
  have q6 := lit13_no h6
  clear h6
  by_cases h7 : l = [105, 110, 112, 117, 116]
  · have HL : Hid (Tre.isVoid l = true) := by show _ = _; rw [h7]; decide +kernel
    have q7 := lit13_yes h7
    clear h7
    go_enter Tryz.func41, Tryz.ntmps41
    go_wp2
    go_ret
    exact ⟨ret_bool HL.out.symm, rfl⟩
  have H7 : Hid (¬ l = [105, 110, 112, 117, 116]) := h7
  have q7 := lit13_no h7
  clear h7
  by_cases h8 : l = [108, 105, 110, 107]
  · have HL : Hid (Tre.isVoid l = true) := by show _ = _; rw [h8]; decide +kernel
    have q8 := lit13_yes h8
    clear h8
    go_enter Tryz.func41, Tryz.ntmps41
    go_wp2
    go_ret
    exact ⟨ret_bool HL.out.symm, rfl⟩
  have H8 : Hid (¬ l = [108, 105, 110, 107]) := h8
  have q8 := lit13_no h8
  clear h8
  by_cases h9 : l = [109, 101, 116, 97]
  · have HL : Hid (Tre.isVoid l = true) := by show _ = _; rw [h9]; decide +kernel
    have q9 := lit13_yes h9
    clear h9
    go_enter Tryz.func41, Tryz.ntmps41
    go_wp2
    go_ret
    exact ⟨ret_bool HL.out.symm, rfl⟩
  have H9 : Hid (¬ l = [109, 101, 116, 97]) := h9
  have q9 := lit13_no h9
  clear h9
  by_cases h10 : l = [112, 97, 114, 97, 109]
  · have HL : Hid (Tre.isVoid l = true) := by show _ = _; rw [h10]; decide +kernel
    have q10 := lit13_yes h10
    clear h10
    go_enter Tryz.func41, Tryz.ntmps41
    go_wp2
    go_ret
    exact ⟨ret_bool HL.out.symm, rfl⟩
  have H10 : Hid (¬ l = [112, 97, 114, 97, 109]) := h10
  have q10 := lit13_no h10
  clear h10
  by_cases h11 : l = [115, 111, 117, 114, 99, 101]
  · have HL : Hid (Tre.isVoid l = true) := by show _ = _; rw [h11]; decide +kernel
    have q11 := lit13_yes h11
    clear h11
    go_enter Tryz.func41, Tryz.ntmps41
    go_wp2
    go_ret
    exact ⟨ret_bool HL.out.symm, rfl⟩
  have H11 : Hid (¬ l = [115, 111, 117, 114, 99, 101]) := h11
  have q11 := lit13_no h11
  clear h11
  by_cases h12 : l = [116, 114, 97, 99, 107]
  · have HL : Hid (Tre.isVoid l = true) := by show _ = _; rw [h12]; decide +kernel
    have q12 := lit13_yes h12
    clear h12
    go_enter Tryz.func41, Tryz.ntmps41
    go_wp2
    go_ret
    exact ⟨ret_bool HL.out.symm, rfl⟩
  have H12 : Hid (¬ l = [116, 114, 97, 99, 107]) := h12
  have q12 := lit13_no h12
  clear h12
  by_cases h13 : l = [119, 98, 114]
  · have HL : Hid (Tre.isVoid l = true) := by show _ = _; rw [h13]; decide +kernel
    have q13 := lit13_yes h13
    clear h13
    go_enter Tryz.func41, Tryz.ntmps41
    go_wp2
    go_ret
    exact ⟨ret_bool HL.out.symm, rfl⟩
  have H13 : Hid (¬ l = [119, 98, 114]) := h13
  have q13 := lit13_no h13
  clear h13
  have HL : Hid (Tre.isVoid l = false) := by
    show _ = _
    unfold Tre.isVoid Tre.voidNames
    simp only [List.contains_cons, List.contains_nil, Bool.or_false, Bool.or_eq_false_iff, beq_eq_false_iff_ne]
    exact ⟨H0.out, H1.out, H2.out, H3.out, H4.out, H5.out, H6.out, H7.out, H8.out, H9.out, H10.out, H11.out, H12.out, H13.out⟩
  go_enter Tryz.func41, Tryz.ntmps41
  go_wp2
  go_ret
  exact ⟨ret_bool HL.out.symm, rfl⟩
set_option maxHeartbeats 4000000 in
set_option maxRecDepth 100000 in
theorem isBlock_any (l : List UInt8) (w : World) :
    Calls Tryz.prog 64 #[.string (str l)] w fun e w' => e = .returned (.bool (Tre.isBlock l)) ∧ w' = w := by
  by_cases h0 : l = [97, 100, 100, 114, 101, 115, 115]
  · have HL : Hid (Tre.isBlock l = true) := by show _ = _; rw [h0]; decide +kernel
    have q0 := lit13_yes h0
    clear h0
    go_enter Tryz.func64, Tryz.ntmps64
    go_wp2
    go_ret
    exact ⟨ret_bool HL.out.symm, rfl⟩
  have H0 : Hid (¬ l = [97, 100, 100, 114, 101, 115, 115]) := h0
  have q0 := lit13_no h0
  clear h0
  by_cases h1 : l = [97, 114, 116, 105, 99, 108, 101]
  · have HL : Hid (Tre.isBlock l = true) := by show _ = _; rw [h1]; decide +kernel
    have q1 := lit13_yes h1
    clear h1
    go_enter Tryz.func64, Tryz.ntmps64
    go_wp2
    go_ret
    exact ⟨ret_bool HL.out.symm, rfl⟩
  have H1 : Hid (¬ l = [97, 114, 116, 105, 99, 108, 101]) := h1
  have q1 := lit13_no h1
  clear h1
  by_cases h2 : l = [97, 115, 105, 100, 101]
  · have HL : Hid (Tre.isBlock l = true) := by show _ = _; rw [h2]; decide +kernel
    have q2 := lit13_yes h2
    clear h2
    go_enter Tryz.func64, Tryz.ntmps64
    go_wp2
    go_ret
    exact ⟨ret_bool HL.out.symm, rfl⟩
  have H2 : Hid (¬ l = [97, 115, 105, 100, 101]) := h2
  have q2 := lit13_no h2
  clear h2
  by_cases h3 : l = [98, 108, 111, 99, 107, 113, 117, 111, 116, 101]
  · have HL : Hid (Tre.isBlock l = true) := by show _ = _; rw [h3]; decide +kernel
    have q3 := lit13_yes h3
    clear h3
    go_enter Tryz.func64, Tryz.ntmps64
    go_wp2
    go_ret
    exact ⟨ret_bool HL.out.symm, rfl⟩
  have H3 : Hid (¬ l = [98, 108, 111, 99, 107, 113, 117, 111, 116, 101]) := h3
  have q3 := lit13_no h3
  clear h3
  by_cases h4 : l = [100, 101, 116, 97, 105, 108, 115]
  · have HL : Hid (Tre.isBlock l = true) := by show _ = _; rw [h4]; decide +kernel
    have q4 := lit13_yes h4
    clear h4
    go_enter Tryz.func64, Tryz.ntmps64
    go_wp2
    go_ret
    exact ⟨ret_bool HL.out.symm, rfl⟩
  have H4 : Hid (¬ l = [100, 101, 116, 97, 105, 108, 115]) := h4
  have q4 := lit13_no h4
  clear h4
  by_cases h5 : l = [100, 105, 118]
  · have HL : Hid (Tre.isBlock l = true) := by show _ = _; rw [h5]; decide +kernel
    have q5 := lit13_yes h5
    clear h5
    go_enter Tryz.func64, Tryz.ntmps64
    go_wp2
    go_ret
    exact ⟨ret_bool HL.out.symm, rfl⟩
  have H5 : Hid (¬ l = [100, 105, 118]) := h5
  have q5 := lit13_no h5
  clear h5
  by_cases h6 : l = [100, 108]
  · have HL : Hid (Tre.isBlock l = true) := by show _ = _; rw [h6]; decide +kernel
    have q6 := lit13_yes h6
    clear h6
    go_enter Tryz.func64, Tryz.ntmps64
    go_wp2
    go_ret
    exact ⟨ret_bool HL.out.symm, rfl⟩
  have H6 : Hid (¬ l = [100, 108]) := h6
  have q6 := lit13_no h6
  clear h6
  by_cases h7 : l = [102, 105, 101, 108, 100, 115, 101, 116]
  · have HL : Hid (Tre.isBlock l = true) := by show _ = _; rw [h7]; decide +kernel
    have q7 := lit13_yes h7
    clear h7
    go_enter Tryz.func64, Tryz.ntmps64
    go_wp2
    go_ret
    exact ⟨ret_bool HL.out.symm, rfl⟩
  have H7 : Hid (¬ l = [102, 105, 101, 108, 100, 115, 101, 116]) := h7
  have q7 := lit13_no h7
  clear h7
  by_cases h8 : l = [102, 105, 103, 117, 114, 101]
  · have HL : Hid (Tre.isBlock l = true) := by show _ = _; rw [h8]; decide +kernel
    have q8 := lit13_yes h8
    clear h8
    go_enter Tryz.func64, Tryz.ntmps64
    go_wp2
    go_ret
    exact ⟨ret_bool HL.out.symm, rfl⟩
  have H8 : Hid (¬ l = [102, 105, 103, 117, 114, 101]) := h8
  have q8 := lit13_no h8
  clear h8
  by_cases h9 : l = [102, 111, 111, 116, 101, 114]
  · have HL : Hid (Tre.isBlock l = true) := by show _ = _; rw [h9]; decide +kernel
    have q9 := lit13_yes h9
    clear h9
    go_enter Tryz.func64, Tryz.ntmps64
    go_wp2
    go_ret
    exact ⟨ret_bool HL.out.symm, rfl⟩
  have H9 : Hid (¬ l = [102, 111, 111, 116, 101, 114]) := h9
  have q9 := lit13_no h9
  clear h9
  by_cases h10 : l = [102, 111, 114, 109]
  · have HL : Hid (Tre.isBlock l = true) := by show _ = _; rw [h10]; decide +kernel
    have q10 := lit13_yes h10
    clear h10
    go_enter Tryz.func64, Tryz.ntmps64
    go_wp2
    go_ret
    exact ⟨ret_bool HL.out.symm, rfl⟩
  have H10 : Hid (¬ l = [102, 111, 114, 109]) := h10
  have q10 := lit13_no h10
  clear h10
  by_cases h11 : l = [104, 49]
  · have HL : Hid (Tre.isBlock l = true) := by show _ = _; rw [h11]; decide +kernel
    have q11 := lit13_yes h11
    clear h11
    go_enter Tryz.func64, Tryz.ntmps64
    go_wp2
    go_ret
    exact ⟨ret_bool HL.out.symm, rfl⟩
  have H11 : Hid (¬ l = [104, 49]) := h11
  have q11 := lit13_no h11
  clear h11
  by_cases h12 : l = [104, 50]
  · have HL : Hid (Tre.isBlock l = true) := by show _ = _; rw [h12]; decide +kernel
    have q12 := lit13_yes h12
    clear h12
    go_enter Tryz.func64, Tryz.ntmps64
    go_wp2
    go_ret
    exact ⟨ret_bool HL.out.symm, rfl⟩
  have H12 : Hid (¬ l = [104, 50]) := h12
  have q12 := lit13_no h12
  clear h12
  by_cases h13 : l = [104, 51]
  · have HL : Hid (Tre.isBlock l = true) := by show _ = _; rw [h13]; decide +kernel
    have q13 := lit13_yes h13
    clear h13
    go_enter Tryz.func64, Tryz.ntmps64
    go_wp2
    go_ret
    exact ⟨ret_bool HL.out.symm, rfl⟩
  have H13 : Hid (¬ l = [104, 51]) := h13
  have q13 := lit13_no h13
  clear h13
  by_cases h14 : l = [104, 52]
  · have HL : Hid (Tre.isBlock l = true) := by show _ = _; rw [h14]; decide +kernel
    have q14 := lit13_yes h14
    clear h14
    go_enter Tryz.func64, Tryz.ntmps64
    go_wp2
    go_ret
    exact ⟨ret_bool HL.out.symm, rfl⟩
  have H14 : Hid (¬ l = [104, 52]) := h14
  have q14 := lit13_no h14
  clear h14
  by_cases h15 : l = [104, 53]
  · have HL : Hid (Tre.isBlock l = true) := by show _ = _; rw [h15]; decide +kernel
    have q15 := lit13_yes h15
    clear h15
    go_enter Tryz.func64, Tryz.ntmps64
    go_wp2
    go_ret
    exact ⟨ret_bool HL.out.symm, rfl⟩
  have H15 : Hid (¬ l = [104, 53]) := h15
  have q15 := lit13_no h15
  clear h15
  by_cases h16 : l = [104, 54]
  · have HL : Hid (Tre.isBlock l = true) := by show _ = _; rw [h16]; decide +kernel
    have q16 := lit13_yes h16
    clear h16
    go_enter Tryz.func64, Tryz.ntmps64
    go_wp2
    go_ret
    exact ⟨ret_bool HL.out.symm, rfl⟩
  have H16 : Hid (¬ l = [104, 54]) := h16
  have q16 := lit13_no h16
  clear h16
  by_cases h17 : l = [104, 101, 97, 100, 101, 114]
  · have HL : Hid (Tre.isBlock l = true) := by show _ = _; rw [h17]; decide +kernel
    have q17 := lit13_yes h17
    clear h17
    go_enter Tryz.func64, Tryz.ntmps64
    go_wp2
    go_ret
    exact ⟨ret_bool HL.out.symm, rfl⟩
  have H17 : Hid (¬ l = [104, 101, 97, 100, 101, 114]) := h17
  have q17 := lit13_no h17
  clear h17
  by_cases h18 : l = [104, 114]
  · have HL : Hid (Tre.isBlock l = true) := by show _ = _; rw [h18]; decide +kernel
    have q18 := lit13_yes h18
    clear h18
    go_enter Tryz.func64, Tryz.ntmps64
    go_wp2
    go_ret
    exact ⟨ret_bool HL.out.symm, rfl⟩
  have H18 : Hid (¬ l = [104, 114]) := h18
  have q18 := lit13_no h18
  clear h18
  by_cases h19 : l = [109, 97, 105, 110]
  · have HL : Hid (Tre.isBlock l = true) := by show _ = _; rw [h19]; decide +kernel
    have q19 := lit13_yes h19
    clear h19
    go_enter Tryz.func64, Tryz.ntmps64
    go_wp2
    go_ret
    exact ⟨ret_bool HL.out.symm, rfl⟩
  have H19 : Hid (¬ l = [109, 97, 105, 110]) := h19
  have q19 := lit13_no h19
  clear h19
  by_cases h20 : l = [110, 97, 118]
  · have HL : Hid (Tre.isBlock l = true) := by show _ = _; rw [h20]; decide +kernel
    have q20 := lit13_yes h20
    clear h20
    go_enter Tryz.func64, Tryz.ntmps64
    go_wp2
    go_ret
    exact ⟨ret_bool HL.out.symm, rfl⟩
  have H20 : Hid (¬ l = [110, 97, 118]) := h20
  have q20 := lit13_no h20
  clear h20
  by_cases h21 : l = [111, 108]
  · have HL : Hid (Tre.isBlock l = true) := by show _ = _; rw [h21]; decide +kernel
    have q21 := lit13_yes h21
    clear h21
    go_enter Tryz.func64, Tryz.ntmps64
    go_wp2
    go_ret
    exact ⟨ret_bool HL.out.symm, rfl⟩
  have H21 : Hid (¬ l = [111, 108]) := h21
  have q21 := lit13_no h21
  clear h21
  by_cases h22 : l = [112]
  · have HL : Hid (Tre.isBlock l = true) := by show _ = _; rw [h22]; decide +kernel
    have q22 := lit13_yes h22
    clear h22
    go_enter Tryz.func64, Tryz.ntmps64
    go_wp2
    go_ret
    exact ⟨ret_bool HL.out.symm, rfl⟩
  have H22 : Hid (¬ l = [112]) := h22
  have q22 := lit13_no h22
  clear h22
  by_cases h23 : l = [112, 114, 101]
  · have HL : Hid (Tre.isBlock l = true) := by show _ = _; rw [h23]; decide +kernel
    have q23 := lit13_yes h23
    clear h23
    go_enter Tryz.func64, Tryz.ntmps64
    go_wp2
    go_ret
    exact ⟨ret_bool HL.out.symm, rfl⟩
  have H23 : Hid (¬ l = [112, 114, 101]) := h23
  have q23 := lit13_no h23
  clear h23
  by_cases h24 : l = [115, 101, 99, 116, 105, 111, 110]
  · have HL : Hid (Tre.isBlock l = true) := by show _ = _; rw [h24]; decide +kernel
    have q24 := lit13_yes h24
    clear h24
    go_enter Tryz.func64, Tryz.ntmps64
    go_wp2
    go_ret
    exact ⟨ret_bool HL.out.symm, rfl⟩
  have H24 : Hid (¬ l = [115, 101, 99, 116, 105, 111, 110]) := h24
  have q24 := lit13_no h24
  clear h24
  by_cases h25 : l = [116, 97, 98, 108, 101]
  · have HL : Hid (Tre.isBlock l = true) := by show _ = _; rw [h25]; decide +kernel
    have q25 := lit13_yes h25
    clear h25
    go_enter Tryz.func64, Tryz.ntmps64
    go_wp2
    go_ret
    exact ⟨ret_bool HL.out.symm, rfl⟩
  have H25 : Hid (¬ l = [116, 97, 98, 108, 101]) := h25
  have q25 := lit13_no h25
  clear h25
  by_cases h26 : l = [117, 108]
  · have HL : Hid (Tre.isBlock l = true) := by show _ = _; rw [h26]; decide +kernel
    have q26 := lit13_yes h26
    clear h26
    go_enter Tryz.func64, Tryz.ntmps64
    go_wp2
    go_ret
    exact ⟨ret_bool HL.out.symm, rfl⟩
  have H26 : Hid (¬ l = [117, 108]) := h26
  have q26 := lit13_no h26
  clear h26
  have HL : Hid (Tre.isBlock l = false) := by
    show _ = _
    unfold Tre.isBlock Tre.blockNames
    simp only [List.contains_cons, List.contains_nil, Bool.or_false, Bool.or_eq_false_iff, beq_eq_false_iff_ne]
    exact ⟨H0.out, H1.out, H2.out, H3.out, H4.out, H5.out, H6.out, H7.out, H8.out, H9.out, H10.out, H11.out, H12.out, H13.out, H14.out, H15.out, H16.out, H17.out, H18.out, H19.out, H20.out, H21.out, H22.out, H23.out, H24.out, H25.out, H26.out⟩
  go_enter Tryz.func64, Tryz.ntmps64
  go_wp2
  go_ret
  exact ⟨ret_bool HL.out.symm, rfl⟩
/-- Two rows of texts, made one behind the other. -/
theorem two_lit (w : World) (cs bs : List (List UInt8)) (ha : cs.length ≤ 1000) (hb : bs.length ≤ 1000) :
    (∀ W1 W, Below ((w.alloc (.cells (cs.map strV).toArray 9)).alloc (.cells (bs.map strV).toArray 9)).heap.size ((w.alloc (.cells (cs.map strV).toArray 9)).alloc (.cells (bs.map strV).toArray 9)) W1 → W1.grownBy W (some (w.heap.size + 1)) → ReadsTexts W (.slice (some ⟨w.heap.size, 0, none⟩) cs.length cs.length) cs) ∧
    OwnsTexts ((w.alloc (.cells (cs.map strV).toArray 9)).alloc (.cells (bs.map strV).toArray 9)) w.heap.size (.slice (some ⟨w.heap.size + 1, 0, none⟩) bs.length bs.length) bs ∧
    Below w.heap.size w ((w.alloc (.cells (cs.map strV).toArray 9)).alloc (.cells (bs.map strV).toArray 9)) := by
  have h1 := own_lit w cs ha
  have h2 := own_lit (w.alloc (.cells (cs.map strV).toArray 9)) bs hb
  have hb1 : Below w.heap.size w (w.alloc (.cells (cs.map strV).toArray 9)) := (Below.refl _ _).alloc (Nat.le_refl _) _
  have hb2 : Below (w.alloc (.cells (cs.map strV).toArray 9)).heap.size (w.alloc (.cells (cs.map strV).toArray 9)) ((w.alloc (.cells (cs.map strV).toArray 9)).alloc (.cells (bs.map strV).toArray 9)) := (Below.refl _ _).alloc (Nat.le_refl _) _
  have hs : (w.alloc (.cells (cs.map strV).toArray 9)).heap.size = w.heap.size + 1 := by simp
  rw [hs] at h2
  refine ⟨fun W1 W hW1 hW => ?_, OwnsTexts13.mono h2 (by omega), bel hb1 hb2⟩
  have h3 := OwnsTexts13.below (OwnsTexts13.below h1 hb2) hW1
  have h4 : OwnsTexts W w.heap.size (.slice (some ⟨w.heap.size, 0, none⟩) cs.length cs.length) cs := World.ownsRow.kept h3 hW (.inr (by
    intro e
    have := Option.some.inj e
    simp at this))
  exact h4.reads
set_option maxHeartbeats 4000000 in
set_option maxRecDepth 100000 in
theorem closedBy_any (l : List UInt8) (w : World) :
    Calls Tryz.prog 38 #[.string (str l)] w fun e w' => ∃ v1 v2, e = .returned (.tuple #[v1, v2]) ∧ (∀ W1 W, Below w'.heap.size w' W1 → W1.grownBy W v2.ownBlock → ReadsTexts W v1 (Tre.closes l).1) ∧ OwnsTexts w' w.heap.size v2 (Tre.closes l).2 ∧ Below w.heap.size w w' := by
  by_cases h0 : l = [108, 105]
  · have HL : Hid (Tre.closes l = ([[108, 105]], [[111, 108], [117, 108]])) := by show _ = _; rw [h0]; decide +kernel
    have q0 := lit13_yes h0
    clear h0
    go_enter Tryz.func38, Tryz.ntmps38
    go_wp2
    go_ret2
    rw [HL.out]
    exact ⟨_, _, rfl, two_lit w [[108, 105]] [[111, 108], [117, 108]] (by decide) (by decide)⟩
  have H0 : Hid (¬ l = [108, 105]) := h0
  have q0 := lit13_no h0
  clear h0
  by_cases h1 : l = [100, 116]
  · have HL : Hid (Tre.closes l = ([[100, 116], [100, 100]], [[100, 108]])) := by show _ = _; rw [h1]; decide +kernel
    have q1 := lit13_yes h1
    clear h1
    go_enter Tryz.func38, Tryz.ntmps38
    go_wp2
    go_ret2
    rw [HL.out]
    exact ⟨_, _, rfl, two_lit w [[100, 116], [100, 100]] [[100, 108]] (by decide) (by decide)⟩
  have H1 : Hid (¬ l = [100, 116]) := h1
  have q1 := lit13_no h1
  clear h1
  by_cases h2 : l = [100, 100]
  · have HL : Hid (Tre.closes l = ([[100, 116], [100, 100]], [[100, 108]])) := by show _ = _; rw [h2]; decide +kernel
    have q2 := lit13_yes h2
    clear h2
    go_enter Tryz.func38, Tryz.ntmps38
    go_wp2
    go_ret2
    rw [HL.out]
    exact ⟨_, _, rfl, two_lit w [[100, 116], [100, 100]] [[100, 108]] (by decide) (by decide)⟩
  have H2 : Hid (¬ l = [100, 100]) := h2
  have q2 := lit13_no h2
  clear h2
  by_cases h3 : l = [111, 112, 116, 105, 111, 110]
  · have HL : Hid (Tre.closes l = ([[111, 112, 116, 105, 111, 110]], [[115, 101, 108, 101, 99, 116]])) := by show _ = _; rw [h3]; decide +kernel
    have q3 := lit13_yes h3
    clear h3
    go_enter Tryz.func38, Tryz.ntmps38
    go_wp2
    go_ret2
    rw [HL.out]
    exact ⟨_, _, rfl, two_lit w [[111, 112, 116, 105, 111, 110]] [[115, 101, 108, 101, 99, 116]] (by decide) (by decide)⟩
  have H3 : Hid (¬ l = [111, 112, 116, 105, 111, 110]) := h3
  have q3 := lit13_no h3
  clear h3
  by_cases h4 : l = [116, 114]
  · have HL : Hid (Tre.closes l = ([[116, 114]], [[116, 97, 98, 108, 101]])) := by show _ = _; rw [h4]; decide +kernel
    have q4 := lit13_yes h4
    clear h4
    go_enter Tryz.func38, Tryz.ntmps38
    go_wp2
    go_ret2
    rw [HL.out]
    exact ⟨_, _, rfl, two_lit w [[116, 114]] [[116, 97, 98, 108, 101]] (by decide) (by decide)⟩
  have H4 : Hid (¬ l = [116, 114]) := h4
  have q4 := lit13_no h4
  clear h4
  by_cases h5 : l = [116, 100]
  · have HL : Hid (Tre.closes l = ([[116, 100], [116, 104]], [[116, 114], [116, 97, 98, 108, 101]])) := by show _ = _; rw [h5]; decide +kernel
    have q5 := lit13_yes h5
    clear h5
    go_enter Tryz.func38, Tryz.ntmps38
    go_wp2
    go_ret2
    rw [HL.out]
    exact ⟨_, _, rfl, two_lit w [[116, 100], [116, 104]] [[116, 114], [116, 97, 98, 108, 101]] (by decide) (by decide)⟩
  have H5 : Hid (¬ l = [116, 100]) := h5
  have q5 := lit13_no h5
  clear h5
  by_cases h6 : l = [116, 104]
  · have HL : Hid (Tre.closes l = ([[116, 100], [116, 104]], [[116, 114], [116, 97, 98, 108, 101]])) := by show _ = _; rw [h6]; decide +kernel
    have q6 := lit13_yes h6
    clear h6
    go_enter Tryz.func38, Tryz.ntmps38
    go_wp2
    go_ret2
    rw [HL.out]
    exact ⟨_, _, rfl, two_lit w [[116, 100], [116, 104]] [[116, 114], [116, 97, 98, 108, 101]] (by decide) (by decide)⟩
  have H6 : Hid (¬ l = [116, 104]) := h6
  have q6 := lit13_no h6
  clear h6
  have HC : Hid (Tre.closes l = if Tre.isBlock l = true then ([[112]], [[98, 117, 116, 116, 111, 110], [116, 97, 98, 108, 101], [116, 100], [116, 104], [108, 105], [111, 98, 106, 101, 99, 116]]) else ([], [])) := by
    show _ = _
    unfold Tre.closes
    rw [if_neg H0.out, if_neg H1.out, if_neg H2.out, if_neg H3.out, if_neg H4.out, if_neg H5.out, if_neg H6.out]
  have hB := isBlock_any l
  cases hb : Tre.isBlock l
  · rw [hb] at hB HC
    clear hb
    go_enter Tryz.func38, Tryz.ntmps38
    go_wp2_with (go_at_call 64; refine (hB _).mono ?_; rintro e w1 ⟨rfl, hw⟩; replace hw := hw.symm; subst hw)
    go_ret2
    rw [HC.out]
    exact ⟨_, _, rfl, fun _ _ _ _ => .inl ⟨_, _, rfl, rfl⟩, World.ownsRow_nil _ _ _ _, Below.refl _ _⟩
  · rw [hb] at hB HC
    clear hb
    go_enter Tryz.func38, Tryz.ntmps38
    go_wp2_with (go_at_call 64; refine (hB _).mono ?_; rintro e w1 ⟨rfl, hw⟩; replace hw := hw.symm; subst hw)
    go_ret2
    rw [HC.out]
    exact ⟨_, _, rfl, two_lit w [[112]] [[98, 117, 116, 116, 111, 110], [116, 97, 98, 108, 101], [116, 100], [116, 104], [108, 105], [111, 98, 106, 101, 99, 116]] (by decide) (by decide)⟩
theorem ReadsTexts13.form {w : World} {v : Value} {ts : List (List UInt8)} (h : ReadsTexts w v ts) : ∃ a c, v = .slice a ts.length c := by
  rcases h with ⟨a, c, rfl, rfl⟩ | ⟨b, o, c, rfl, _, _⟩
  · exact ⟨_, _, rfl⟩
  · exact ⟨_, _, rfl⟩
theorem ReadsTexts13.at {w : World} {a : Option Addr} {n c : Nat} {ts : List (List UInt8)} {k : Nat} {x : List UInt8} (h : ReadsTexts w (.slice a n c) ts) (hx : ts[k]? = some x) :
    ∃ b o, a = some ⟨b, o, none⟩ ∧ ts.length ≤ c ∧ b < w.heap.size ∧ w.cell? ⟨b, o + k, none⟩ = some (.string (str x)) := by
  rcases h with ⟨a, c, _, rfl⟩ | ⟨b, o, c, h1, h2, h3⟩
  · simp at hx
  · cases h1
    exact ⟨b, o, rfl, h2, cell_lt (h3 k x hx), h3 k x hx⟩
theorem ReadsTexts13.below {w w' : World} {v : Value} {ts : List (List UInt8)} (h : ReadsTexts w v ts) (hb : Below w.heap.size w w') : ReadsTexts w' v ts := by
  rcases h with h | ⟨b, o, c, rfl, hc, hr⟩
  · exact .inl h
  · exact .inr ⟨b, o, c, rfl, hc, fun j x hj => (hb.cell (p := ⟨b, o + j, none⟩) (cell_lt (hr j x hj))).trans (hr j x hj)⟩
theorem con_take (ts : List (List UInt8)) (q : List UInt8) (j : Nat) (h : j < ts.length) : (ts.take (j + 1)).contains q = ((ts.take j).contains q || q == ts[j]) := by
  rw [List.take_succ_eq_append_getElem h, List.contains_append]
  congr 1
  rw [Bool.eq_iff_iff]
  simp
theorem con_here (ts : List (List UInt8)) (q : List UInt8) (j : Nat) (h : j < ts.length) (hq : (q == ts[j]) = true) : ts.contains q = true := by
  have : q = ts[j] := by simpa using hq
  rw [this]
  simp
set_option maxHeartbeats 1000000 in
theorem SIndex_any (ts : List (List UInt8)) (v : Value) (q : List UInt8) (w : World) (hv : ReadsTexts w v ts) (hl : ts.length ≤ 1000000) :
    Calls Tryz.prog 94 #[v, .string (str q)] w fun e w' => (∃ r, e = .returned (.int .i64 r) ∧ decide (0 ≤ r) = ts.contains q) ∧ w' = w := by
  obtain ⟨a, c, rfl⟩ := ReadsTexts13.form hv
  have HV := hideT hv
  clear hv
  go_enter Tryz.func94, Tryz.ntmps94
  go_wp2
  go_loopw [8] (fun i wr => ∃ j : Nat, i = .int .i64 j ∧ j ≤ ts.length ∧ Hid ((ts.take j).contains q = false) ∧ wr = w) (fun i _ => ts.length - (intOf i).toNat)
  case atStart => exact ⟨0, rfl, Nat.zero_le _, rfl, rfl⟩
  case round =>
    obtain ⟨j, rfl, hj, HE, hB⟩ := hrel
    replace hB := hB.symm
    subst hB
    by_cases hjl : j < ts.length
    · have hat : ts[j]? = some ts[j] := List.getElem?_eq_getElem hjl
      obtain ⟨b, o, rfl, hc, hbl, h1⟩ := ReadsTexts13.at HV.out hat
      have qq := str_beq q ts[j]
      cases hq : (q == ts[j])
      · have HN : Hid ((ts.take (j + 1)).contains q = false) := by
          show _ = _
          rw [con_take ts q j hjl, HE.out, hq]
          rfl
        rw [hq] at qq
        clear hat hq
        generalize ts[j] = p at *
        go_wp2
        go_roundw
        case rel => exact ⟨j + 1, by go_num, by omega, HN, by first | rfl | trivial⟩
        case measure => simp [intOf]; omega
      · have HN : Hid (ts.contains q = true) := con_here ts q j hjl hq
        rw [hq] at qq
        clear hat hq
        generalize ts[j] = p at *
        go_wp2
        go_ret
        exact ⟨⟨_, rfl, by rw [HN.out]; simp⟩, rfl⟩
    · have HN : Hid (ts.contains q = false) := by
        have h := HE.out
        rwa [List.take_of_length_le (by omega)] at h
      go_wp2
      go_ret
      exact ⟨⟨_, rfl, by rw [HN.out]; rfl⟩, rfl⟩
set_option maxHeartbeats 1000000 in
theorem SContains_any (ts : List (List UInt8)) (v : Value) (q : List UInt8) (w : World) (hv : ReadsTexts w v ts) (hl : ts.length ≤ 1000000) :
    Calls Tryz.prog 65 #[v, .string (str q)] w fun e w' => e = .returned (.bool (ts.contains q)) ∧ w' = w := by
  have hI := SIndex_any ts v q w hv hl
  go_enter Tryz.func65, Tryz.ntmps65
  go_wp2_with (go_at_call 94; refine hI.mono ?_; rintro e w1 ⟨⟨r, rfl, hr⟩, hw⟩; replace hw := hw.symm; subst hw)
  go_ret
  exact ⟨ret_bool (by simp), rfl⟩
end Go.Proofs.YtiodaahncadodabGreatDoor
