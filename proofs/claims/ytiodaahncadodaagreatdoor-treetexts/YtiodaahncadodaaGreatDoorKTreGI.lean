/- Texts laid as one. -/
import Derived.Test.YtiodaahncadodaaGreatDoorKTreAE
import Derived.Test.YtiodaahncadodaaGreatDoorKTkQR
import Derived.Test.YtiodaahncadodaaGreatDoorKTreM
/- Families of rows of numbers of one's own; the contract of the reference's kids. -/
set_option linter.unusedVariables false
set_option linter.unusedSimpArgs false
namespace Go.Proofs.YtiodaahncadodaaGreatDoor
open Go.RowKit
def isL (ks : List Int) : List Value := ks.map fun x => .int .i64 x
abbrev OwnsI (w : World) (B : Nat) (v : Value) (ks : List Int) : Prop := w.ownsRow B 3 1 v ks.length (isL ks)
theorem OwnsI.nil (w : World) (B : Nat) : OwnsI w B (.slice none 0 0) [] := World.ownsRow_nil _ _ _ _
theorem OwnsI.reads {w : World} {B : Nat} {v : Value} {ks : List Int} (h : OwnsI w B v ks) : ReadsIs w v ks := by
  have h0 := h
  rcases h.2 with ⟨rfl, hz⟩ | ⟨g, cap, cur, rfl, _, hg, hc, _, hcs, ht⟩
  · exact .inl ⟨_, _, rfl, List.eq_nil_of_length_eq_zero hz⟩
  · refine .inr ⟨g, 0, cap, rfl, hc, fun j x hj => ?_⟩
    have hlt : j < ks.length := (List.getElem?_eq_some_iff.1 hj).1
    have := World.ownsRow.cellAt (w := w) (base := B) (e := 3) (size := 1) (g := g) (cap := cap) (n := ks.length) (xs := isL ks) h0 j (by omega)
    rw [Nat.zero_add, this]
    unfold isL
    rw [List.getElem?_map, hj]
    rfl
/-- One further number. -/
theorem run_append_I (w : World) (ty : TypeId) (B : Nat) (v : Value) (ks : List Int) (h : OwnsI w B v ks) (ad : Addr) (c : Nat) (x : Int) (hx : w.cell? ad = some (.int .i64 x)) (hs : ad.spot = none) (hlen : ks.length ≤ 10000000) (hB : B ≤ w.heap.size) :
    ∃ v' w', (Builtin.append_ #[41, 41] ty #[v, .slice (some ad) 1 c]).run Tryz.prog w = .ok v' w' ∧ OwnsI w' B v' (ks ++ [x]) ∧ w.grownBy w' v.ownBlock ∧ (v'.ownBlock = v.ownBlock ∨ v'.ownBlock = some w.heap.size) := by
  obtain ⟨i0, hi, hz0, hz1, hz2⟩ := info_parts infoInt13
  obtain ⟨v', w', h1, h2, h3, _, h5⟩ := run_append_own_at (P := Tryz.prog) w B 41 ty 3 i0 (.int .i64 0) 1 8 Tryz.underlying41 hi hz0 hz1 hz2 rfl (by decide) v _ _ h ad 1 c [.int .i64 x] rfl (fun j u hj => by
    rcases j with _ | j
    · simp at hj
      subst hj
      obtain ⟨b, o, s⟩ := ad
      simp only at hs
      subst hs
      rw [add_addr]
      exact hx
    · simp at hj) (fun u hu => by simp at hu; subst hu; rfl) (by unfold maxLen; omega) (by omega) hB
  refine ⟨v', w', h1, ?_, h3, h5⟩
  unfold OwnsI isL
  rw [List.map_append, List.length_append]
  exact h2
theorem wpList_append_I {w : World} {ops : Array Oper} {rest : List Oper} {o : Oper} {a : Act} {Q : Exit → Act → World → Prop} (hgd : o.guard = none) (s x : Operand)
    (ho : o.op = .call { callee := .builtin .append, args := #[s, x], argTypes := #[41, 41] }) (B : Nat) (v : Value) (ks : List Int) (hs : a.eval s = v) (hown : OwnsI w B v ks) (g c : Nat) (hx : a.eval x = .slice (some ⟨g, 0, none⟩) 1 c) (y : Int) (hg : w.cell? ⟨g, 0, none⟩ = some (.int .i64 y)) (hlen : ks.length ≤ 10000000) (hB : B ≤ w.heap.size)
    (h : ∀ v' w', OwnsI w' B v' (ks ++ [y]) → w.grownBy w' v.ownBlock → (v'.ownBlock = v.ownBlock ∨ v'.ownBlock = some w.heap.size) → wpList Tryz.prog ops Q rest (a.put o.dst v') w') : wpList Tryz.prog ops Q (o :: rest) a w :=
  wpList_plain hgd fun _ hK => by
    obtain ⟨v', w', hr, h2, h3, h4⟩ := run_append_I w o.type B v ks hown ⟨g, 0, none⟩ c y hg rfl hlen hB
    unfold Oper.wp execOp
    simp only [ho, resolve, invoke, builtin, Sem.run_bind, Sem.run_pure, Result.andThen_ok, List.map_toArray, List.map_cons, List.map_nil, hs, hx, hr]
    exact hK _ _ (h v' w' h2 h3 h4)
/-- Rows of numbers of one's own, no two in one block. -/
structure Fam (w : World) (B : Nat) (vs : List Value) (f : Nat → List Int) : Prop where
  own : ∀ (u : Nat) v, vs[u]? = some v → OwnsI w B v (f u)
  apart : ∀ (u y : Nat) v x, vs[u]? = some v → vs[y]? = some x → u ≠ y → ApK v x
theorem Fam.keep {w w' : World} {B : Nat} {vs : List Value} {f : Nat → List Int} (h : Fam w B vs f) (hk : ∀ k, B ≤ k → k < w.heap.size → w'.heap[k]? = w.heap[k]?) : Fam w' B vs f :=
  ⟨fun u v hu => row_keepK (h.own u v hu) (fun k e hl => hk k (World.ownsRow.lt (h.own u v hu) k e).1 hl), h.apart⟩
theorem Fam.below {w w' : World} {B : Nat} {vs : List Value} {f : Nat → List Int} (h : Fam w B vs f) (hb : Below w.heap.size w w') : Fam w' B vs f := h.keep (fun k _ hl => hb.block k hl)
theorem Fam.nil (w : World) (B n : Nat) : Fam w B (List.replicate n (.slice none 0 0)) (fun _ => []) := by
  have h0 : ∀ (u : Nat) (v : Value), (List.replicate n (Value.slice none 0 0))[u]? = some v → v = .slice none 0 0 := fun u v hu => by
    rw [List.getElem?_replicate] at hu
    split at hu
    · exact (Option.some.inj hu).symm
    · cases hu
  refine ⟨fun u v hu => ?_, fun u y v x hu hy hne k hk => ?_⟩
  · rw [h0 u v hu]
    exact OwnsI.nil _ _
  · rw [h0 u v hu] at hk
    cases hk
theorem Fam.push {w w' : World} {B : Nat} {vs : List Value} {f g : Nat → List Int} (h : Fam w B vs f) {u : Nat} {v v' : Value} (hu : vs[u]? = some v) (h1 : OwnsI w' B v' (g u)) (h2 : w.grownBy w' v.ownBlock) (h3 : v'.ownBlock = v.ownBlock ∨ v'.ownBlock = some w.heap.size) (hg : ∀ y, y ≠ u → g y = f y) : Fam w' B (vs.set u v') g := by
  have hul : u < vs.length := (List.getElem?_eq_some_iff.1 hu).1
  have hap : ∀ y x, vs[y]? = some x → y ≠ u → ApK x v' := fun y x hy hne k e1 e2 => by
    rcases h3 with e | e
    · exact h.apart y u x v hy hu hne k e1 (by rw [← e]; exact e2)
    · rw [e] at e2
      cases e2
      have := (World.ownsRow.lt (h.own y x hy) _ e1).2
      omega
  refine ⟨fun y x hy => ?_, fun y z x q hy hz hne => ?_⟩
  · rw [List.getElem?_set] at hy
    by_cases e : u = y
    · subst e
      rw [if_pos rfl, if_pos hul] at hy
      cases hy
      exact h1
    · rw [if_neg e] at hy
      rw [hg y (fun e2 => e e2.symm)]
      exact row_keepK (h.own y x hy) (fun k ek hl => h2.block k hl (fun e2 => h.apart y u x v hy hu (fun e3 => e e3.symm) k ek e2.symm))
  · rw [List.getElem?_set] at hy hz
    by_cases e : u = y
    · subst e
      rw [if_pos rfl, if_pos hul] at hy
      rw [if_neg hne] at hz
      cases hy
      exact fun k e1 e2 => hap z q hz (fun e => hne e.symm) k e2 e1
    · rw [if_neg e] at hy
      by_cases e2 : u = z
      · subst e2
        rw [if_pos rfl, if_pos hul] at hz
        cases hz
        exact hap y x hy (fun e3 => e e3.symm)
      · rw [if_neg e2] at hz
        exact h.apart y z x q hy hz hne
theorem infoIs13 : (Tryz.prog.info? 41).map (fun i => (i.zero, i.size, i.bytes)) = some (some (.slice none 0 0), 1, 24) := by kernel_rfl
/-- What the reference's kids answers: of each node the places of those that lie in it. -/
def KidsAt (w : World) (g : Nat) (ns : List Nd) : Prop := ∀ u, u < ns.length → ∃ a c, w.cell? ⟨g, u, none⟩ = some (.slice a (Tre.kidsTo ns u ns.length).length c) ∧ ReadsIs w (.slice a (Tre.kidsTo ns u ns.length).length c) (Tre.kidsTo ns u ns.length)
theorem KidsAt.below {w w' : World} {g : Nat} {ns : List Nd} (h : KidsAt w g ns) (hb : Below w.heap.size w w') : KidsAt w' g ns := fun u hu => by
  obtain ⟨a, c, h1, h2⟩ := h u hu
  exact ⟨a, c, (hb.cell (p := ⟨g, u, none⟩) (cell_lt h1)).trans h1, h2.below hb⟩
set_option maxHeartbeats 2000000 in
set_option maxRecDepth 100000 in
theorem Rkids_any (ns : List Nd) (v : Value) (w : World) (hv : ReadsN w v ns) (hn : ns.length ≤ 1000000) :
    Calls Tryz.prog 36 #[.agg #[v]] w fun e w' => ∃ g, e = .returned (.slice (some ⟨g, 0, none⟩) ns.length ns.length) ∧ KidsAt w' g ns ∧ Below w.heap.size w w' := by
  obtain ⟨i0, hi, hz0, hz1, hz2⟩ := info_parts infoIs13
  obtain ⟨a, c, rfl⟩ := hv.form
  have hb0 : Below w.heap.size w (w.alloc (.cells #[.slice a ns.length c] 26)) := (Below.refl _ _).alloc (Nat.le_refl _) _
  have hh := heap_new w (.cells #[.slice a ns.length c] 26)
  have c0 := Lib.cell_of_heap hh 0
  obtain ⟨W, hWW⟩ : ∃ W, w.alloc (.cells #[.slice a ns.length c] 26) = W := ⟨_, rfl⟩
  have hwW : w.heap.size < W.heap.size := by rw [← hWW]; simp
  have HWW := hideT hWW
  rw [hWW] at c0 hb0
  have HV := hideT ((hv.below hb0))
  have HB0 := hideT hb0
  have cW : W.cell? ⟨w.heap.size, 0, none⟩ = some (.slice a ns.length c) := c0
  clear hv hh hb0 c0 hWW
  go_enter Tryz.func36, Tryz.ntmps36
  go_wp2_with (at_make; (try rw [HWW.out]); refine wpList_make_full _ rfl (.tmp 8) (.tmp 8) 71 rfl w.heap.size 41 i0 (.slice none 0 0) 1 Tryz.underlying71 hi hz0 hz1 _ _ _ _ ns.length rfl rfl rfl rfl (by rw [hz2]; omega) (by unfold maxLen; omega) HB0.out.size ?_; intro w1 hown1 hgrow1)
  have hb1 : Below W.heap.size W w1 := (Below.refl _ _).grown hgrow1 (Nat.le_refl _) (by simp)
  have HB1 := hideT hb1
  have hlt1 : W.heap.size < w1.heap.size := by
    have := World.ownsRow.lt hown1 W.heap.size rfl
    exact this.2
  have HO1 : Hid (∃ vs : List Value, vs.length = ns.length ∧ w1.ownsRow w.heap.size 41 1 (.slice (some ⟨W.heap.size, 0, none⟩) ns.length ns.length) ns.length vs ∧ Fam w1 (W.heap.size + 1) vs (fun u => Tre.kidsTo ns u 0)) := by
    have h := hown1
    rw [show (Value.slice none 0 0).cells = #[.slice none 0 0] from rfl, toList_madeCells_one, Nat.mul_one] at h
    exact ⟨_, by simp, h, Fam.nil _ _ _⟩
  have c01 := (hb1.cell (p := ⟨w.heap.size, 0, none⟩) hwW).trans cW
  clear hown1 hgrow1 hb1
  go_loopw [4] (fun i wr => ∃ k : Nat, i = .int .i64 k ∧ k ≤ ns.length ∧ Hid (∃ vs : List Value, vs.length = ns.length ∧ wr.ownsRow w.heap.size 41 1 (.slice (some ⟨W.heap.size, 0, none⟩) ns.length ns.length) ns.length vs ∧ Fam wr (W.heap.size + 1) vs (fun u => Tre.kidsTo ns u k)) ∧ Hid (Below W.heap.size W wr) ∧ W.heap.size < wr.heap.size) (fun i _ => ns.length - (intOf i).toNat)
  case atStart => exact ⟨0, rfl, Nat.zero_le _, HO1, HB1, hlt1⟩
  case round =>
    obtain ⟨k, rfl, hk, HO, HB, hsx⟩ := hrel
    rename World => X
    have cw := (HB.out.cell (p := ⟨w.heap.size, 0, none⟩) hwW).trans cW
    clear c01
    by_cases hlt : k < ns.length
    · obtain ⟨b, o, aa, ac, ka, kc, rfl, hc, hr⟩ := (HV.out.below HB.out).at hlt
      have c4 := hr.c4
      have hup : Hid (∀ u : Nat, (Tre.ndAt ns k).up ≠ (u : Int) → Tre.kidsTo ns u (k + 1) = Tre.kidsTo ns u k) := fun u h => by rw [Tre.kidsTo, if_neg h, List.append_nil]
      have hup2 : Hid (∀ u : Nat, (Tre.ndAt ns k).up = (u : Int) → Tre.kidsTo ns u (k + 1) = Tre.kidsTo ns u k ++ [(k : Int)]) := fun u h => Tre.kidsTo_here h
      clear hr
      generalize (Tre.ndAt ns k).up = up at *
      by_cases h0 : 0 ≤ up
      · by_cases h1 : up < (ns.length : Int)
        · obtain ⟨u, rfl⟩ : ∃ u : Nat, up = (u : Int) := ⟨up.toNat, by omega⟩
          have hul : u < ns.length := by omega
          obtain ⟨vs, hvl, hrow, hfam⟩ := HO.out
          have hvu : vs[u]? = some vs[u] := List.getElem?_eq_getElem (by omega)
          generalize vs[u]'(by omega) = vu at *
          have cu := (World.ownsRow.cellAt (w := X) hrow u (by omega)).trans hvu
          have hvo := hfam.own u vu hvu
          obtain ⟨ax, cx, rfl⟩ := hvo.reads.form
          have hkl := Tre.kidsTo_le ns u k
          have hbX : Below X.heap.size X (X.alloc (.cells #[.int .i64 (k : Int)] 3)) := (Below.refl _ _).alloc (Nat.le_refl _) _
          have hAx := heap_new X (.cells #[.int .i64 (k : Int)] 3)
          have cA := Lib.cell_of_heap hAx 0
          have hszA : (X.alloc (.cells #[.int .i64 (k : Int)] 3)).heap.size = X.heap.size + 1 := by simp
          have HFam := hideT (hfam.below hbX)
          have HRow := hideT (ownsRow_below hrow hbX)
          have HOwn := hideT ((hfam.below hbX).own u _ hvu)
          have HVU := hideT hvu
          have HVL := hideT hvl
          have HBA := hideT (HB.out.trans (hbX.mono HB.out.size))
          have hkk : (Tre.kidsTo ns u k).length ≤ 10000000 := by omega
          have hBB : W.heap.size + 1 ≤ (X.alloc (.cells #[.int .i64 (k : Int)] 3)).heap.size := by omega
          clear hvu hvl hrow hfam hvo hbX hAx hkl HO
          go_wp2_with (at_builtin; refine wpList_append_I rfl (.tmp 37) (.tmp 39) rfl (W.heap.size + 1) (.slice ax (Tre.kidsTo ns u k).length cx) _ rfl HOwn.out X.heap.size 1 rfl (k : Int) cA hkk hBB ?_; intro v7 w7 hO7 g7 hat7; obtain ⟨xa7, xc7, e7⟩ := (OwnsI.reads hO7).form; rw [List.length_append, List.length_singleton] at e7; have hne7 : ∀ q, (Value.slice ax (Tre.kidsTo ns u k).length cx).ownBlock = some q → W.heap.size + 1 ≤ q := fun q e => (World.ownsRow.lt HOwn.out q e).1; have HRow7 := hideT (row_keepK HRow.out (fun q e hl => g7.block q hl (fun e2 => by have := hne7 q e2.symm; have e3 : q = W.heap.size := (Option.some.inj e).symm; omega))); have c7 := (World.ownsRow.cellAt (w := w7) HRow7.out u (by have := HVL.out; omega)).trans HVU.out; have f7 := World.ownsRow.frozenAt (w := w7) HRow7.out u; subst e7)
          have HBl7 : Hid (Below W.heap.size W w7) := HBA.out.grown g7 (by omega) (fun q e => by have := hne7 q e; omega)
          have hfam7 := HFam.out.push (g := fun y => Tre.kidsTo ns y (k + 1)) HVU.out (by rw [hup2.out u rfl]; exact hO7) g7 hat7 (fun y hy => hup.out y (by omega))
          have HO8 : Hid (∃ vs : List Value, vs.length = ns.length ∧ (w7.setCell ⟨W.heap.size, u, none⟩ (.slice xa7 ((Tre.kidsTo ns u k).length + 1) xc7)).ownsRow w.heap.size 41 1 (.slice (some ⟨W.heap.size, 0, none⟩) ns.length ns.length) ns.length vs ∧ Fam (w7.setCell ⟨W.heap.size, u, none⟩ (.slice xa7 ((Tre.kidsTo ns u k).length + 1) xc7)) (W.heap.size + 1) vs (fun u => Tre.kidsTo ns u (k + 1))) := by
            refine ⟨vs.set u (.slice xa7 ((Tre.kidsTo ns u k).length + 1) xc7), by rw [List.length_set]; exact HVL.out, (World.ownsRow.stored (w := w7) HRow7.out u (.slice xa7 ((Tre.kidsTo ns u k).length + 1) xc7)).1, hfam7.keep (fun q hq hl => ?_)⟩
            exact Below.heap_setCell _ _ _ _ (by show q ≠ W.heap.size; omega)
          have HB8 : Hid (Below W.heap.size W (w7.setCell ⟨W.heap.size, u, none⟩ (.slice xa7 ((Tre.kidsTo ns u k).length + 1) xc7))) := HBl7.out.setCell (Nat.le_refl _) _
          have hs8 : W.heap.size < (w7.setCell ⟨W.heap.size, u, none⟩ (.slice xa7 ((Tre.kidsTo ns u k).length + 1) xc7)).heap.size := by
            have := g7.size
            rw [show (w7.setCell ⟨W.heap.size, u, none⟩ (.slice xa7 ((Tre.kidsTo ns u k).length + 1) xc7)).heap.size = w7.heap.size from by simp [World.setCell]]
            omega
          go_roundw
          case rel => exact ⟨k + 1, by go_num, by omega, HO8, HB8, hs8⟩
          case measure => simp [intOf]; omega
        · have HO8 : Hid (∃ vs : List Value, vs.length = ns.length ∧ X.ownsRow w.heap.size 41 1 (.slice (some ⟨W.heap.size, 0, none⟩) ns.length ns.length) ns.length vs ∧ Fam X (W.heap.size + 1) vs (fun u => Tre.kidsTo ns u (k + 1))) := by
            obtain ⟨vs, hvl, hrow, hfam⟩ := HO.out
            refine ⟨vs, hvl, hrow, fun u v hu => ?_, hfam.apart⟩
            have hul : u < vs.length := (List.getElem?_eq_some_iff.1 hu).1
            show OwnsI X _ v (Tre.kidsTo ns u (k + 1))
            rw [hup.out u (by omega)]
            exact hfam.own u v hu
          clear HO hup hup2
          go_wp2
          go_roundw
          case rel => exact ⟨k + 1, by go_num, by omega, HO8, HB, hsx⟩
          case measure => simp [intOf]; omega
      · have HO8 : Hid (∃ vs : List Value, vs.length = ns.length ∧ X.ownsRow w.heap.size 41 1 (.slice (some ⟨W.heap.size, 0, none⟩) ns.length ns.length) ns.length vs ∧ Fam X (W.heap.size + 1) vs (fun u => Tre.kidsTo ns u (k + 1))) := by
          obtain ⟨vs, hvl, hrow, hfam⟩ := HO.out
          refine ⟨vs, hvl, hrow, fun u v hu => ?_, hfam.apart⟩
          show OwnsI X _ v (Tre.kidsTo ns u (k + 1))
          rw [hup.out u (by omega)]
          exact hfam.own u v hu
        clear HO hup hup2
        go_wp2
        go_roundw
        case rel => exact ⟨k + 1, by go_num, by omega, HO8, HB, hsx⟩
        case measure => simp [intOf]; omega
    · have hke : k = ns.length := by omega
      subst hke
      have HK : Hid (KidsAt X W.heap.size ns) := fun u hu => by
        obtain ⟨vs, hvl, hrow, hfam⟩ := HO.out
        have hvu : vs[u]? = some vs[u] := List.getElem?_eq_getElem (by omega)
        have cu := (World.ownsRow.cellAt (w := X) hrow u (by omega)).trans hvu
        have hr := (hfam.own u _ hvu).reads
        obtain ⟨a2, c2, e2⟩ := hr.form
        rw [e2] at cu hr
        exact ⟨a2, c2, cu, hr⟩
      go_wp2
      go_ret
      exact ⟨_, rfl, HK.out, HB0.out.trans (HB.out.mono HB0.out.size)⟩
end Go.Proofs.YtiodaahncadodaaGreatDoor
/- The contracts of tree's isVoid, isBlock, closedBy, of slices.Contains and the reference's Has. -/
namespace Go.Proofs.YtiodaahncadodaaGreatDoor
open Go.RowKit
theorem lit13_no {l m : List UInt8} (h : ¬ l = m) : ((str l).toList == m) = false := by rw [str_list]; exact beq_eq_false_iff_ne.2 h
theorem lit13_yes {l m : List UInt8} (h : l = m) : ((str l).toList == m) = true := by rw [str_list, h]; exact beq_self_eq_true m
theorem own_lit (w : World) (ts : List (List UInt8)) (h : ts.length ≤ 1000) : OwnsTexts (w.alloc (.cells (ts.map strV).toArray 9)) w.heap.size (.slice (some ⟨w.heap.size, 0, none⟩) ts.length ts.length) ts := by
  refine ⟨by simp, .inr ⟨w.heap.size, ts.length, (ts.map strV).toArray, rfl, Nat.le_refl _, heap_new w _, Nat.le_refl _, by unfold maxLen; omega, by simp, ?_⟩⟩
  rw [Nat.mul_one, List.take_of_length_le (by simp)]
theorem row_mono13 {w : World} {B C : Nat} {e : TypeId} {s n : Nat} {v : Value} {xs : List Value} (h : w.ownsRow C e s v n xs) (hb : B ≤ C) : w.ownsRow B e s v n xs := by
  refine ⟨h.1, ?_⟩
  rcases h.2 with h0 | ⟨g, cap, cur, hv, h1, hc⟩
  · exact .inl h0
  · exact .inr ⟨g, cap, cur, hv, Nat.le_trans hb h1, hc⟩
theorem OwnsTexts13.below {w w' : World} {B : Nat} {v : Value} {ts : List (List UInt8)} (h : OwnsTexts w B v ts) (hb : Below w.heap.size w w') : OwnsTexts w' B v ts := ownsRow_below h hb
theorem OwnsTexts13.mono {w : World} {B C : Nat} {v : Value} {ts : List (List UInt8)} (h : OwnsTexts w C v ts) (hb : B ≤ C) : OwnsTexts w B v ts := row_mono13 h hb
set_option maxHeartbeats 4000000 in
set_option maxRecDepth 100000 in
theorem isVoid_any (l : List UInt8) (w : World) :
    Calls Tryz.prog 69 #[.string (str l)] w fun e w' => e = .returned (.bool (Tre.isVoid l)) ∧ w' = w := by
  by_cases h0 : l = [97, 114, 101, 97]
  · have HL : Hid (Tre.isVoid l = true) := by show _ = _; rw [h0]; decide +kernel
    have q0 := lit13_yes h0
    clear h0
    go_enter Tryz.func69, Tryz.ntmps69
    go_wp2
    go_ret
    exact ⟨ret_bool HL.out.symm, rfl⟩
  have H0 : Hid (¬ l = [97, 114, 101, 97]) := h0
  have q0 := lit13_no h0
  clear h0
  by_cases h1 : l = [98, 97, 115, 101]
  · have HL : Hid (Tre.isVoid l = true) := by show _ = _; rw [h1]; decide +kernel
    have q1 := lit13_yes h1
    clear h1
    go_enter Tryz.func69, Tryz.ntmps69
    go_wp2
    go_ret
    exact ⟨ret_bool HL.out.symm, rfl⟩
  have H1 : Hid (¬ l = [98, 97, 115, 101]) := h1
  have q1 := lit13_no h1
  clear h1
  by_cases h2 : l = [98, 114]
  · have HL : Hid (Tre.isVoid l = true) := by show _ = _; rw [h2]; decide +kernel
    have q2 := lit13_yes h2
    clear h2
    go_enter Tryz.func69, Tryz.ntmps69
    go_wp2
    go_ret
    exact ⟨ret_bool HL.out.symm, rfl⟩
  have H2 : Hid (¬ l = [98, 114]) := h2
  have q2 := lit13_no h2
  clear h2
  by_cases h3 : l = [99, 111, 108]
  · have HL : Hid (Tre.isVoid l = true) := by show _ = _; rw [h3]; decide +kernel
    have q3 := lit13_yes h3
    clear h3
    go_enter Tryz.func69, Tryz.ntmps69
    go_wp2
    go_ret
    exact ⟨ret_bool HL.out.symm, rfl⟩
  have H3 : Hid (¬ l = [99, 111, 108]) := h3
  have q3 := lit13_no h3
  clear h3
  by_cases h4 : l = [101, 109, 98, 101, 100]
  · have HL : Hid (Tre.isVoid l = true) := by show _ = _; rw [h4]; decide +kernel
    have q4 := lit13_yes h4
    clear h4
    go_enter Tryz.func69, Tryz.ntmps69
    go_wp2
    go_ret
    exact ⟨ret_bool HL.out.symm, rfl⟩
  have H4 : Hid (¬ l = [101, 109, 98, 101, 100]) := h4
  have q4 := lit13_no h4
  clear h4
  by_cases h5 : l = [104, 114]
  · have HL : Hid (Tre.isVoid l = true) := by show _ = _; rw [h5]; decide +kernel
    have q5 := lit13_yes h5
    clear h5
    go_enter Tryz.func69, Tryz.ntmps69
    go_wp2
    go_ret
    exact ⟨ret_bool HL.out.symm, rfl⟩
  have H5 : Hid (¬ l = [104, 114]) := h5
  have q5 := lit13_no h5
  clear h5
  by_cases h6 : l = [105, 109, 103]
  · have HL : Hid (Tre.isVoid l = true) := by show _ = _; rw [h6]; decide +kernel
    have q6 := lit13_yes h6
    clear h6
    go_enter Tryz.func69, Tryz.ntmps69
    go_wp2
    go_ret
    exact ⟨ret_bool HL.out.symm, rfl⟩
  have H6 : Hid (¬ l = [105, 109, 103]) := h6
  have q6 := lit13_no h6
  clear h6
  by_cases h7 : l = [105, 110, 112, 117, 116]
  · have HL : Hid (Tre.isVoid l = true) := by show _ = _; rw [h7]; decide +kernel
    have q7 := lit13_yes h7
    clear h7
    go_enter Tryz.func69, Tryz.ntmps69
    go_wp2
    go_ret
    exact ⟨ret_bool HL.out.symm, rfl⟩
  have H7 : Hid (¬ l = [105, 110, 112, 117, 116]) := h7
  have q7 := lit13_no h7
  clear h7
  by_cases h8 : l = [108, 105, 110, 107]
  · have HL : Hid (Tre.isVoid l = true) := by show _ = _; rw [h8]; decide +kernel
    have q8 := lit13_yes h8
    clear h8
    go_enter Tryz.func69, Tryz.ntmps69
    go_wp2
    go_ret
    exact ⟨ret_bool HL.out.symm, rfl⟩
  have H8 : Hid (¬ l = [108, 105, 110, 107]) := h8
  have q8 := lit13_no h8
  clear h8
  by_cases h9 : l = [109, 101, 116, 97]
  · have HL : Hid (Tre.isVoid l = true) := by show _ = _; rw [h9]; decide +kernel
    have q9 := lit13_yes h9
    clear h9
    go_enter Tryz.func69, Tryz.ntmps69
    go_wp2
    go_ret
    exact ⟨ret_bool HL.out.symm, rfl⟩
  have H9 : Hid (¬ l = [109, 101, 116, 97]) := h9
  have q9 := lit13_no h9
  clear h9
  by_cases h10 : l = [112, 97, 114, 97, 109]
  · have HL : Hid (Tre.isVoid l = true) := by show _ = _; rw [h10]; decide +kernel
    have q10 := lit13_yes h10
    clear h10
    go_enter Tryz.func69, Tryz.ntmps69
    go_wp2
    go_ret
    exact ⟨ret_bool HL.out.symm, rfl⟩
  have H10 : Hid (¬ l = [112, 97, 114, 97, 109]) := h10
  have q10 := lit13_no h10
  clear h10
  by_cases h11 : l = [115, 111, 117, 114, 99, 101]
  · have HL : Hid (Tre.isVoid l = true) := by show _ = _; rw [h11]; decide +kernel
    have q11 := lit13_yes h11
    clear h11
    go_enter Tryz.func69, Tryz.ntmps69
    go_wp2
    go_ret
    exact ⟨ret_bool HL.out.symm, rfl⟩
  have H11 : Hid (¬ l = [115, 111, 117, 114, 99, 101]) := h11
  have q11 := lit13_no h11
  clear h11
  by_cases h12 : l = [116, 114, 97, 99, 107]
  · have HL : Hid (Tre.isVoid l = true) := by show _ = _; rw [h12]; decide +kernel
    have q12 := lit13_yes h12
    clear h12
    go_enter Tryz.func69, Tryz.ntmps69
    go_wp2
    go_ret
    exact ⟨ret_bool HL.out.symm, rfl⟩
  have H12 : Hid (¬ l = [116, 114, 97, 99, 107]) := h12
  have q12 := lit13_no h12
  clear h12
  by_cases h13 : l = [119, 98, 114]
  · have HL : Hid (Tre.isVoid l = true) := by show _ = _; rw [h13]; decide +kernel
    have q13 := lit13_yes h13
    clear h13
    go_enter Tryz.func69, Tryz.ntmps69
    go_wp2
    go_ret
    exact ⟨ret_bool HL.out.symm, rfl⟩
  have H13 : Hid (¬ l = [119, 98, 114]) := h13
  have q13 := lit13_no h13
  clear h13
  have HL : Hid (Tre.isVoid l = false) := by
    show _ = _
    unfold Tre.isVoid Tre.voidNames
    simp only [List.contains_cons, List.contains_nil, Bool.or_false, Bool.or_eq_false_iff, beq_eq_false_iff_ne]
    exact ⟨H0.out, H1.out, H2.out, H3.out, H4.out, H5.out, H6.out, H7.out, H8.out, H9.out, H10.out, H11.out, H12.out, H13.out⟩
  go_enter Tryz.func69, Tryz.ntmps69
  go_wp2
  go_ret
  exact ⟨ret_bool HL.out.symm, rfl⟩
set_option maxHeartbeats 4000000 in
set_option maxRecDepth 100000 in
theorem isBlock_any (l : List UInt8) (w : World) :
    Calls Tryz.prog 130 #[.string (str l)] w fun e w' => e = .returned (.bool (Tre.isBlock l)) ∧ w' = w := by
  by_cases h0 : l = [97, 100, 100, 114, 101, 115, 115]
  · have HL : Hid (Tre.isBlock l = true) := by show _ = _; rw [h0]; decide +kernel
    have q0 := lit13_yes h0
    clear h0
    go_enter Tryz.func130, Tryz.ntmps130
    go_wp2
    go_ret
    exact ⟨ret_bool HL.out.symm, rfl⟩
  have H0 : Hid (¬ l = [97, 100, 100, 114, 101, 115, 115]) := h0
  have q0 := lit13_no h0
  clear h0
  by_cases h1 : l = [97, 114, 116, 105, 99, 108, 101]
  · have HL : Hid (Tre.isBlock l = true) := by show _ = _; rw [h1]; decide +kernel
    have q1 := lit13_yes h1
    clear h1
    go_enter Tryz.func130, Tryz.ntmps130
    go_wp2
    go_ret
    exact ⟨ret_bool HL.out.symm, rfl⟩
  have H1 : Hid (¬ l = [97, 114, 116, 105, 99, 108, 101]) := h1
  have q1 := lit13_no h1
  clear h1
  by_cases h2 : l = [97, 115, 105, 100, 101]
  · have HL : Hid (Tre.isBlock l = true) := by show _ = _; rw [h2]; decide +kernel
    have q2 := lit13_yes h2
    clear h2
    go_enter Tryz.func130, Tryz.ntmps130
    go_wp2
    go_ret
    exact ⟨ret_bool HL.out.symm, rfl⟩
  have H2 : Hid (¬ l = [97, 115, 105, 100, 101]) := h2
  have q2 := lit13_no h2
  clear h2
  by_cases h3 : l = [98, 108, 111, 99, 107, 113, 117, 111, 116, 101]
  · have HL : Hid (Tre.isBlock l = true) := by show _ = _; rw [h3]; decide +kernel
    have q3 := lit13_yes h3
    clear h3
    go_enter Tryz.func130, Tryz.ntmps130
    go_wp2
    go_ret
    exact ⟨ret_bool HL.out.symm, rfl⟩
  have H3 : Hid (¬ l = [98, 108, 111, 99, 107, 113, 117, 111, 116, 101]) := h3
  have q3 := lit13_no h3
  clear h3
  by_cases h4 : l = [100, 101, 116, 97, 105, 108, 115]
  · have HL : Hid (Tre.isBlock l = true) := by show _ = _; rw [h4]; decide +kernel
    have q4 := lit13_yes h4
    clear h4
    go_enter Tryz.func130, Tryz.ntmps130
    go_wp2
    go_ret
    exact ⟨ret_bool HL.out.symm, rfl⟩
  have H4 : Hid (¬ l = [100, 101, 116, 97, 105, 108, 115]) := h4
  have q4 := lit13_no h4
  clear h4
  by_cases h5 : l = [100, 105, 118]
  · have HL : Hid (Tre.isBlock l = true) := by show _ = _; rw [h5]; decide +kernel
    have q5 := lit13_yes h5
    clear h5
    go_enter Tryz.func130, Tryz.ntmps130
    go_wp2
    go_ret
    exact ⟨ret_bool HL.out.symm, rfl⟩
  have H5 : Hid (¬ l = [100, 105, 118]) := h5
  have q5 := lit13_no h5
  clear h5
  by_cases h6 : l = [100, 108]
  · have HL : Hid (Tre.isBlock l = true) := by show _ = _; rw [h6]; decide +kernel
    have q6 := lit13_yes h6
    clear h6
    go_enter Tryz.func130, Tryz.ntmps130
    go_wp2
    go_ret
    exact ⟨ret_bool HL.out.symm, rfl⟩
  have H6 : Hid (¬ l = [100, 108]) := h6
  have q6 := lit13_no h6
  clear h6
  by_cases h7 : l = [102, 105, 101, 108, 100, 115, 101, 116]
  · have HL : Hid (Tre.isBlock l = true) := by show _ = _; rw [h7]; decide +kernel
    have q7 := lit13_yes h7
    clear h7
    go_enter Tryz.func130, Tryz.ntmps130
    go_wp2
    go_ret
    exact ⟨ret_bool HL.out.symm, rfl⟩
  have H7 : Hid (¬ l = [102, 105, 101, 108, 100, 115, 101, 116]) := h7
  have q7 := lit13_no h7
  clear h7
  by_cases h8 : l = [102, 105, 103, 117, 114, 101]
  · have HL : Hid (Tre.isBlock l = true) := by show _ = _; rw [h8]; decide +kernel
    have q8 := lit13_yes h8
    clear h8
    go_enter Tryz.func130, Tryz.ntmps130
    go_wp2
    go_ret
    exact ⟨ret_bool HL.out.symm, rfl⟩
  have H8 : Hid (¬ l = [102, 105, 103, 117, 114, 101]) := h8
  have q8 := lit13_no h8
  clear h8
  by_cases h9 : l = [102, 111, 111, 116, 101, 114]
  · have HL : Hid (Tre.isBlock l = true) := by show _ = _; rw [h9]; decide +kernel
    have q9 := lit13_yes h9
    clear h9
    go_enter Tryz.func130, Tryz.ntmps130
    go_wp2
    go_ret
    exact ⟨ret_bool HL.out.symm, rfl⟩
  have H9 : Hid (¬ l = [102, 111, 111, 116, 101, 114]) := h9
  have q9 := lit13_no h9
  clear h9
  by_cases h10 : l = [102, 111, 114, 109]
  · have HL : Hid (Tre.isBlock l = true) := by show _ = _; rw [h10]; decide +kernel
    have q10 := lit13_yes h10
    clear h10
    go_enter Tryz.func130, Tryz.ntmps130
    go_wp2
    go_ret
    exact ⟨ret_bool HL.out.symm, rfl⟩
  have H10 : Hid (¬ l = [102, 111, 114, 109]) := h10
  have q10 := lit13_no h10
  clear h10
  by_cases h11 : l = [104, 49]
  · have HL : Hid (Tre.isBlock l = true) := by show _ = _; rw [h11]; decide +kernel
    have q11 := lit13_yes h11
    clear h11
    go_enter Tryz.func130, Tryz.ntmps130
    go_wp2
    go_ret
    exact ⟨ret_bool HL.out.symm, rfl⟩
  have H11 : Hid (¬ l = [104, 49]) := h11
  have q11 := lit13_no h11
  clear h11
  by_cases h12 : l = [104, 50]
  · have HL : Hid (Tre.isBlock l = true) := by show _ = _; rw [h12]; decide +kernel
    have q12 := lit13_yes h12
    clear h12
    go_enter Tryz.func130, Tryz.ntmps130
    go_wp2
    go_ret
    exact ⟨ret_bool HL.out.symm, rfl⟩
  have H12 : Hid (¬ l = [104, 50]) := h12
  have q12 := lit13_no h12
  clear h12
  by_cases h13 : l = [104, 51]
  · have HL : Hid (Tre.isBlock l = true) := by show _ = _; rw [h13]; decide +kernel
    have q13 := lit13_yes h13
    clear h13
    go_enter Tryz.func130, Tryz.ntmps130
    go_wp2
    go_ret
    exact ⟨ret_bool HL.out.symm, rfl⟩
  have H13 : Hid (¬ l = [104, 51]) := h13
  have q13 := lit13_no h13
  clear h13
  by_cases h14 : l = [104, 52]
  · have HL : Hid (Tre.isBlock l = true) := by show _ = _; rw [h14]; decide +kernel
    have q14 := lit13_yes h14
    clear h14
    go_enter Tryz.func130, Tryz.ntmps130
    go_wp2
    go_ret
    exact ⟨ret_bool HL.out.symm, rfl⟩
  have H14 : Hid (¬ l = [104, 52]) := h14
  have q14 := lit13_no h14
  clear h14
  by_cases h15 : l = [104, 53]
  · have HL : Hid (Tre.isBlock l = true) := by show _ = _; rw [h15]; decide +kernel
    have q15 := lit13_yes h15
    clear h15
    go_enter Tryz.func130, Tryz.ntmps130
    go_wp2
    go_ret
    exact ⟨ret_bool HL.out.symm, rfl⟩
  have H15 : Hid (¬ l = [104, 53]) := h15
  have q15 := lit13_no h15
  clear h15
  by_cases h16 : l = [104, 54]
  · have HL : Hid (Tre.isBlock l = true) := by show _ = _; rw [h16]; decide +kernel
    have q16 := lit13_yes h16
    clear h16
    go_enter Tryz.func130, Tryz.ntmps130
    go_wp2
    go_ret
    exact ⟨ret_bool HL.out.symm, rfl⟩
  have H16 : Hid (¬ l = [104, 54]) := h16
  have q16 := lit13_no h16
  clear h16
  by_cases h17 : l = [104, 101, 97, 100, 101, 114]
  · have HL : Hid (Tre.isBlock l = true) := by show _ = _; rw [h17]; decide +kernel
    have q17 := lit13_yes h17
    clear h17
    go_enter Tryz.func130, Tryz.ntmps130
    go_wp2
    go_ret
    exact ⟨ret_bool HL.out.symm, rfl⟩
  have H17 : Hid (¬ l = [104, 101, 97, 100, 101, 114]) := h17
  have q17 := lit13_no h17
  clear h17
  by_cases h18 : l = [104, 114]
  · have HL : Hid (Tre.isBlock l = true) := by show _ = _; rw [h18]; decide +kernel
    have q18 := lit13_yes h18
    clear h18
    go_enter Tryz.func130, Tryz.ntmps130
    go_wp2
    go_ret
    exact ⟨ret_bool HL.out.symm, rfl⟩
  have H18 : Hid (¬ l = [104, 114]) := h18
  have q18 := lit13_no h18
  clear h18
  by_cases h19 : l = [109, 97, 105, 110]
  · have HL : Hid (Tre.isBlock l = true) := by show _ = _; rw [h19]; decide +kernel
    have q19 := lit13_yes h19
    clear h19
    go_enter Tryz.func130, Tryz.ntmps130
    go_wp2
    go_ret
    exact ⟨ret_bool HL.out.symm, rfl⟩
  have H19 : Hid (¬ l = [109, 97, 105, 110]) := h19
  have q19 := lit13_no h19
  clear h19
  by_cases h20 : l = [110, 97, 118]
  · have HL : Hid (Tre.isBlock l = true) := by show _ = _; rw [h20]; decide +kernel
    have q20 := lit13_yes h20
    clear h20
    go_enter Tryz.func130, Tryz.ntmps130
    go_wp2
    go_ret
    exact ⟨ret_bool HL.out.symm, rfl⟩
  have H20 : Hid (¬ l = [110, 97, 118]) := h20
  have q20 := lit13_no h20
  clear h20
  by_cases h21 : l = [111, 108]
  · have HL : Hid (Tre.isBlock l = true) := by show _ = _; rw [h21]; decide +kernel
    have q21 := lit13_yes h21
    clear h21
    go_enter Tryz.func130, Tryz.ntmps130
    go_wp2
    go_ret
    exact ⟨ret_bool HL.out.symm, rfl⟩
  have H21 : Hid (¬ l = [111, 108]) := h21
  have q21 := lit13_no h21
  clear h21
  by_cases h22 : l = [112]
  · have HL : Hid (Tre.isBlock l = true) := by show _ = _; rw [h22]; decide +kernel
    have q22 := lit13_yes h22
    clear h22
    go_enter Tryz.func130, Tryz.ntmps130
    go_wp2
    go_ret
    exact ⟨ret_bool HL.out.symm, rfl⟩
  have H22 : Hid (¬ l = [112]) := h22
  have q22 := lit13_no h22
  clear h22
  by_cases h23 : l = [112, 114, 101]
  · have HL : Hid (Tre.isBlock l = true) := by show _ = _; rw [h23]; decide +kernel
    have q23 := lit13_yes h23
    clear h23
    go_enter Tryz.func130, Tryz.ntmps130
    go_wp2
    go_ret
    exact ⟨ret_bool HL.out.symm, rfl⟩
  have H23 : Hid (¬ l = [112, 114, 101]) := h23
  have q23 := lit13_no h23
  clear h23
  by_cases h24 : l = [115, 101, 99, 116, 105, 111, 110]
  · have HL : Hid (Tre.isBlock l = true) := by show _ = _; rw [h24]; decide +kernel
    have q24 := lit13_yes h24
    clear h24
    go_enter Tryz.func130, Tryz.ntmps130
    go_wp2
    go_ret
    exact ⟨ret_bool HL.out.symm, rfl⟩
  have H24 : Hid (¬ l = [115, 101, 99, 116, 105, 111, 110]) := h24
  have q24 := lit13_no h24
  clear h24
  by_cases h25 : l = [116, 97, 98, 108, 101]
  · have HL : Hid (Tre.isBlock l = true) := by show _ = _; rw [h25]; decide +kernel
    have q25 := lit13_yes h25
    clear h25
    go_enter Tryz.func130, Tryz.ntmps130
    go_wp2
    go_ret
    exact ⟨ret_bool HL.out.symm, rfl⟩
  have H25 : Hid (¬ l = [116, 97, 98, 108, 101]) := h25
  have q25 := lit13_no h25
  clear h25
  by_cases h26 : l = [117, 108]
  · have HL : Hid (Tre.isBlock l = true) := by show _ = _; rw [h26]; decide +kernel
    have q26 := lit13_yes h26
    clear h26
    go_enter Tryz.func130, Tryz.ntmps130
    go_wp2
    go_ret
    exact ⟨ret_bool HL.out.symm, rfl⟩
  have H26 : Hid (¬ l = [117, 108]) := h26
  have q26 := lit13_no h26
  clear h26
  have HL : Hid (Tre.isBlock l = false) := by
    show _ = _
    unfold Tre.isBlock Tre.blockNames
    simp only [List.contains_cons, List.contains_nil, Bool.or_false, Bool.or_eq_false_iff, beq_eq_false_iff_ne]
    exact ⟨H0.out, H1.out, H2.out, H3.out, H4.out, H5.out, H6.out, H7.out, H8.out, H9.out, H10.out, H11.out, H12.out, H13.out, H14.out, H15.out, H16.out, H17.out, H18.out, H19.out, H20.out, H21.out, H22.out, H23.out, H24.out, H25.out, H26.out⟩
  go_enter Tryz.func130, Tryz.ntmps130
  go_wp2
  go_ret
  exact ⟨ret_bool HL.out.symm, rfl⟩
/-- Two rows of texts, made one behind the other. -/
theorem two_lit (w : World) (cs bs : List (List UInt8)) (ha : cs.length ≤ 1000) (hb : bs.length ≤ 1000) :
    (∀ W1 W, Below ((w.alloc (.cells (cs.map strV).toArray 9)).alloc (.cells (bs.map strV).toArray 9)).heap.size ((w.alloc (.cells (cs.map strV).toArray 9)).alloc (.cells (bs.map strV).toArray 9)) W1 → W1.grownBy W (some (w.heap.size + 1)) → ReadsTexts W (.slice (some ⟨w.heap.size, 0, none⟩) cs.length cs.length) cs) ∧
    OwnsTexts ((w.alloc (.cells (cs.map strV).toArray 9)).alloc (.cells (bs.map strV).toArray 9)) w.heap.size (.slice (some ⟨w.heap.size + 1, 0, none⟩) bs.length bs.length) bs ∧
    Below w.heap.size w ((w.alloc (.cells (cs.map strV).toArray 9)).alloc (.cells (bs.map strV).toArray 9)) := by
  have h1 := own_lit w cs ha
  have h2 := own_lit (w.alloc (.cells (cs.map strV).toArray 9)) bs hb
  have hb1 : Below w.heap.size w (w.alloc (.cells (cs.map strV).toArray 9)) := (Below.refl _ _).alloc (Nat.le_refl _) _
  have hb2 : Below (w.alloc (.cells (cs.map strV).toArray 9)).heap.size (w.alloc (.cells (cs.map strV).toArray 9)) ((w.alloc (.cells (cs.map strV).toArray 9)).alloc (.cells (bs.map strV).toArray 9)) := (Below.refl _ _).alloc (Nat.le_refl _) _
  have hs : (w.alloc (.cells (cs.map strV).toArray 9)).heap.size = w.heap.size + 1 := by simp
  rw [hs] at h2
  refine ⟨fun W1 W hW1 hW => ?_, OwnsTexts13.mono h2 (by omega), bel hb1 hb2⟩
  have h3 := OwnsTexts13.below (OwnsTexts13.below h1 hb2) hW1
  have h4 : OwnsTexts W w.heap.size (.slice (some ⟨w.heap.size, 0, none⟩) cs.length cs.length) cs := World.ownsRow.kept h3 hW (.inr (by
    intro e
    have := Option.some.inj e
    simp at this))
  exact h4.reads
set_option maxHeartbeats 4000000 in
set_option maxRecDepth 100000 in
theorem closedBy_any (l : List UInt8) (w : World) :
    Calls Tryz.prog 94 #[.string (str l)] w fun e w' => ∃ v1 v2, e = .returned (.tuple #[v1, v2]) ∧ (∀ W1 W, Below w'.heap.size w' W1 → W1.grownBy W v2.ownBlock → ReadsTexts W v1 (Tre.closes l).1) ∧ OwnsTexts w' w.heap.size v2 (Tre.closes l).2 ∧ Below w.heap.size w w' := by
  by_cases h0 : l = [108, 105]
  · have HL : Hid (Tre.closes l = ([[108, 105]], [[111, 108], [117, 108]])) := by show _ = _; rw [h0]; decide +kernel
    have q0 := lit13_yes h0
    clear h0
    go_enter Tryz.func94, Tryz.ntmps94
    go_wp2
    go_ret2
    rw [HL.out]
    exact ⟨_, _, rfl, two_lit w [[108, 105]] [[111, 108], [117, 108]] (by decide) (by decide)⟩
  have H0 : Hid (¬ l = [108, 105]) := h0
  have q0 := lit13_no h0
  clear h0
  by_cases h1 : l = [100, 116]
  · have HL : Hid (Tre.closes l = ([[100, 116], [100, 100]], [[100, 108]])) := by show _ = _; rw [h1]; decide +kernel
    have q1 := lit13_yes h1
    clear h1
    go_enter Tryz.func94, Tryz.ntmps94
    go_wp2
    go_ret2
    rw [HL.out]
    exact ⟨_, _, rfl, two_lit w [[100, 116], [100, 100]] [[100, 108]] (by decide) (by decide)⟩
  have H1 : Hid (¬ l = [100, 116]) := h1
  have q1 := lit13_no h1
  clear h1
  by_cases h2 : l = [100, 100]
  · have HL : Hid (Tre.closes l = ([[100, 116], [100, 100]], [[100, 108]])) := by show _ = _; rw [h2]; decide +kernel
    have q2 := lit13_yes h2
    clear h2
    go_enter Tryz.func94, Tryz.ntmps94
    go_wp2
    go_ret2
    rw [HL.out]
    exact ⟨_, _, rfl, two_lit w [[100, 116], [100, 100]] [[100, 108]] (by decide) (by decide)⟩
  have H2 : Hid (¬ l = [100, 100]) := h2
  have q2 := lit13_no h2
  clear h2
  by_cases h3 : l = [111, 112, 116, 105, 111, 110]
  · have HL : Hid (Tre.closes l = ([[111, 112, 116, 105, 111, 110]], [[115, 101, 108, 101, 99, 116]])) := by show _ = _; rw [h3]; decide +kernel
    have q3 := lit13_yes h3
    clear h3
    go_enter Tryz.func94, Tryz.ntmps94
    go_wp2
    go_ret2
    rw [HL.out]
    exact ⟨_, _, rfl, two_lit w [[111, 112, 116, 105, 111, 110]] [[115, 101, 108, 101, 99, 116]] (by decide) (by decide)⟩
  have H3 : Hid (¬ l = [111, 112, 116, 105, 111, 110]) := h3
  have q3 := lit13_no h3
  clear h3
  by_cases h4 : l = [116, 114]
  · have HL : Hid (Tre.closes l = ([[116, 114]], [[116, 97, 98, 108, 101]])) := by show _ = _; rw [h4]; decide +kernel
    have q4 := lit13_yes h4
    clear h4
    go_enter Tryz.func94, Tryz.ntmps94
    go_wp2
    go_ret2
    rw [HL.out]
    exact ⟨_, _, rfl, two_lit w [[116, 114]] [[116, 97, 98, 108, 101]] (by decide) (by decide)⟩
  have H4 : Hid (¬ l = [116, 114]) := h4
  have q4 := lit13_no h4
  clear h4
  by_cases h5 : l = [116, 100]
  · have HL : Hid (Tre.closes l = ([[116, 100], [116, 104]], [[116, 114], [116, 97, 98, 108, 101]])) := by show _ = _; rw [h5]; decide +kernel
    have q5 := lit13_yes h5
    clear h5
    go_enter Tryz.func94, Tryz.ntmps94
    go_wp2
    go_ret2
    rw [HL.out]
    exact ⟨_, _, rfl, two_lit w [[116, 100], [116, 104]] [[116, 114], [116, 97, 98, 108, 101]] (by decide) (by decide)⟩
  have H5 : Hid (¬ l = [116, 100]) := h5
  have q5 := lit13_no h5
  clear h5
  by_cases h6 : l = [116, 104]
  · have HL : Hid (Tre.closes l = ([[116, 100], [116, 104]], [[116, 114], [116, 97, 98, 108, 101]])) := by show _ = _; rw [h6]; decide +kernel
    have q6 := lit13_yes h6
    clear h6
    go_enter Tryz.func94, Tryz.ntmps94
    go_wp2
    go_ret2
    rw [HL.out]
    exact ⟨_, _, rfl, two_lit w [[116, 100], [116, 104]] [[116, 114], [116, 97, 98, 108, 101]] (by decide) (by decide)⟩
  have H6 : Hid (¬ l = [116, 104]) := h6
  have q6 := lit13_no h6
  clear h6
  have HC : Hid (Tre.closes l = if Tre.isBlock l = true then ([[112]], [[98, 117, 116, 116, 111, 110], [116, 97, 98, 108, 101], [116, 100], [116, 104], [108, 105], [111, 98, 106, 101, 99, 116]]) else ([], [])) := by
    show _ = _
    unfold Tre.closes
    rw [if_neg H0.out, if_neg H1.out, if_neg H2.out, if_neg H3.out, if_neg H4.out, if_neg H5.out, if_neg H6.out]
  have hB := isBlock_any l
  cases hb : Tre.isBlock l
  · rw [hb] at hB HC
    clear hb
    go_enter Tryz.func94, Tryz.ntmps94
    go_wp2_with (go_at_call 130; refine (hB _).mono ?_; rintro e w1 ⟨rfl, hw⟩; replace hw := hw.symm; subst hw)
    go_ret2
    rw [HC.out]
    exact ⟨_, _, rfl, fun _ _ _ _ => .inl ⟨_, _, rfl, rfl⟩, World.ownsRow_nil _ _ _ _, Below.refl _ _⟩
  · rw [hb] at hB HC
    clear hb
    go_enter Tryz.func94, Tryz.ntmps94
    go_wp2_with (go_at_call 130; refine (hB _).mono ?_; rintro e w1 ⟨rfl, hw⟩; replace hw := hw.symm; subst hw)
    go_ret2
    rw [HC.out]
    exact ⟨_, _, rfl, two_lit w [[112]] [[98, 117, 116, 116, 111, 110], [116, 97, 98, 108, 101], [116, 100], [116, 104], [108, 105], [111, 98, 106, 101, 99, 116]] (by decide) (by decide)⟩
theorem ReadsTexts13.form {w : World} {v : Value} {ts : List (List UInt8)} (h : ReadsTexts w v ts) : ∃ a c, v = .slice a ts.length c := by
  rcases h with ⟨a, c, rfl, rfl⟩ | ⟨b, o, c, rfl, _, _⟩
  · exact ⟨_, _, rfl⟩
  · exact ⟨_, _, rfl⟩
theorem ReadsTexts13.at {w : World} {a : Option Addr} {n c : Nat} {ts : List (List UInt8)} {k : Nat} {x : List UInt8} (h : ReadsTexts w (.slice a n c) ts) (hx : ts[k]? = some x) :
    ∃ b o, a = some ⟨b, o, none⟩ ∧ ts.length ≤ c ∧ b < w.heap.size ∧ w.cell? ⟨b, o + k, none⟩ = some (.string (str x)) := by
  rcases h with ⟨a, c, _, rfl⟩ | ⟨b, o, c, h1, h2, h3⟩
  · simp at hx
  · cases h1
    exact ⟨b, o, rfl, h2, cell_lt (h3 k x hx), h3 k x hx⟩
theorem ReadsTexts13.below {w w' : World} {v : Value} {ts : List (List UInt8)} (h : ReadsTexts w v ts) (hb : Below w.heap.size w w') : ReadsTexts w' v ts := by
  rcases h with h | ⟨b, o, c, rfl, hc, hr⟩
  · exact .inl h
  · exact .inr ⟨b, o, c, rfl, hc, fun j x hj => (hb.cell (p := ⟨b, o + j, none⟩) (cell_lt (hr j x hj))).trans (hr j x hj)⟩
theorem con_take (ts : List (List UInt8)) (q : List UInt8) (j : Nat) (h : j < ts.length) : (ts.take (j + 1)).contains q = ((ts.take j).contains q || q == ts[j]) := by
  rw [List.take_succ_eq_append_getElem h, List.contains_append]
  congr 1
  rw [Bool.eq_iff_iff]
  simp
theorem con_here (ts : List (List UInt8)) (q : List UInt8) (j : Nat) (h : j < ts.length) (hq : (q == ts[j]) = true) : ts.contains q = true := by
  have : q = ts[j] := by simpa using hq
  rw [this]
  simp
set_option maxHeartbeats 1000000 in
theorem SIndex_any (ts : List (List UInt8)) (v : Value) (q : List UInt8) (w : World) (hv : ReadsTexts w v ts) (hl : ts.length ≤ 1000000) :
    Calls Tryz.prog 162 #[v, .string (str q)] w fun e w' => (∃ r, e = .returned (.int .i64 r) ∧ decide (0 ≤ r) = ts.contains q) ∧ w' = w := by
  obtain ⟨a, c, rfl⟩ := ReadsTexts13.form hv
  have HV := hideT hv
  clear hv
  go_enter Tryz.func162, Tryz.ntmps162
  go_wp2
  go_loopw [8] (fun i wr => ∃ j : Nat, i = .int .i64 j ∧ j ≤ ts.length ∧ Hid ((ts.take j).contains q = false) ∧ wr = w) (fun i _ => ts.length - (intOf i).toNat)
  case atStart => exact ⟨0, rfl, Nat.zero_le _, rfl, rfl⟩
  case round =>
    obtain ⟨j, rfl, hj, HE, hB⟩ := hrel
    replace hB := hB.symm
    subst hB
    by_cases hjl : j < ts.length
    · have hat : ts[j]? = some ts[j] := List.getElem?_eq_getElem hjl
      obtain ⟨b, o, rfl, hc, hbl, h1⟩ := ReadsTexts13.at HV.out hat
      have qq := str_beq q ts[j]
      cases hq : (q == ts[j])
      · have HN : Hid ((ts.take (j + 1)).contains q = false) := by
          show _ = _
          rw [con_take ts q j hjl, HE.out, hq]
          rfl
        rw [hq] at qq
        clear hat hq
        generalize ts[j] = p at *
        go_wp2
        go_roundw
        case rel => exact ⟨j + 1, by go_num, by omega, HN, by first | rfl | trivial⟩
        case measure => simp [intOf]; omega
      · have HN : Hid (ts.contains q = true) := con_here ts q j hjl hq
        rw [hq] at qq
        clear hat hq
        generalize ts[j] = p at *
        go_wp2
        go_ret
        exact ⟨⟨_, rfl, by rw [HN.out]; simp⟩, rfl⟩
    · have HN : Hid (ts.contains q = false) := by
        have h := HE.out
        rwa [List.take_of_length_le (by omega)] at h
      go_wp2
      go_ret
      exact ⟨⟨_, rfl, by rw [HN.out]; rfl⟩, rfl⟩
set_option maxHeartbeats 1000000 in
theorem SContains_any (ts : List (List UInt8)) (v : Value) (q : List UInt8) (w : World) (hv : ReadsTexts w v ts) (hl : ts.length ≤ 1000000) :
    Calls Tryz.prog 131 #[v, .string (str q)] w fun e w' => e = .returned (.bool (ts.contains q)) ∧ w' = w := by
  have hI := SIndex_any ts v q w hv hl
  go_enter Tryz.func131, Tryz.ntmps131
  go_wp2_with (go_at_call 162; refine hI.mono ?_; rintro e w1 ⟨⟨r, rfl, hr⟩, hw⟩; replace hw := hw.symm; subst hw)
  go_ret
  exact ⟨ret_bool (by simp), rfl⟩
set_option maxHeartbeats 1000000 in
theorem RHas13_any (ts : List (List UInt8)) (v : Value) (q : List UInt8) (w : World) (hv : ReadsTexts w v ts) (hl : ts.length ≤ 1000000) :
    Calls Tryz.prog 60 #[v, .string (str q)] w fun e w' => e = .returned (.bool (ts.contains q)) ∧ w' = w := by
  obtain ⟨a, c, rfl⟩ := ReadsTexts13.form hv
  have HV := hideT hv
  clear hv
  go_enter Tryz.func60, Tryz.ntmps60
  go_wp2
  go_loopw [5] (fun i wr => ∃ j : Nat, i = .int .i64 j ∧ j ≤ ts.length ∧ Hid ((ts.take j).contains q = false) ∧ wr = w) (fun i _ => ts.length - (intOf i).toNat)
  case atStart => exact ⟨0, rfl, Nat.zero_le _, rfl, rfl⟩
  case round =>
    obtain ⟨j, rfl, hj, HE, hB⟩ := hrel
    replace hB := hB.symm
    subst hB
    by_cases hjl : j < ts.length
    · have hat : ts[j]? = some ts[j] := List.getElem?_eq_getElem hjl
      obtain ⟨b, o, rfl, hc, hbl, h1⟩ := ReadsTexts13.at HV.out hat
      have qq := str_beq ts[j] q
      cases hq : (q == ts[j])
      · have HN : Hid ((ts.take (j + 1)).contains q = false) := by
          show _ = _
          rw [con_take ts q j hjl, HE.out, hq]
          rfl
        rw [show (ts[j] == q) = (q == ts[j]) from by rw [Bool.eq_iff_iff]; simp; exact ⟨Eq.symm, Eq.symm⟩, hq] at qq
        clear hat hq
        generalize ts[j] = p at *
        go_wp2
        go_roundw
        case rel => exact ⟨j + 1, by go_num, by omega, HN, by first | rfl | trivial⟩
        case measure => simp [intOf]; omega
      · have HN : Hid (ts.contains q = true) := con_here ts q j hjl hq
        rw [show (ts[j] == q) = (q == ts[j]) from by rw [Bool.eq_iff_iff]; simp; exact ⟨Eq.symm, Eq.symm⟩, hq] at qq
        clear hat hq
        generalize ts[j] = p at *
        go_wp2
        go_ret
        exact ⟨ret_bool HN.out.symm, rfl⟩
    · have HN : Hid (ts.contains q = false) := by
        have h := HE.out
        rwa [List.take_of_length_le (by omega)] at h
      go_wp2
      go_ret
      exact ⟨ret_bool HN.out.symm, rfl⟩
end Go.Proofs.YtiodaahncadodaaGreatDoor
