/- Texts laid as one. -/
import Derived.Test.YtiodaahncadodaaGreatDoorKTreAE
import Derived.Test.YtiodaahncadodaaGreatDoorKTrAB
import Derived.Deep.RegionWith
import Derived.Deep.RegionHeld3
import Derived.WalkMore
import Derived.Deep.MidRow
import Derived.Deep.CutBlock
/- The contract of the reference's Same. -/
set_option linter.unusedVariables false
set_option linter.unusedSimpArgs false
namespace Go.Proofs.YtiodaahncadodaaGreatDoor
open Go.RowKit
theorem takeHq {md : Region.Mode} {ops : Array Oper} {Q : Exit → Act → World → Prop} {S : World → Prop} {fuel : Nat} {listed : Array Bool} {a : Act} {w : World} (i d : Nat) (v : Value) {oi : Oper} (hi : ops[i]? = some oi) (hd : oi.dst = some d)
    (hs : Region.noSelect ops = true) (hf : Region.free md ops listed i = true) (hr : (Region.ready md ops listed).contains i = true)
    (hQ : ∀ c a w, Q (.panic c) (a.put (some d) v) w → Q (.panic c) a w) (hy : YieldsIf Tryz.prog ops S oi v a) (hS : S w)
    (h : wpAnyH Tryz.prog md ops Q S fuel (listed.setIfInBounds i true) (a.put (some d) v) w) : wpAnyH Tryz.prog md ops Q S (fuel + 1) listed a w :=
  wpAnyH_take hi hs hf hr (by rw [hd]; exact hQ) hy hS (by rw [hd]; exact h)
def NAtq (w : World) (b : Nat) (cs : Array Value) : Prop := w.heap[b]? = some (.cells cs 43 (0, 0))
theorem sizeNq : (Tryz.prog.info? 43).map (·.size) = some 6 := by kernel_rfl
theorem NAtq.lt {w : World} {b : Nat} {cs : Array Value} (h : NAtq w b cs) : b < w.heap.size := (Array.getElem?_eq_some_iff.1 h).1
theorem NAtq.below {w w' : World} {b : Nat} {cs : Array Value} (h : NAtq w b cs) (hb : Below w.heap.size w w') : NAtq w' b cs := (hb.block _ h.lt).trans h
theorem NAtq.other {w : World} {b c : Nat} {cs ds : Array Value} (h : NAtq w b cs) (hne : b ≠ c) : NAtq (w.setRow c ds) b cs := by
  unfold NAtq at *
  simp [World.setRow, Array.getElem?_modify, Ne.symm hne, h]
theorem NAtq.set {w : World} {b : Nat} {cs ds : Array Value} (h : NAtq w b cs) : NAtq (w.setRow b ds) b ds := by
  unfold NAtq at *
  simp [World.setRow, Array.getElem?_modify, h]
theorem storeAt_Nq {w : World} {b : Nat} {cs : Array Value} (hc : cs.size = 6) {k u : Int} {n x : ByteArray} {ad kd : Option Addr} {ln cp kn kc : Nat} (h : NAtq w b cs) : (Instr.storeAt 43 (.pointer (some ⟨b, 0, none⟩)) (.agg #[.int .i64 k, .string n, .slice ad ln cp, .string x, .int .i64 u, .slice kd kn kc])).run Tryz.prog w = .ok () (w.setRow b #[.int .i64 k, .string n, .slice ad ln cp, .string x, .int .i64 u, .slice kd kn kc]) := by
  simp only [Instr.storeAt, Instr.sureAddr, Sem.run_bind, Sem.run_pure, Result.andThen]
  exact run_storeVar_row _ _ _ _ _ _ h sizeNq (by first | exact hc | simp [hc]) (by simp [Value.oneCell'])
theorem step_store_Nq {ops : Array Oper} {o : Oper} {a : Act} {w : World} {K : Act → World → Prop} {Q : Exit → Act → World → Prop} {E : Prop} (p q : Operand) (ho : o.op = .store 43 p q) (hg : o.guard = none) (b : Nat) (cs : Array Value) (hc : cs.size = 6) (k u : Int) (n x : ByteArray) (ad kd : Option Addr) (ln cp kn kc : Nat) (hx : a.eval p = .pointer (some ⟨b, 0, none⟩)) (hy : a.eval q = .agg #[.int .i64 k, .string n, .slice ad ln cp, .string x, .int .i64 u, .slice kd kn kc]) (h : NAtq w b cs)
    (hK : K (a.put o.dst undef) (w.setRow b #[.int .i64 k, .string n, .slice ad ln cp, .string x, .int .i64 u, .slice kd kn kc])) : if Region.wanted o (yielded ops a.tmps) = true then Oper.wp Tryz.prog o a w K Q else E := by
  have hw : Region.wanted o (yielded ops a.tmps) = true := by simp [Region.wanted, hg]
  rw [if_pos hw]
  unfold Oper.wp
  have e : (execOp a.eval o).run Tryz.prog w = .ok .skip (w.setRow b #[.int .i64 k, .string n, .slice ad ln cp, .string x, .int .i64 u, .slice kd kn kc]) := by
    unfold execOp
    rw [ho]
    simp only [hx, hy, Sem.run_bind, storeAt_Nq hc h, Result.andThen, Sem.run_pure]
  rw [e, Oper.upon_skip]
  exact hK
theorem anyH_store_Nq {md : Region.Mode} {ops : Array Oper} {Q : Exit → Act → World → Prop} {S : World → Prop} {fuel : Nat} {listed : Array Bool} {a : Act} {w : World} (i : Nat) {o : Oper} (hr : Region.ready md ops listed = [i]) (hi : ops[i]? = some o) (hd : o.dst = none) (p q : Operand) (ho : o.op = .store 43 p q) (hg : o.guard = none) (b : Nat) (cs : Array Value) (hc : cs.size = 6) (k u : Int) (n x : ByteArray) (ad kd : Option Addr) (ln cp kn kc : Nat) (hx : a.eval p = .pointer (some ⟨b, 0, none⟩)) (hy : a.eval q = .agg #[.int .i64 k, .string n, .slice ad ln cp, .string x, .int .i64 u, .slice kd kn kc]) (h : NAtq w b cs)
    (hS : S (w.setRow b #[.int .i64 k, .string n, .slice ad ln cp, .string x, .int .i64 u, .slice kd kn kc])) (hK : S (w.setRow b #[.int .i64 k, .string n, .slice ad ln cp, .string x, .int .i64 u, .slice kd kn kc]) → wpAnyH Tryz.prog md ops Q S fuel (listed.setIfInBounds i true) a (w.setRow b #[.int .i64 k, .string n, .slice ad ln cp, .string x, .int .i64 u, .slice kd kn kc])) : wpAnyH Tryz.prog md ops Q S (fuel + 1) listed a w :=
  wpAnyH_ready hr (by simp) (AllReadyH.cons hi (fun _ h2 => step_store_Nq p q ho hg b cs hc k u n x ad kd ln cp kn kc hx hy h (h2.out _ _ hS (by rw [hd]; exact hK))) AllReadyH.nil)
abbrev zeroCellsN : Array Value := #[.int .i64 0, .string ByteArray.empty, .slice none 0 0, .string ByteArray.empty, .int .i64 0, .slice none 0 0]
theorem zeroNq : (Tryz.prog.info? 43).map (fun i => (i.zero, i.size)) = some (some (.agg zeroCellsN), 6) := by kernel_rfl
abbrev nCellsA (n : Nd) (aa : Option Addr) (ac : Nat) (ka : Option Addr) (kc : Nat) : Array Value := #[.int .i64 n.kind, .string (str n.name), .slice aa n.attrs.length ac, .string (str n.text), .int .i64 n.up, .slice ka n.kids.length kc]
set_option maxHeartbeats 8000000 in
set_option maxRecDepth 100000 in
theorem RSame13_any (v u : Value) (ns ms : List Nd) (w : World) (hv : ReadsN w v ns) (hu : ReadsN w u ms) (hl : ns.length ≤ 140737488351232) (hm : ms.length ≤ 140737488351232)
    (ha : ns.length = ms.length → ∀ i, i < ns.length → (Tre.ndAt ns i).attrs.length ≤ 140737488351232 ∧ (Tre.ndAt ms i).attrs.length ≤ 140737488351232 ∧ (Tre.ndAt ns i).kids.length ≤ 140737488351232) :
    Calls Tryz.prog 13 #[.agg #[v], .agg #[u]] w fun e w' => e = .returned (.bool (Tre.sameL ns ms)) ∧ Below w.heap.size w w' := by
  obtain ⟨a1, c1, rfl⟩ := hv.form
  obtain ⟨a2, c2, rfl⟩ := hu.form
  have hb0 : Below w.heap.size w ((w.alloc (.cells #[.slice a1 ns.length c1] 26)).alloc (.cells #[.slice a2 ms.length c2] 26)) := ((Below.refl _ w).alloc (Nat.le_refl _) _).alloc (by simp) _
  have hh2 := heap_new (w.alloc (.cells #[.slice a1 ns.length c1] 26)) (.cells #[.slice a2 ms.length c2] 26)
  have hh1 := ((Below.refl _ (w.alloc (.cells #[.slice a1 ns.length c1] 26))).alloc (Nat.le_refl _) (.cells #[.slice a2 ms.length c2] 26)).block w.heap.size (by simp) |>.trans (heap_new w (.cells #[.slice a1 ns.length c1] 26))
  rw [show (w.alloc (.cells #[.slice a1 ns.length c1] 26)).heap.size = w.heap.size + 1 from by simp] at hh2
  have d1 := Lib.cell_of_heap hh1 0
  have d2 := Lib.cell_of_heap hh2 0
  have HV := hideT (hv.below hb0)
  have HU := hideT (hu.below hb0)
  have HB0 := hideT hb0
  have hbl : w.heap.size < ((w.alloc (.cells #[.slice a1 ns.length c1] 26)).alloc (.cells #[.slice a2 ms.length c2] 26)).heap.size := cell_lt d1
  have hbl2 : w.heap.size + 1 < ((w.alloc (.cells #[.slice a1 ns.length c1] 26)).alloc (.cells #[.slice a2 ms.length c2] 26)).heap.size := cell_lt d2
  clear hv hu hb0 hh1 hh2
  by_cases hlen : ns.length = ms.length
  · have hq : ((ns.length : Int) != (ms.length : Int)) = false := by simp [hlen]
    have HL := hideT hlen
    have HA := hideT (ha hlen)
    clear ha hlen
    go_enter Tryz.func13, Tryz.ntmps13
    go_wp2
    generalize ((w.alloc (.cells #[.slice a1 ns.length c1] 26)).alloc (.cells #[.slice a2 ms.length c2] 26)) = W0 at *
    obtain ⟨bw, hbw⟩ : ∃ b, w.heap.size = b := ⟨_, rfl⟩
    rw [hbw] at d1 d2 hbl hbl2 ⊢
    clear hbw
    go_loopw [5] (fun i wr => ∃ k : Nat, i = .int .i64 k ∧ k ≤ ns.length ∧ Hid (∀ j, j < k → Tre.sameNd (Tre.ndAt ns j) (Tre.ndAt ms j) = true) ∧ Hid (Below W0.heap.size W0 wr)) (fun i _ => ns.length - (intOf i).toNat)
    case atStart => exact ⟨0, rfl, Nat.zero_le _, fun j hj => by omega, Below.refl _ _⟩
    case round =>
      obtain ⟨k, rfl, hk, HE, HB⟩ := hrel
      rename World => X
      have x1 := (HB.out.cell (p := ⟨bw, 0, none⟩) hbl).trans d1
      have x2 := (HB.out.cell (p := ⟨bw + 1, 0, none⟩) hbl2).trans d2
      by_cases hkl : k < ns.length
      · have hkm : k < ms.length := by have := HL.out; omega
        obtain ⟨hA1, hA2, hA3⟩ := HA.out k hkl
        obtain ⟨b1, o1, aa1, ac1, ka1, kc1, rfl, hc1, hr1⟩ := (HV.out.below HB.out).at hkl
        obtain ⟨b2, o2, aa2, ac2, ka2, kc2, rfl, hc2, hr2⟩ := (HU.out.below HB.out).at hkm
        have HR1 := hideT hr1
        have HR2 := hideT hr2
        have HKL := hideT hkl
        have HX : Hid (∀ j, j < k + 1 → Tre.sameNd (Tre.ndAt ns k) (Tre.ndAt ms k) = true → Tre.sameNd (Tre.ndAt ns j) (Tre.ndAt ms j) = true) := fun j hj h => by
          by_cases e : j = k
          · rw [e]; exact h
          · exact HE.out j (by omega)
        have HNo : Hid (Tre.sameNd (Tre.ndAt ns k) (Tre.ndAt ms k) = false → Tre.sameL ns ms = false) := fun h => Tre.sameL_at k hkl hkm h
        generalize Tre.ndAt ns k = n at *
        generalize Tre.ndAt ms k = m at *
        clear hr1 hr2 HE
        obtain ⟨kd, nm, ats, tx, up, ks⟩ := n
        obtain ⟨kd2, nm2, ats2, tx2, up2, ks2⟩ := m
        simp only at hA1 hA2 hA3
        have HS : Hid (Tre.sameNd ⟨kd, nm, ats, tx, up, ks⟩ ⟨kd2, nm2, ats2, tx2, up2, ks2⟩ = ((kd == kd2) && ((nm == nm2) && (decide (ats = ats2) && ((tx == tx2) && ((up == up2) && decide (ks = ks2))))))) := rfl
        have hz := (zero_of_info zeroNq).1
        have hbX : bw < X.heap.size := Nat.lt_of_lt_of_le hbl HB.out.size
        have hbX2 : bw + 1 < X.heap.size := Nat.lt_of_lt_of_le hbl2 HB.out.size
        go_wp2
        go_cut [6, 7] from 22 to 31 (fun s6 s7 w' => ∃ b6 b7 : Nat, s6 = Value.pointer (some ⟨b6, 0, none⟩) ∧ s7 = Value.pointer (some ⟨b7, 0, none⟩) ∧ NAtq w' b6 #[.int .i64 kd, .string (str nm), .slice aa1 ats.length ac1, .string (str tx), .int .i64 up, .slice ka1 ks.length kc1] ∧ NAtq w' b7 #[.int .i64 kd2, .string (str nm2), .slice aa2 ats2.length ac2, .string (str tx2), .int .i64 up2, .slice ka2 ks2.length kc2] ∧ Below X.heap.size X w')
        case first =>
          obtain ⟨S, hS1⟩ : ∃ S : World → Prop, ∀ W, S W ↔ Below X.heap.size X W := ⟨_, fun _ => Iff.rfl⟩
          refine wp_region_held_drew (S := S) (by kernel_rfl) ((hS1 _).2 ((Below.refl _ _).drew)) (fun hS => ?_)
          generalize World.drew X = wd at hS ⊢
          refine takeHq 0 22 (.pointer (some ⟨bw, 0, none⟩)) rfl rfl (by kernel_rfl) (by kernel_rfl) (by kernel_rfl) (fun _ _ _ h => h) (Or.inl ⟨by kernel_rfl, fun W _ => by go_simp⟩) hS ?_
          simp only [Act.put, List.setIfInBounds_toArray, List.set_cons_zero, List.set_cons_succ]
          refine takeHq 1 23 (.slice (some ⟨b1, o1, none⟩) ns.length c1) rfl rfl (by kernel_rfl) (by kernel_rfl) (by kernel_rfl) (fun _ _ _ h => h) (Or.inl ⟨by kernel_rfl, fun W hW => by have hc := ((((hS1 W).1 hW).cell (p := ⟨bw, 0, none⟩) hbX).trans x1); go_simp⟩) hS ?_
          simp only [Act.put, List.setIfInBounds_toArray, List.set_cons_zero, List.set_cons_succ]
          refine takeHq 2 24 (.int .i64 (k : Int)) rfl rfl (by kernel_rfl) (by kernel_rfl) (by kernel_rfl) (fun _ _ _ h => h) (Or.inl ⟨by kernel_rfl, fun W _ => by go_simp⟩) hS ?_
          simp only [Act.put, List.setIfInBounds_toArray, List.set_cons_zero, List.set_cons_succ]
          refine takeHq 3 25 (.pointer (some ⟨b1, o1 + k * 6, none⟩)) rfl rfl (by kernel_rfl) (by kernel_rfl) (by kernel_rfl) (fun _ _ _ h => h) (Or.inl ⟨by kernel_rfl, fun W _ => by go_simp⟩) hS ?_
          simp only [Act.put, List.setIfInBounds_toArray, List.set_cons_zero, List.set_cons_succ]
          refine takeHq 4 26 (.agg #[.int .i64 kd, .string (str nm), .slice aa1 ats.length ac1, .string (str tx), .int .i64 up, .slice ka1 ks.length kc1]) rfl rfl (by kernel_rfl) (by kernel_rfl) (by kernel_rfl) (fun _ _ _ h => h) (yieldsIf_load_mid (by kernel_rfl) 43 (.tmp 25) rfl b1 (o1 + k * 6) rfl #[.int .i64 kd, .string (str nm), .slice aa1 ats.length ac1, .string (str tx), .int .i64 up, .slice ka1 ks.length kc1].toList _ (fun W hW => (HR1.out.below ((hS1 W).1 hW)).rng) Tryz.underlying43 rfl sizeN) hS ?_
          simp only [Act.put, List.setIfInBounds_toArray, List.set_cons_zero, List.set_cons_succ]
          refine takeHq 5 27 (.pointer (some ⟨bw + 1, 0, none⟩)) rfl rfl (by kernel_rfl) (by kernel_rfl) (by kernel_rfl) (fun _ _ _ h => h) (Or.inl ⟨by kernel_rfl, fun W _ => by go_simp⟩) hS ?_
          simp only [Act.put, List.setIfInBounds_toArray, List.set_cons_zero, List.set_cons_succ]
          refine takeHq 6 28 (.slice (some ⟨b2, o2, none⟩) ms.length c2) rfl rfl (by kernel_rfl) (by kernel_rfl) (by kernel_rfl) (fun _ _ _ h => h) (Or.inl ⟨by kernel_rfl, fun W hW => by have hc := ((((hS1 W).1 hW).cell (p := ⟨bw + 1, 0, none⟩) hbX2).trans x2); go_simp⟩) hS ?_
          simp only [Act.put, List.setIfInBounds_toArray, List.set_cons_zero, List.set_cons_succ]
          refine takeHq 7 29 (.int .i64 (k : Int)) rfl rfl (by kernel_rfl) (by kernel_rfl) (by kernel_rfl) (fun _ _ _ h => h) (Or.inl ⟨by kernel_rfl, fun W _ => by go_simp⟩) hS ?_
          simp only [Act.put, List.setIfInBounds_toArray, List.set_cons_zero, List.set_cons_succ]
          refine takeHq 8 30 (.pointer (some ⟨b2, o2 + k * 6, none⟩)) rfl rfl (by kernel_rfl) (by kernel_rfl) (by kernel_rfl) (fun _ _ _ h => h) (Or.inl ⟨by kernel_rfl, fun W _ => by go_simp⟩) hS ?_
          simp only [Act.put, List.setIfInBounds_toArray, List.set_cons_zero, List.set_cons_succ]
          refine takeHq 9 31 (.agg #[.int .i64 kd2, .string (str nm2), .slice aa2 ats2.length ac2, .string (str tx2), .int .i64 up2, .slice ka2 ks2.length kc2]) rfl rfl (by kernel_rfl) (by kernel_rfl) (by kernel_rfl) (fun _ _ _ h => h) (yieldsIf_load_mid (by kernel_rfl) 43 (.tmp 30) rfl b2 (o2 + k * 6) rfl #[.int .i64 kd2, .string (str nm2), .slice aa2 ats2.length ac2, .string (str tx2), .int .i64 up2, .slice ka2 ks2.length kc2].toList _ (fun W hW => (HR2.out.below ((hS1 W).1 hW)).rng) Tryz.underlying43 rfl sizeN) hS ?_
          simp only [Act.put, List.setIfInBounds_toArray, List.set_cons_zero, List.set_cons_succ]
          refine wpAnyH_ready (rs := [10, 11]) (by kernel_rfl) (by simp) ?_
          refine AllReadyH.cons rfl (fun K hK => ?_) (AllReadyH.cons rfl (fun K hK => ?_) AllReadyH.nil)
          · go_simp
            have hb6 : NAtq (wd.alloc (.cells zeroCellsN 43)) wd.heap.size zeroCellsN := heap_new _ _
            have hY : Below wd.heap.size wd (wd.alloc (.cells zeroCellsN 43)) := (Below.refl _ _).alloc (Nat.le_refl _) _
            have gb6 : X.heap.size ≤ wd.heap.size := ((hS1 _).1 hS).size
            skip
            refine hK.out _ _ ((hS1 _).2 (bel ((hS1 _).1 hS) hY)) (fun hS => ?_)
            clear hK K hY
            generalize wd.alloc (.cells zeroCellsN 43) = v1 at *
            generalize wd.heap.size = b6 at *
            refine wpAnyH_ready (rs := [11]) (by kernel_rfl) (by simp) ?_
            refine AllReadyH.cons rfl (fun K hK => ?_) AllReadyH.nil
            go_simp
            have hb7 : NAtq (v1.alloc (.cells zeroCellsN 43)) v1.heap.size zeroCellsN := heap_new _ _
            have hY : Below v1.heap.size v1 (v1.alloc (.cells zeroCellsN 43)) := (Below.refl _ _).alloc (Nat.le_refl _) _
            have gb7 : X.heap.size ≤ v1.heap.size := ((hS1 _).1 hS).size
            have d67 : b6 < v1.heap.size := hb6.lt
            replace hb6 := hb6.below hY
            refine hK.out _ _ ((hS1 _).2 (bel ((hS1 _).1 hS) hY)) (fun hS => ?_)
            clear hK K hY
            generalize v1.alloc (.cells zeroCellsN 43) = v2 at *
            generalize v1.heap.size = b7 at *
            refine anyH_store_Nq 12 (by kernel_rfl) rfl rfl (Operand.tmp 6) (Operand.tmp 26) rfl rfl b6 _ rfl kd up (str nm) (str tx) aa1 ka1 ats.length ac1 ks.length kc1 (by kernel_rfl) (by kernel_rfl) hb6 ((hS1 _).2 (((hS1 _).1 hS).trans ((kept_setRow _ _ _).below _ gb6 ((hS1 _).1 hS).size))) (fun hS => ?_)
            replace hb7 := NAtq.other (ds := #[.int .i64 kd, .string (str nm), .slice aa1 ats.length ac1, .string (str tx), .int .i64 up, .slice ka1 ks.length kc1]) hb7 (show b7 ≠ b6 by omega)
            replace hb6 := NAtq.set (ds := #[.int .i64 kd, .string (str nm), .slice aa1 ats.length ac1, .string (str tx), .int .i64 up, .slice ka1 ks.length kc1]) hb6
            refine anyH_store_Nq 13 (by kernel_rfl) rfl rfl (Operand.tmp 7) (Operand.tmp 31) rfl rfl b7 _ rfl kd2 up2 (str nm2) (str tx2) aa2 ka2 ats2.length ac2 ks2.length kc2 (by kernel_rfl) (by kernel_rfl) hb7 ((hS1 _).2 (((hS1 _).1 hS).trans ((kept_setRow _ _ _).below _ gb7 ((hS1 _).1 hS).size))) (fun hS => ?_)
            replace hb6 := NAtq.other (ds := #[.int .i64 kd2, .string (str nm2), .slice aa2 ats2.length ac2, .string (str tx2), .int .i64 up2, .slice ka2 ks2.length kc2]) hb6 (show b6 ≠ b7 by omega)
            replace hb7 := NAtq.set (ds := #[.int .i64 kd2, .string (str nm2), .slice aa2 ats2.length ac2, .string (str tx2), .int .i64 up2, .slice ka2 ks2.length kc2]) hb7
            refine wpAnyH_done (by kernel_rfl) ?_ _
            go_wp2
            go_meet
            case rel => exact ⟨b6, b7, rfl, rfl, hb6, hb7, (hS1 _).1 hS⟩
          · go_simp
            have hb7 : NAtq (wd.alloc (.cells zeroCellsN 43)) wd.heap.size zeroCellsN := heap_new _ _
            have hY : Below wd.heap.size wd (wd.alloc (.cells zeroCellsN 43)) := (Below.refl _ _).alloc (Nat.le_refl _) _
            have gb7 : X.heap.size ≤ wd.heap.size := ((hS1 _).1 hS).size
            skip
            refine hK.out _ _ ((hS1 _).2 (bel ((hS1 _).1 hS) hY)) (fun hS => ?_)
            clear hK K hY
            generalize wd.alloc (.cells zeroCellsN 43) = v1 at *
            generalize wd.heap.size = b7 at *
            refine wpAnyH_ready (rs := [10]) (by kernel_rfl) (by simp) ?_
            refine AllReadyH.cons rfl (fun K hK => ?_) AllReadyH.nil
            go_simp
            have hb6 : NAtq (v1.alloc (.cells zeroCellsN 43)) v1.heap.size zeroCellsN := heap_new _ _
            have hY : Below v1.heap.size v1 (v1.alloc (.cells zeroCellsN 43)) := (Below.refl _ _).alloc (Nat.le_refl _) _
            have gb6 : X.heap.size ≤ v1.heap.size := ((hS1 _).1 hS).size
            have d67 : b7 < v1.heap.size := hb7.lt
            replace hb7 := hb7.below hY
            refine hK.out _ _ ((hS1 _).2 (bel ((hS1 _).1 hS) hY)) (fun hS => ?_)
            clear hK K hY
            generalize v1.alloc (.cells zeroCellsN 43) = v2 at *
            generalize v1.heap.size = b6 at *
            refine anyH_store_Nq 12 (by kernel_rfl) rfl rfl (Operand.tmp 6) (Operand.tmp 26) rfl rfl b6 _ rfl kd up (str nm) (str tx) aa1 ka1 ats.length ac1 ks.length kc1 (by kernel_rfl) (by kernel_rfl) hb6 ((hS1 _).2 (((hS1 _).1 hS).trans ((kept_setRow _ _ _).below _ gb6 ((hS1 _).1 hS).size))) (fun hS => ?_)
            replace hb7 := NAtq.other (ds := #[.int .i64 kd, .string (str nm), .slice aa1 ats.length ac1, .string (str tx), .int .i64 up, .slice ka1 ks.length kc1]) hb7 (show b7 ≠ b6 by omega)
            replace hb6 := NAtq.set (ds := #[.int .i64 kd, .string (str nm), .slice aa1 ats.length ac1, .string (str tx), .int .i64 up, .slice ka1 ks.length kc1]) hb6
            refine anyH_store_Nq 13 (by kernel_rfl) rfl rfl (Operand.tmp 7) (Operand.tmp 31) rfl rfl b7 _ rfl kd2 up2 (str nm2) (str tx2) aa2 ka2 ats2.length ac2 ks2.length kc2 (by kernel_rfl) (by kernel_rfl) hb7 ((hS1 _).2 (((hS1 _).1 hS).trans ((kept_setRow _ _ _).below _ gb7 ((hS1 _).1 hS).size))) (fun hS => ?_)
            replace hb6 := NAtq.other (ds := #[.int .i64 kd2, .string (str nm2), .slice aa2 ats2.length ac2, .string (str tx2), .int .i64 up2, .slice ka2 ks2.length kc2]) hb6 (show b6 ≠ b7 by omega)
            replace hb7 := NAtq.set (ds := #[.int .i64 kd2, .string (str nm2), .slice aa2 ats2.length ac2, .string (str tx2), .int .i64 up2, .slice ka2 ks2.length kc2]) hb7
            refine wpAnyH_done (by kernel_rfl) ?_ _
            go_wp2
            go_meet
            case rel => exact ⟨b6, b7, rfl, rfl, hb6, hb7, (hS1 _).1 hS⟩
        case rest =>
          obtain ⟨b6, b7, rfl, rfl, hN6, hN7, hbZ⟩ := hcut
          rename World => Z
          have HBZ := hideT (HB.out.trans (hbZ.mono HB.out.size))
          have e0 := Lib.cell_of_heap hN6 0
          have e1 := Lib.cell_of_heap hN6 1
          have e2 := Lib.cell_of_heap hN6 2
          have e3 := Lib.cell_of_heap hN6 3
          have e4 := Lib.cell_of_heap hN6 4
          have e5 := Lib.cell_of_heap hN6 5
          have u0 := Lib.cell_of_heap hN7 0
          have u1 := Lib.cell_of_heap hN7 1
          have u2 := Lib.cell_of_heap hN7 2
          have u3 := Lib.cell_of_heap hN7 3
          have u4 := Lib.cell_of_heap hN7 4
          have u5 := Lib.cell_of_heap hN7 5
          have HI := hideT (RsameInts_any _ _ ks ks2 Z (HR1.out.below hbZ).kds (HR2.out.below hbZ).kds hA3)
          have HT := hideT (fun q => RSameT_big 0 0 [] [] ats ats2 false false [] [] _ _ (Z.drewN q) (((HR1.out.below hbZ).ats).below (bel_quiet ⟨q, rfl⟩)) (((HR2.out.below hbZ).ats).below (bel_quiet ⟨q, rfl⟩)) hA1 hA2)
          have HTV : Hid (sameK 0 0 [] [] ats ats2 false false [] [] = decide (ats = ats2)) := by
            show _ = _
            simp [sameK]
          rw [HTV.out] at HT
          have qn := str_beq nm nm2
          have qx := str_beq tx tx2
          clear hN6 hN7 hbZ x1 x2 hbX hbX2 hc1 hc2 HR1 HR2 HTV hz
          cases hk9 : (kd == kd2)
          · rw [hk9] at HS
            have nk := ne_of_beq hk9
            have HF := hideT (HNo.out HS.out)
            clear hk9
            go_wp2
            go_ret
            exact ⟨ret_bool HF.out.symm, bel HB0.out HBZ.out⟩
          rw [hk9] at HS
          have nk := eq_of_beq' hk9
          cases hn9 : (nm == nm2)
          · rw [hn9] at HS qn
            have HF := hideT (HNo.out HS.out)
            clear hn9
            go_wp2
            go_ret
            exact ⟨ret_bool HF.out.symm, bel HB0.out HBZ.out⟩
          rw [hn9] at HS qn
          clear hn9
          cases hx9 : (tx == tx2)
          · rw [hx9] at HS qx
            have HF := hideT (HNo.out (by rw [HS.out]; simp))
            clear hx9
            go_wp2
            go_ret
            exact ⟨ret_bool HF.out.symm, bel HB0.out HBZ.out⟩
          rw [hx9] at HS qx
          clear hx9
          cases hu9 : (up == up2)
          · rw [hu9] at HS
            have nu := ne_of_beq hu9
            have HF := hideT (HNo.out (by rw [HS.out]; simp))
            clear hu9
            go_wp2
            go_ret
            exact ⟨ret_bool HF.out.symm, bel HB0.out HBZ.out⟩
          rw [hu9] at HS
          have nu := eq_of_beq' hu9
          cases hd9 : (decide (ks = ks2))
          · rw [hd9] at HS HI
            have HF := hideT (HNo.out (by rw [HS.out]; simp))
            clear hd9
            go_wp2_with (go_at_call 29; refine HI.out.mono ?_; rintro e w1 ⟨rfl, hq1⟩; have hB1 := hideT (bel_quiet hq1); obtain ⟨m1, rfl⟩ := hq1)
            go_ret
            exact ⟨ret_bool HF.out.symm, bel (bel HB0.out HBZ.out) hB1.out⟩
          rw [hd9] at HS HI
          clear hd9
          cases ha9 : (decide (ats = ats2))
          · rw [ha9] at HS HT
            have HF := hideT (HNo.out (by rw [HS.out]; simp))
            clear ha9
            go_wp2_with (first
              | (go_at_call 29; refine HI.out.mono ?_; rintro e w1 ⟨rfl, hq1⟩; have hB1 := hideT (bel_quiet hq1); obtain ⟨m1, rfl⟩ := hq1)
              | (go_at_call 30; refine (HT.out m1).mono ?_; rintro e w2 ⟨rfl, hq2⟩))
            go_ret
            exact ⟨ret_bool HF.out.symm, bel (bel (bel HB0.out HBZ.out) hB1.out) hq2⟩
          rw [ha9] at HS HT
          clear ha9
          have HEn := hideT (fun j hj => HX.out j hj (by rw [HS.out]; rfl))
          clear HNo HS HX
          go_wp2_with (first
            | (go_at_call 29; refine HI.out.mono ?_; rintro e w1 ⟨rfl, hq1⟩; have hB1 := hideT (bel_quiet hq1); obtain ⟨m1, rfl⟩ := hq1)
            | (go_at_call 30; refine (HT.out m1).mono ?_; rintro e w2 ⟨rfl, hq2⟩; have HB9 := hideT (bel (bel HBZ.out hB1.out) hq2); clear hq2))
          go_roundw
          case rel => exact ⟨k + 1, by go_num, HKL.out, HEn, HB9⟩
          case measure => have := HKL.out; simp [intOf]; omega
      · have hke : k = ns.length := by omega
        have HF := hideT (Tre.sameL_all HL.out (fun j hj => HE.out j (by omega)))
        have HBX := hideT (bel HB0.out HB.out)
        go_wp2
        go_ret
        exact ⟨ret_bool HF.out.symm, HBX.out⟩
  · have hq : ((ns.length : Int) != (ms.length : Int)) = true := by simp; omega
    have HX : Hid (Tre.sameL ns ms = false) := Tre.sameL_len hlen
    clear ha hlen
    go_enter Tryz.func13, Tryz.ntmps13
    go_wp2
    go_ret
    exact ⟨ret_bool HX.out.symm, HB0.out⟩
end Go.Proofs.YtiodaahncadodaaGreatDoor
