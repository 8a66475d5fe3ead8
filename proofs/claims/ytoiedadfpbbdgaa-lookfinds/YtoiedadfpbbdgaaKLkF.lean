/- Texts laid as one. -/
import Derived.Test.YtoiedadfpbbdgaaKLkA
import Derived.Test.YtoiedadfpbbdgaaKLkR
import Derived.Test.YtoiedadfpbbdgaaKLkT
/- The contracts of the reference's under, BelowIn and Below. -/
set_option linter.unusedVariables false
set_option linter.unusedSimpArgs false
namespace Go.Proofs.Ytoiedadfpbbdgaa
open Go.RowKit
set_option maxHeartbeats 4000000 in
set_option maxRecDepth 100000 in
theorem Runder14_any (ns : List Nd) (v : Value) (i top : Nat) (w : World) (hv : ReadsN w v ns) (hm : Tre.mayB ns = true) (hn : ns.length ≤ 1000) (hi : i < ns.length) (htop : top < ns.length) :
    Calls Try.prog 62 #[.agg #[v], .int .i64 (i : Int), .int .i64 (top : Int)] w fun e w' => e = .returned (.bool (Lk.und ns top i)) ∧ Below w.heap.size w w' := by
  obtain ⟨a, c, rfl⟩ := hv.form
  have hb0 : Below w.heap.size w (w.alloc (.cells #[.slice a ns.length c] 24)) := (Below.refl _ _).alloc (Nat.le_refl _) _
  have cc0 := doc_cell (heap_new w (.cells #[.slice a ns.length c] 24))
  have lc := cell_lt cc0
  have HB0 := hideT hb0
  obtain ⟨g, o, rfl, hcc, hgl, hall⟩ := (hv.below hb0).spot (by omega)
  have HAll := hideT hall
  have HUp := hideT (fun j (hj : j < ns.length) (h0 : j ≠ 0) => Tre.may_up hm hj h0)
  have HUnd := hideT (fun j (hj : j < ns.length) (h0 : top < j) => Lk.und_up (top := top) hm hj h0)
  clear hv hb0 hm hall
  go_enter Try.func62, Try.ntmps62
  generalize hW0 : (w.alloc (.cells #[.slice (some ⟨g, o, none⟩) ns.length c] 24)) = W0 at *
  go_wp2
  go_loopw [1] (fun s wr => ∃ j : Nat, s = .int .i64 j ∧ j < ns.length ∧ Hid (Lk.und ns top j = Lk.und ns top i) ∧ Hid (Below W0.heap.size W0 wr)) (fun s _ => (intOf s).toNat)
  case atStart => exact ⟨i, rfl, hi, rfl, Below.refl _ _⟩
  case round =>
    obtain ⟨j, rfl, hj, HE, HB⟩ := hrel
    rename World => X
    have ccX := (HB.out.cell (p := ⟨w.heap.size, 0, none⟩) lc).trans cc0
    by_cases hlt : top < j
    · have hli : (top : Int) < (j : Int) := by omega
      obtain ⟨hu0, hu1⟩ := HUp.out j hj (by omega)
      have hud := HUnd.out j hj hlt
      obtain ⟨xa, xc, xk, xd, hr0⟩ := HAll.out j hj
      have hr := hr0.below HB.out
      have c4 := hr.c4
      obtain ⟨u, hu⟩ : ∃ u : Nat, (Tre.ndAt ns j).up = (u : Int) := ⟨(Tre.ndAt ns j).up.toNat, by omega⟩
      rw [hu] at c4 hud
      rw [Int.toNat_natCast] at hud
      have HE2 : Hid (Lk.und ns top u = Lk.und ns top i) := hud.symm.trans HE.out
      have hun : u < ns.length := by omega
      have hju : u < j := by omega
      have hjn : (j : Int) < (ns.length : Int) := by omega
      clear hr hr0 hud hu hu0 hu1
      go_wp2
      go_roundw
      case rel => exact ⟨u, rfl, hun, HE2, HB⟩
      case measure => simp [intOf]; omega
    · have hli : ¬ (top : Int) < (j : Int) := by omega
      have HL : Hid (Lk.und ns top i = (j == top)) := by
        show _ = _
        rw [← HE.out]
        exact Lk.und_low hlt
      have HBX := hideT (bel HB0.out HB.out)
      go_wp2
      go_ret
      refine ⟨?_, HBX.out⟩
      rw [HL.out]
      refine ret_bool ?_
      rw [Bool.eq_iff_iff]
      simp
      try omega
set_option maxHeartbeats 8000000 in
set_option maxRecDepth 100000 in
theorem RBelowIn14_any (ns : List Nd) (v : Value) (top : Nat) (w : World) (hv : ReadsN w v ns) (hm : Tre.mayB ns = true) (hn : ns.length ≤ 1000) (htop : top < ns.length) :
    Calls Try.prog 44 #[.agg #[v], .int .i64 (top : Int)] w fun e w' => ∃ x, e = .returned x ∧ OwnsI w' w.heap.size x (Lk.belowL ns top) ∧ Below w.heap.size w w' := by
  obtain ⟨a, c, rfl⟩ := hv.form
  have hb0 : Below w.heap.size w (w.alloc (.cells #[.slice a ns.length c] 24)) := (Below.refl _ _).alloc (Nat.le_refl _) _
  have cc0 := doc_cell (heap_new w (.cells #[.slice a ns.length c] 24))
  have lc := cell_lt cc0
  have HB0 := hideT hb0
  obtain ⟨g, o, rfl, hcc, hgl, hall⟩ := (hv.below hb0).spot (by omega)
  have HAll := hideT hall
  have HUn := hideT (fun W (h : Below (w.alloc (.cells #[.slice (some ⟨g, o, none⟩) ns.length c] 24)).heap.size (w.alloc (.cells #[.slice (some ⟨g, o, none⟩) ns.length c] 24)) W) k (hk : k < ns.length) => Runder14_any ns _ k top W ((hv.below hb0).below h) hm hn hk htop)
  have HX : Hid (Lk.belowL ns top = Lk.belowTo ns top ns.length) := rfl
  have hS0 := hb0.size
  clear hv hb0 hm hall
  go_enter Try.func44, Try.ntmps44
  generalize hW0 : (w.alloc (.cells #[.slice (some ⟨g, o, none⟩) ns.length c] 24)) = W0 at *
  go_wp2
  go_loopw [5, 6] (fun x s wr => ∃ k : Nat, s = .int .i64 (k : Int) ∧ top + 1 ≤ k ∧ k ≤ ns.length ∧ Hid (OwnsI wr W0.heap.size x (Lk.belowTo ns top k)) ∧ Hid (Below W0.heap.size W0 wr)) (fun _ s _ => ns.length - (intOf s).toNat)
  case atStart => exact ⟨top + 1, by go_num, Nat.le_refl _, htop, by rw [Lk.belowTo_none ns top (top + 1) (Nat.le_refl _)]; exact OwnsI.nil _ _, Below.refl _ _⟩
  case round =>
    obtain ⟨k, rfl, hk1, hk2, HO, HB⟩ := hrel
    rename World => X
    have ccX := (HB.out.cell (p := ⟨w.heap.size, 0, none⟩) lc).trans cc0
    by_cases hlt : k < ns.length
    · have hkn : (k : Int) < (ns.length : Int) := by omega
      obtain ⟨xa, xc, xk, xd, hr0⟩ := HAll.out k hlt
      have hr := hr0.below HB.out
      have c0 := hr.c0
      have hll := Lk.belowTo_len ns top k
      have HJ : Hid (k + 1 ≤ ns.length) := hlt
      have HUk := hideT (HUn.out X HB.out k hlt)
      by_cases hkd : (Tre.ndAt ns k).kind = 2
      · rw [hkd] at c0
        cases hu : Lk.und ns top k
        · have HN : Hid (Lk.belowTo ns top (k + 1) = Lk.belowTo ns top k) := Lk.belowTo_no (.inr hu)
          rw [hu] at HUk
          clear hr hr0 hkd hu
          go_wp2_with (go_at_call 62; refine HUk.out.mono ?_; rintro e w5 ⟨rfl, hb5⟩; have HB5 := hideT (bel HB.out hb5); have HO5 := hideT (ownsRow_below HO.out hb5); clear hb5)
          go_roundw
          case rel => exact ⟨k + 1, by go_num, by omega, HJ.out, by rw [HN.out]; exact HO5.out, HB5⟩
          case measure => have := HJ.out; simp [intOf]; omega
        · have HN : Hid (Lk.belowTo ns top (k + 1) = Lk.belowTo ns top k ++ [(k : Int)]) := Lk.belowTo_yes (by omega) hkd hu
          rw [hu] at HUk
          clear hr hr0 hkd hu
          go_wp2_with (first
            | (go_at_call 62; refine HUk.out.mono ?_; rintro e w5 ⟨rfl, hb5⟩; have HB5 := hideT (bel HB.out hb5); have HO5 := hideT (ownsRow_below HO.out hb5); clear hb5)
            | (at_builtin; refine wpList_append_I rfl _ _ rfl W0.heap.size _ _ rfl (ownsRow_below HO5.out ((Below.refl _ w5).alloc (Nat.le_refl _) _)) w5.heap.size 1 rfl (k : Int) (Lib.cell_of_heap (heap_new w5 _) 0) (by omega) (by have := HB5.out.size; simp; omega) ?_; intro v7 w7 hO7 g7 hat7))
          have HB7 : Hid (Below W0.heap.size W0 w7) := (HB5.out.alloc HB5.out.size (.cells #[.int .i64 (k : Int)] 3)).grown g7 (by have := HB5.out.size; simp; omega) (fun q e => (World.ownsRow.lt HO5.out q e).1)
          have HO7 := hideT hO7
          clear hO7 g7 hat7
          go_roundw
          case rel => exact ⟨k + 1, by go_num, by omega, HJ.out, by rw [HN.out]; exact HO7.out, HB7⟩
          case measure => have := HJ.out; simp [intOf]; omega
      · have HN : Hid (Lk.belowTo ns top (k + 1) = Lk.belowTo ns top k) := Lk.belowTo_no (.inl hkd)
        have q2 : ((Tre.ndAt ns k).kind == (2 : Int)) = false := beq_eq_false_iff_ne.2 hkd
        obtain ⟨kd, hkk⟩ : ∃ kd, (Tre.ndAt ns k).kind = kd := ⟨_, rfl⟩
        rw [hkk] at c0 q2
        clear hr hr0 hkd hkk
        go_wp2
        go_roundw
        case rel => exact ⟨k + 1, by go_num, by omega, HJ.out, by rw [HN.out]; exact HO, HB⟩
        case measure => have := HJ.out; simp [intOf]; omega
    · have hke : k = ns.length := by omega
      have HR : Hid (Lk.belowTo ns top k = Lk.belowL ns top) := by
        show _ = _
        rw [hke, HX.out]
      have HBX := hideT (bel HB0.out HB.out)
      have hkn : ¬ (k : Int) < (ns.length : Int) := by omega
      clear hke
      go_wp2
      go_ret
      exact ⟨_, rfl, by rw [← HR.out]; exact row_mono HO.out hS0, HBX.out⟩
set_option maxHeartbeats 2000000 in
set_option maxRecDepth 100000 in
theorem RBelow14_any (ns : List Nd) (v : Value) (at_ : Int) (w : World) (hv : ReadsN w v ns) (hf : Fair14 ns) (hk : ns.length ≤ 4096 → ∀ i, i < ns.length → (Tre.ndAt ns i).kids.length ≤ 140737488351232) :
    Calls Try.prog 21 #[.agg #[v], .int .i64 at_] w fun e w' => ∃ x, e = .returned x ∧ OwnsI w' w.heap.size x (belowR14 ns at_) ∧ Below w.heap.size w w' := by
  obtain ⟨a, c, rfl⟩ := hv.form
  have hb0 : Below w.heap.size w (w.alloc (.cells #[.slice a ns.length c] 24)) := (Below.refl _ _).alloc (Nat.le_refl _) _
  have cc0 := doc_cell (heap_new w (.cells #[.slice a ns.length c] 24))
  have lc := cell_lt cc0
  have HI := hideT (RIs14_any ns _ at_ _ (hv.below hb0) hf hk)
  have HB0 := hideT hb0
  cases hp : Lk.placeB ns at_
  · have HX : Hid (belowR14 ns at_ = []) := by
      show _ = _
      unfold belowR14
      rw [hp]
      rfl
    rw [hp] at HI
    clear hv hb0 hf hp lc hk
    go_enter Try.func21, Try.ntmps21
    go_wp2_with (go_at_call 28; refine HI.out.mono ?_; rintro e w1 ⟨rfl, b1⟩; have HQ := hideT (bel HB0.out b1); clear b1)
    go_ret
    exact ⟨_, rfl, by rw [HX.out]; exact OwnsI.nil _ _, HQ.out⟩
  · obtain ⟨i, rfl, hi, hm⟩ := Lk.place_yes hp
    have hn4 := hf.few hm
    have hX : belowR14 ns (i : Int) = Lk.belowL ns i := by
      unfold belowR14
      rw [hp, if_pos rfl, Int.toNat_natCast]
    have HX := hideT hX
    rw [hp] at HI
    have HP := hideT (fun W (h : Below (w.alloc (.cells #[.slice a ns.length c] 24)).heap.size (w.alloc (.cells #[.slice a ns.length c] 24)) W) => RBelowIn14_any ns _ i W ((hv.below hb0).below h) hm hn4 hi)
    clear hv hb0 hf hp hm hX hk
    go_enter Try.func21, Try.ntmps21
    go_wp2_with (first
      | (go_at_call 28; refine HI.out.mono ?_; rintro e w1 ⟨rfl, b1⟩; have HQ := hideT (bel HB0.out b1); have HP1 := hideT (HP.out w1 b1); have cc1 := (b1.cell (p := ⟨w.heap.size, 0, none⟩) lc).trans cc0; clear b1 HI HP)
      | (go_at_call 44; refine HP1.out.mono ?_; rintro e w3 ⟨x3, rfl, hO3, b3⟩; have HO3 := hideT hO3; have HB3 := hideT (bel HQ.out b3); clear b3 hO3))
    go_ret
    exact ⟨_, rfl, by rw [HX.out]; exact row_mono HO3.out HQ.out.size, HB3.out⟩
end Go.Proofs.Ytoiedadfpbbdgaa
/- The contracts of the reference's KidsIn, Kids, Find, OnlyIn, Only and Ints (written by tools/mklkfn.py). -/
namespace Go.Proofs.Ytoiedadfpbbdgaa
open Go.RowKit
theorem belowL_mem {ns : List Nd} {top : Nat} {k : Int} (h : k ∈ Lk.belowL ns top) : ∃ kx : Nat, k = (kx : Int) ∧ kx < ns.length := by
  obtain ⟨i, h1, h2, _⟩ := (Lk.belowTo_mem ns top k ns.length).1 h
  exact ⟨i, h1, h2⟩
def findR14 (ns : List Nd) (at_ : Int) (nl : List (List UInt8)) : List Int := (belowR14 ns at_).filter (Lk.nameK ns nl)
set_option maxHeartbeats 8000000 in
set_option maxRecDepth 100000 in
theorem RKidsIn14_any (ns : List Nd) (v : Value) (top : Nat) (w : World) (hv : ReadsN w v ns) (hm : Tre.mayB ns = true) (hn : ns.length ≤ 1000) (htop : top < ns.length) :
    Calls Try.prog 45 #[.agg #[v], .int .i64 (top : Int)] w fun e w' => ∃ x, e = .returned x ∧ OwnsI w' w.heap.size x (Lk.kidsE ns top) ∧ Below w.heap.size w w' := by
  obtain ⟨a, c, rfl⟩ := hv.form
  have hb0 : Below w.heap.size w (w.alloc (.cells #[.slice a ns.length c] 24)) := (Below.refl _ _).alloc (Nat.le_refl _) _
  have cc0 := doc_cell (heap_new w (.cells #[.slice a ns.length c] 24))
  have lc := cell_lt cc0
  have HB0 := hideT hb0
  have HP := hideT (RBelowIn14_any ns _ top _ (hv.below hb0) hm hn htop)
  obtain ⟨g, o, rfl, hcc, hgl, hall⟩ := (hv.below hb0).spot (by omega)
  have HAll := hideT hall
  have HX : Hid ((Lk.belowL ns top).filter (Lk.upIs ns top) = Lk.kidsE ns top) := Lk.kids_below hm htop
  have HMem := hideT (fun k (h : k ∈ Lk.belowL ns top) => belowL_mem h)
  have hbl : (Lk.belowL ns top).length ≤ 1000 := Nat.le_trans (Lk.belowTo_len ns top ns.length) hn
  clear hv hb0 hm hall
  generalize Lk.belowL ns top = bl at *
  go_enter Try.func45, Try.ntmps45
  go_wp2_with (go_at_call 44; refine HP.out.mono ?_; rintro e W3 ⟨x3, rfl, hO3, b3⟩; obtain ⟨ka, kc, rfl⟩ := (OwnsI.reads hO3).form; have HI3 := hideT (OwnsI.reads hO3); have HB3 := hideT (bel HB0.out b3); have HA3 := hideT (fun i hi => (by obtain ⟨xa, xc, xk, xd, hr⟩ := HAll.out i hi; exact ⟨xa, xc, xk, xd, hr.below b3⟩ : ∃ xa xc xk xd, NdR W3 g (o + i * 6) (Tre.ndAt ns i) xa xc xk xd)); have cc3 := (b3.cell (p := ⟨w.heap.size, 0, none⟩) lc).trans cc0; have lc3 := cell_lt cc3; clear hO3 b3 HP cc0 lc HAll)
  go_loopw [6, 7] (fun x s wr => ∃ j : Nat, s = .int .i64 j ∧ j ≤ bl.length ∧ Hid (OwnsI wr W3.heap.size x ((bl.take j).filter (Lk.upIs ns top))) ∧ Hid (Below W3.heap.size W3 wr)) (fun _ s _ => bl.length - (intOf s).toNat)
  case atStart => exact ⟨0, by go_num, Nat.zero_le _, OwnsI.nil _ _, Below.refl _ _⟩
  case round =>
    obtain ⟨j, rfl, hj, HO, HB⟩ := hrel
    rename World => X
    have ccX := (HB.out.cell (p := ⟨w.heap.size, 0, none⟩) lc3).trans cc3
    by_cases hjl : j < bl.length
    · have hat : bl[j]? = some bl[j] := List.getElem?_eq_getElem hjl
      obtain ⟨kb, ko, rfl, hkc, hkb, kcell⟩ := (HI3.out.below HB.out).at hat
      obtain ⟨kx, hkx, hkn⟩ := HMem.out bl[j] (List.getElem_mem hjl)
      have HF := hideT (filter_next (Lk.upIs ns top) bl j hjl)
      rw [hkx] at kcell HF
      obtain ⟨xa, xc, xk, xd, hr0⟩ := HA3.out kx hkn
      have hr := hr0.below HB.out
      have c4 := hr.c4
      have hE : Lk.upIs ns top (kx : Int) = ((Tre.ndAt ns kx).up == (top : Int)) := by unfold Lk.upIs; rw [Int.toNat_natCast]
      rw [hE] at HF
      have hkI : (kx : Int) < (ns.length : Int) := by omega
      have HJ : Hid (j + 1 ≤ bl.length) := hjl
      have hfl : ((bl.take j).filter (Lk.upIs ns top)).length ≤ 1000 := Nat.le_trans (List.length_filter_le _ _) (by rw [List.length_take]; omega)
      clear hat hkx hr hr0 hE hkb
      generalize (Tre.ndAt ns kx).up = ux at *
      cases hq : (ux == (top : Int))
      · have HN : Hid ((bl.take (j + 1)).filter (Lk.upIs ns top) = (bl.take j).filter (Lk.upIs ns top)) := by
          show _ = _
          rw [HF.out, hq, if_neg (by simp), List.append_nil]
        clear HF
        obtain ⟨S, hS1⟩ : ∃ S : World → Prop, ∀ W, S W ↔ W.cell? ⟨w.heap.size, 0, none⟩ = some (.slice (some ⟨g, o, none⟩) ns.length c) ∧ W.cell? ⟨kb, ko + j, none⟩ = some (.int .i64 (kx : Int)) ∧ W.cell? ⟨g, o + kx * 6 + 4, none⟩ = some (.int .i64 ux) ∧ Below X.heap.size X W := ⟨_, fun _ => Iff.rfl⟩
        have step : ∀ W W', S W → Below W.heap.size W W' → S W' := fun W W' h hb => by
          obtain ⟨h1, h2, h3, h4⟩ := (hS1 W).1 h
          exact (hS1 W').2 ⟨(hb.cell (p := ⟨w.heap.size, 0, none⟩) (cell_lt h1)).trans h1, (hb.cell (p := ⟨kb, ko + j, none⟩) (cell_lt h2)).trans h2, (hb.cell (p := ⟨g, o + kx * 6 + 4, none⟩) (cell_lt h3)).trans h3, bel h4 hb⟩
        go_upto_region 6 with fail
        refine wp_region_held_drew (S := S) (by kernel_rfl) (step _ _ ((hS1 _).2 ⟨ccX, kcell, c4, Below.refl _ _⟩) ((Below.refl _ _).drew)) (fun hS => ?_)
        clear ccX c4
        refine takeH12 0 17 (.pointer (some ⟨w.heap.size, 0, none⟩)) rfl rfl (by kernel_rfl) (by kernel_rfl) (by kernel_rfl) (fun _ _ _ h => h) (Or.inl ⟨by kernel_rfl, fun W _ => by go_simp⟩) hS ?_
        simp only [Act.put, List.setIfInBounds_toArray, List.set_cons_zero, List.set_cons_succ]
        refine takeH12 1 18 (.slice (some ⟨g, o, none⟩) ns.length c) rfl rfl (by kernel_rfl) (by kernel_rfl) (by kernel_rfl) (fun _ _ _ h => h) (Or.inl ⟨by kernel_rfl, fun W hW => by have hc := (((hS1 W).1 hW).1); go_simp⟩) hS ?_
        simp only [Act.put, List.setIfInBounds_toArray, List.set_cons_zero, List.set_cons_succ]
        refine takeH12 2 19 (.slice (some ⟨kb, ko, none⟩) bl.length kc) rfl rfl (by kernel_rfl) (by kernel_rfl) (by kernel_rfl) (fun _ _ _ h => h) (Or.inl ⟨by kernel_rfl, fun W _ => by go_simp⟩) hS ?_
        simp only [Act.put, List.setIfInBounds_toArray, List.set_cons_zero, List.set_cons_succ]
        refine takeH12 3 20 (.int .i64 (j : Int)) rfl rfl (by kernel_rfl) (by kernel_rfl) (by kernel_rfl) (fun _ _ _ h => h) (Or.inl ⟨by kernel_rfl, fun W _ => by go_simp⟩) hS ?_
        simp only [Act.put, List.setIfInBounds_toArray, List.set_cons_zero, List.set_cons_succ]
        refine takeH12 4 21 (.pointer (some ⟨kb, ko + j, none⟩)) rfl rfl (by kernel_rfl) (by kernel_rfl) (by kernel_rfl) (fun _ _ _ h => h) (Or.inl ⟨by kernel_rfl, fun W _ => by go_simp⟩) hS ?_
        simp only [Act.put, List.setIfInBounds_toArray, List.set_cons_zero, List.set_cons_succ]
        refine takeH12 5 22 (.int .i64 (kx : Int)) rfl rfl (by kernel_rfl) (by kernel_rfl) (by kernel_rfl) (fun _ _ _ h => h) (Or.inl ⟨by kernel_rfl, fun W hW => by have hc := (((hS1 W).1 hW).2.1); go_simp⟩) hS ?_
        simp only [Act.put, List.setIfInBounds_toArray, List.set_cons_zero, List.set_cons_succ]
        refine takeH12 6 23 (.pointer (some ⟨g, o + kx * 6, none⟩)) rfl rfl (by kernel_rfl) (by kernel_rfl) (by kernel_rfl) (fun _ _ _ h => h) (Or.inl ⟨by kernel_rfl, fun W _ => by go_simp⟩) hS ?_
        simp only [Act.put, List.setIfInBounds_toArray, List.set_cons_zero, List.set_cons_succ]
        refine takeH12 7 24 (.pointer (some ⟨g, o + kx * 6 + 4, none⟩)) rfl rfl (by kernel_rfl) (by kernel_rfl) (by kernel_rfl) (fun _ _ _ h => h) (Or.inl ⟨by kernel_rfl, fun W _ => by go_simp⟩) hS ?_
        simp only [Act.put, List.setIfInBounds_toArray, List.set_cons_zero, List.set_cons_succ]
        refine takeH12 8 25 (.int .i64 ux) rfl rfl (by kernel_rfl) (by kernel_rfl) (by kernel_rfl) (fun _ _ _ h => h) (Or.inl ⟨by kernel_rfl, fun W hW => by have hc := (((hS1 W).1 hW).2.2.1); go_simp⟩) hS ?_
        simp only [Act.put, List.setIfInBounds_toArray, List.set_cons_zero, List.set_cons_succ]
        refine takeH12 9 26 (.int .i64 (top : Int)) rfl rfl (by kernel_rfl) (by kernel_rfl) (by kernel_rfl) (fun _ _ _ h => h) (Or.inl ⟨by kernel_rfl, fun W _ => by go_simp⟩) hS ?_
        simp only [Act.put, List.setIfInBounds_toArray, List.set_cons_zero, List.set_cons_succ]
        refine takeH12 10 27 (.bool false) rfl rfl (by kernel_rfl) (by kernel_rfl) (by kernel_rfl) (fun _ _ _ h => h) (Or.inl ⟨by kernel_rfl, fun W _ => by go_simp; (try (first | omega | simp_all))⟩) hS ?_
        simp only [Act.put, List.setIfInBounds_toArray, List.set_cons_zero, List.set_cons_succ]
        refine wpAnyH_done (by kernel_rfl) ?_ _
        have hfin := ((hS1 _).1 hS).2.2.2
        have kc7 := ((hS1 _).1 hS).2.1
        have HBY := hideT (bel HB.out hfin)
        have HOY := hideT (ownsRow_below HO.out hfin)
        clear hfin
        go_wp2
        go_roundw
        case rel => exact ⟨j + 1, by go_num, HJ.out, by rw [HN.out]; exact HOY.out, HBY⟩
        case measure => have := HJ.out; simp [intOf]; omega
      · have HN : Hid ((bl.take (j + 1)).filter (Lk.upIs ns top) = (bl.take j).filter (Lk.upIs ns top) ++ [(kx : Int)]) := by
          show _ = _
          rw [HF.out, hq, if_pos rfl]
        clear HF
        obtain ⟨S, hS1⟩ : ∃ S : World → Prop, ∀ W, S W ↔ W.cell? ⟨w.heap.size, 0, none⟩ = some (.slice (some ⟨g, o, none⟩) ns.length c) ∧ W.cell? ⟨kb, ko + j, none⟩ = some (.int .i64 (kx : Int)) ∧ W.cell? ⟨g, o + kx * 6 + 4, none⟩ = some (.int .i64 ux) ∧ Below X.heap.size X W := ⟨_, fun _ => Iff.rfl⟩
        have step : ∀ W W', S W → Below W.heap.size W W' → S W' := fun W W' h hb => by
          obtain ⟨h1, h2, h3, h4⟩ := (hS1 W).1 h
          exact (hS1 W').2 ⟨(hb.cell (p := ⟨w.heap.size, 0, none⟩) (cell_lt h1)).trans h1, (hb.cell (p := ⟨kb, ko + j, none⟩) (cell_lt h2)).trans h2, (hb.cell (p := ⟨g, o + kx * 6 + 4, none⟩) (cell_lt h3)).trans h3, bel h4 hb⟩
        go_upto_region 6 with fail
        refine wp_region_held_drew (S := S) (by kernel_rfl) (step _ _ ((hS1 _).2 ⟨ccX, kcell, c4, Below.refl _ _⟩) ((Below.refl _ _).drew)) (fun hS => ?_)
        clear ccX c4
        refine takeH12 0 17 (.pointer (some ⟨w.heap.size, 0, none⟩)) rfl rfl (by kernel_rfl) (by kernel_rfl) (by kernel_rfl) (fun _ _ _ h => h) (Or.inl ⟨by kernel_rfl, fun W _ => by go_simp⟩) hS ?_
        simp only [Act.put, List.setIfInBounds_toArray, List.set_cons_zero, List.set_cons_succ]
        refine takeH12 1 18 (.slice (some ⟨g, o, none⟩) ns.length c) rfl rfl (by kernel_rfl) (by kernel_rfl) (by kernel_rfl) (fun _ _ _ h => h) (Or.inl ⟨by kernel_rfl, fun W hW => by have hc := (((hS1 W).1 hW).1); go_simp⟩) hS ?_
        simp only [Act.put, List.setIfInBounds_toArray, List.set_cons_zero, List.set_cons_succ]
        refine takeH12 2 19 (.slice (some ⟨kb, ko, none⟩) bl.length kc) rfl rfl (by kernel_rfl) (by kernel_rfl) (by kernel_rfl) (fun _ _ _ h => h) (Or.inl ⟨by kernel_rfl, fun W _ => by go_simp⟩) hS ?_
        simp only [Act.put, List.setIfInBounds_toArray, List.set_cons_zero, List.set_cons_succ]
        refine takeH12 3 20 (.int .i64 (j : Int)) rfl rfl (by kernel_rfl) (by kernel_rfl) (by kernel_rfl) (fun _ _ _ h => h) (Or.inl ⟨by kernel_rfl, fun W _ => by go_simp⟩) hS ?_
        simp only [Act.put, List.setIfInBounds_toArray, List.set_cons_zero, List.set_cons_succ]
        refine takeH12 4 21 (.pointer (some ⟨kb, ko + j, none⟩)) rfl rfl (by kernel_rfl) (by kernel_rfl) (by kernel_rfl) (fun _ _ _ h => h) (Or.inl ⟨by kernel_rfl, fun W _ => by go_simp⟩) hS ?_
        simp only [Act.put, List.setIfInBounds_toArray, List.set_cons_zero, List.set_cons_succ]
        refine takeH12 5 22 (.int .i64 (kx : Int)) rfl rfl (by kernel_rfl) (by kernel_rfl) (by kernel_rfl) (fun _ _ _ h => h) (Or.inl ⟨by kernel_rfl, fun W hW => by have hc := (((hS1 W).1 hW).2.1); go_simp⟩) hS ?_
        simp only [Act.put, List.setIfInBounds_toArray, List.set_cons_zero, List.set_cons_succ]
        refine takeH12 6 23 (.pointer (some ⟨g, o + kx * 6, none⟩)) rfl rfl (by kernel_rfl) (by kernel_rfl) (by kernel_rfl) (fun _ _ _ h => h) (Or.inl ⟨by kernel_rfl, fun W _ => by go_simp⟩) hS ?_
        simp only [Act.put, List.setIfInBounds_toArray, List.set_cons_zero, List.set_cons_succ]
        refine takeH12 7 24 (.pointer (some ⟨g, o + kx * 6 + 4, none⟩)) rfl rfl (by kernel_rfl) (by kernel_rfl) (by kernel_rfl) (fun _ _ _ h => h) (Or.inl ⟨by kernel_rfl, fun W _ => by go_simp⟩) hS ?_
        simp only [Act.put, List.setIfInBounds_toArray, List.set_cons_zero, List.set_cons_succ]
        refine takeH12 8 25 (.int .i64 ux) rfl rfl (by kernel_rfl) (by kernel_rfl) (by kernel_rfl) (fun _ _ _ h => h) (Or.inl ⟨by kernel_rfl, fun W hW => by have hc := (((hS1 W).1 hW).2.2.1); go_simp⟩) hS ?_
        simp only [Act.put, List.setIfInBounds_toArray, List.set_cons_zero, List.set_cons_succ]
        refine takeH12 9 26 (.int .i64 (top : Int)) rfl rfl (by kernel_rfl) (by kernel_rfl) (by kernel_rfl) (fun _ _ _ h => h) (Or.inl ⟨by kernel_rfl, fun W _ => by go_simp⟩) hS ?_
        simp only [Act.put, List.setIfInBounds_toArray, List.set_cons_zero, List.set_cons_succ]
        refine takeH12 10 27 (.bool true) rfl rfl (by kernel_rfl) (by kernel_rfl) (by kernel_rfl) (fun _ _ _ h => h) (Or.inl ⟨by kernel_rfl, fun W _ => by go_simp; (try (first | omega | simp_all))⟩) hS ?_
        simp only [Act.put, List.setIfInBounds_toArray, List.set_cons_zero, List.set_cons_succ]
        refine wpAnyH_done (by kernel_rfl) ?_ _
        have hfin := ((hS1 _).1 hS).2.2.2
        have kc7 := ((hS1 _).1 hS).2.1
        have HBY := hideT (bel HB.out hfin)
        have HOY := hideT (ownsRow_below HO.out hfin)
        clear hfin
        generalize X.drew = Y at *
        go_wp2_with (at_builtin; refine wpList_append_I rfl _ _ rfl W3.heap.size _ _ rfl (ownsRow_below HOY.out ((Below.refl _ Y).alloc (Nat.le_refl _) _)) Y.heap.size 1 rfl (kx : Int) (Lib.cell_of_heap (heap_new Y _) 0) (by omega) (by have := HBY.out.size; simp; omega) ?_; intro v7 w7 hO7 g7 hat7)
        have HB7 : Hid (Below W3.heap.size W3 w7) := (HBY.out.alloc HBY.out.size (.cells #[.int .i64 (kx : Int)] 3)).grown g7 (by have := HBY.out.size; simp; omega) (fun q e => (World.ownsRow.lt HOY.out q e).1)
        have HO7 := hideT hO7
        clear hO7 g7 hat7
        go_roundw
        case rel => exact ⟨j + 1, by go_num, HJ.out, by rw [HN.out]; exact HO7.out, HB7⟩
        case measure => have := HJ.out; simp [intOf]; omega
    · have hje : j = bl.length := by omega
      have HR2 : Hid ((bl.take j).filter (Lk.upIs ns top) = Lk.kidsE ns top) := by
        show _ = _
        rw [hje, List.take_length, HX.out]
      have HBX := hideT (bel HB3.out HB.out)
      have hs3 := HB3.out.size
      clear hje
      go_wp2
      go_ret
      exact ⟨_, rfl, by rw [← HR2.out]; exact row_mono HO.out hs3, HBX.out⟩
set_option maxHeartbeats 2000000 in
set_option maxRecDepth 100000 in
theorem RKids14_any (ns : List Nd) (v : Value) (at_ : Int) (w : World) (hv : ReadsN w v ns) (hf : Fair14 ns) (hk : ns.length ≤ 4096 → ∀ i, i < ns.length → (Tre.ndAt ns i).kids.length ≤ 140737488351232) :
    Calls Try.prog 23 #[.agg #[v], .int .i64 at_] w fun e w' => ∃ x, e = .returned x ∧ OwnsI w' w.heap.size x (kidsR14 ns at_) ∧ Below w.heap.size w w' := by
  obtain ⟨a, c, rfl⟩ := hv.form
  have hb0 : Below w.heap.size w (w.alloc (.cells #[.slice a ns.length c] 24)) := (Below.refl _ _).alloc (Nat.le_refl _) _
  have cc0 := doc_cell (heap_new w (.cells #[.slice a ns.length c] 24))
  have lc := cell_lt cc0
  have HI := hideT (RIs14_any ns _ at_ _ (hv.below hb0) hf hk)
  have HB0 := hideT hb0
  cases hp : Lk.placeB ns at_
  · have HX : Hid (kidsR14 ns at_ = []) := by
      show _ = _
      unfold kidsR14
      rw [hp]
      rfl
    rw [hp] at HI
    clear hv hb0 hf hp lc hk
    go_enter Try.func23, Try.ntmps23
    go_wp2_with (go_at_call 28; refine HI.out.mono ?_; rintro e w1 ⟨rfl, b1⟩; have HQ := hideT (bel HB0.out b1); clear b1)
    go_ret
    exact ⟨_, rfl, by rw [HX.out]; exact OwnsI.nil _ _, HQ.out⟩
  · obtain ⟨i, rfl, hi, hm⟩ := Lk.place_yes hp
    have hn4 := hf.few hm
    have hX : kidsR14 ns (i : Int) = Lk.kidsE ns i := by
      unfold kidsR14
      rw [hp, if_pos rfl, Int.toNat_natCast]
    have HX := hideT hX
    rw [hp] at HI
    have HP := hideT (fun W (h : Below (w.alloc (.cells #[.slice a ns.length c] 24)).heap.size (w.alloc (.cells #[.slice a ns.length c] 24)) W) => RKidsIn14_any ns _ i W ((hv.below hb0).below h) hm hn4 hi)
    clear hv hb0 hf hp hm hX hk
    go_enter Try.func23, Try.ntmps23
    go_wp2_with (first
      | (go_at_call 28; refine HI.out.mono ?_; rintro e w1 ⟨rfl, b1⟩; have HQ := hideT (bel HB0.out b1); have HP1 := hideT (HP.out w1 b1); have cc1 := (b1.cell (p := ⟨w.heap.size, 0, none⟩) lc).trans cc0; clear b1 HI HP)
      | (go_at_call 45; refine HP1.out.mono ?_; rintro e w3 ⟨x3, rfl, hO3, b3⟩; have HO3 := hideT hO3; have HB3 := hideT (bel HQ.out b3); clear b3 hO3))
    go_ret
    exact ⟨_, rfl, by rw [HX.out]; exact row_mono HO3.out HQ.out.size, HB3.out⟩
set_option maxHeartbeats 8000000 in
set_option maxRecDepth 100000 in
theorem RFind14_any (ns : List Nd) (v : Value) (at_ : Int) (nl : List (List UInt8)) (nv : Value) (w : World) (hv : ReadsN w v ns) (hf : Fair14 ns) (hk : ns.length ≤ 4096 → ∀ i, i < ns.length → (Tre.ndAt ns i).kids.length ≤ 140737488351232) (hnv : ReadsTexts w nv nl) (hnl : nl.length ≤ 1000000) :
    Calls Try.prog 25 #[.agg #[v], .int .i64 at_, nv] w fun e w' => ∃ x, e = .returned x ∧ OwnsI w' w.heap.size x (findR14 ns at_ nl) ∧ Below w.heap.size w w' := by
  obtain ⟨a, c, rfl⟩ := hv.form
  obtain ⟨xn, xm, rfl⟩ := ReadsTexts13.form hnv
  have hb0 : Below w.heap.size w (w.alloc (.cells #[.slice a ns.length c] 24)) := (Below.refl _ _).alloc (Nat.le_refl _) _
  have cc0 := doc_cell (heap_new w (.cells #[.slice a ns.length c] 24))
  have lc := cell_lt cc0
  have HB0 := hideT hb0
  have HP := hideT (RBelow14_any ns _ at_ _ (hv.below hb0) hf hk)
  have HV0 := hideT (hv.below hb0)
  have HN0 := hideT (ReadsTexts13.below hnv hb0)
  have HX : Hid (findR14 ns at_ nl = (belowR14 ns at_).filter (Lk.nameK ns nl)) := rfl
  have HMem : Hid (∀ k ∈ belowR14 ns at_, ∃ kx : Nat, k = (kx : Int) ∧ kx < ns.length) := fun k h => by
    unfold belowR14 at h
    split at h
    · exact belowL_mem h
    · cases h
  have hbl : (belowR14 ns at_).length ≤ 1000 := by
    unfold belowR14
    split
    · rename_i h
      obtain ⟨i, rfl, hi, hm⟩ := Lk.place_yes h
      exact Nat.le_trans (Lk.belowTo_len ns _ ns.length) (hf.few hm)
    · exact Nat.zero_le _
  clear hv hb0 hf hk hnv
  generalize belowR14 ns at_ = bl at *
  go_enter Try.func25, Try.ntmps25
  go_wp2_with (go_at_call 21; refine HP.out.mono ?_; rintro e W3 ⟨x3, rfl, hO3, b3⟩; obtain ⟨ka, kc, rfl⟩ := (OwnsI.reads hO3).form; have HI3 := hideT (OwnsI.reads hO3); have HB3 := hideT (bel HB0.out b3); have HV3 := hideT (HV0.out.below b3); have HN3 := hideT (ReadsTexts13.below HN0.out b3); have cc3 := (b3.cell (p := ⟨w.heap.size, 0, none⟩) lc).trans cc0; have lc3 := cell_lt cc3; clear hO3 b3 HP cc0 lc HV0 HN0)
  go_loopw [8, 9] (fun x s wr => ∃ j : Nat, s = .int .i64 j ∧ j ≤ bl.length ∧ Hid (OwnsI wr W3.heap.size x ((bl.take j).filter (Lk.nameK ns nl))) ∧ Hid (Below W3.heap.size W3 wr)) (fun _ s _ => bl.length - (intOf s).toNat)
  case atStart => exact ⟨0, by go_num, Nat.zero_le _, OwnsI.nil _ _, Below.refl _ _⟩
  case round =>
    obtain ⟨j, rfl, hj, HO, HB⟩ := hrel
    rename World => X
    have ccX := (HB.out.cell (p := ⟨w.heap.size, 0, none⟩) lc3).trans cc3
    by_cases hjl : j < bl.length
    · have hat : bl[j]? = some bl[j] := List.getElem?_eq_getElem hjl
      obtain ⟨kb, ko, rfl, hkc, hkb, kcell⟩ := (HI3.out.below HB.out).at hat
      obtain ⟨kx, hkx, hkn⟩ := HMem.out bl[j] (List.getElem_mem hjl)
      have HF := hideT (filter_next (Lk.nameK ns nl) bl j hjl)
      rw [hkx] at kcell HF
      obtain ⟨g, o, xa, xc, xk, xd, rfl, _, hr⟩ := (HV3.out.below HB.out).at hkn
      have c1 := hr.c1
      have hE : Lk.nameK ns nl (kx : Int) = nl.contains (Tre.ndAt ns kx).name := by unfold Lk.nameK; rw [Int.toNat_natCast]
      rw [hE] at HF
      have hkI : (kx : Int) < (ns.length : Int) := by omega
      have HJ : Hid (j + 1 ≤ bl.length) := hjl
      have hfl : ((bl.take j).filter (Lk.nameK ns nl)).length ≤ 1000 := Nat.le_trans (List.length_filter_le _ _) (by rw [List.length_take]; omega)
      have hHH : ∀ W, Below X.heap.size X W → Calls Try.prog 16 #[.slice xn nl.length xm, .string (str (Tre.ndAt ns kx).name)] W fun e w' => e = .returned (.bool (nl.contains (Tre.ndAt ns kx).name)) ∧ Below W.heap.size W w' := fun W h => (RHas13_any nl _ (Tre.ndAt ns kx).name W (ReadsTexts13.below (ReadsTexts13.below HN3.out HB.out) h) hnl).mono (fun e w' hq => ⟨hq.1, by rw [hq.2]; exact Below.refl _ _⟩)
      clear hat hkx hr hE hkb
      generalize (Tre.ndAt ns kx).name = nm at *
      cases hq : nl.contains nm
      · have HN : Hid ((bl.take (j + 1)).filter (Lk.nameK ns nl) = (bl.take j).filter (Lk.nameK ns nl)) := by
          show _ = _
          rw [HF.out, hq, if_neg (by simp), List.append_nil]
        rw [hq] at hHH
        have HH := hideT hHH
        clear HF hHH hq
        obtain ⟨S, hS1⟩ : ∃ S : World → Prop, ∀ W, S W ↔ W.cell? ⟨w.heap.size, 0, none⟩ = some (.slice (some ⟨g, o, none⟩) ns.length c) ∧ W.cell? ⟨kb, ko + j, none⟩ = some (.int .i64 (kx : Int)) ∧ W.cell? ⟨g, o + kx * 6 + 1, none⟩ = some (.string (str nm)) ∧ Below X.heap.size X W := ⟨_, fun _ => Iff.rfl⟩
        have step : ∀ W W', S W → Below W.heap.size W W' → S W' := fun W W' h hb => by
          obtain ⟨h1, h2, h3, h4⟩ := (hS1 W).1 h
          exact (hS1 W').2 ⟨(hb.cell (p := ⟨w.heap.size, 0, none⟩) (cell_lt h1)).trans h1, (hb.cell (p := ⟨kb, ko + j, none⟩) (cell_lt h2)).trans h2, (hb.cell (p := ⟨g, o + kx * 6 + 1, none⟩) (cell_lt h3)).trans h3, bel h4 hb⟩
        go_upto_region 6 with fail
        refine wp_region_held_drew (S := S) (by kernel_rfl) (step _ _ ((hS1 _).2 ⟨ccX, kcell, c1, Below.refl _ _⟩) ((Below.refl _ _).drew)) (fun hS => ?_)
        clear ccX c1
        refine takeH12 0 19 (.slice xn nl.length xm) rfl rfl (by kernel_rfl) (by kernel_rfl) (by kernel_rfl) (fun _ _ _ h => h) (Or.inl ⟨by kernel_rfl, fun W _ => by go_simp⟩) hS ?_
        simp only [Act.put, List.setIfInBounds_toArray, List.set_cons_zero, List.set_cons_succ]
        refine takeH12 1 20 (.pointer (some ⟨w.heap.size, 0, none⟩)) rfl rfl (by kernel_rfl) (by kernel_rfl) (by kernel_rfl) (fun _ _ _ h => h) (Or.inl ⟨by kernel_rfl, fun W _ => by go_simp⟩) hS ?_
        simp only [Act.put, List.setIfInBounds_toArray, List.set_cons_zero, List.set_cons_succ]
        refine takeH12 2 21 (.slice (some ⟨g, o, none⟩) ns.length c) rfl rfl (by kernel_rfl) (by kernel_rfl) (by kernel_rfl) (fun _ _ _ h => h) (Or.inl ⟨by kernel_rfl, fun W hW => by have hc := (((hS1 W).1 hW).1); go_simp⟩) hS ?_
        simp only [Act.put, List.setIfInBounds_toArray, List.set_cons_zero, List.set_cons_succ]
        refine takeH12 3 22 (.slice (some ⟨kb, ko, none⟩) bl.length kc) rfl rfl (by kernel_rfl) (by kernel_rfl) (by kernel_rfl) (fun _ _ _ h => h) (Or.inl ⟨by kernel_rfl, fun W _ => by go_simp⟩) hS ?_
        simp only [Act.put, List.setIfInBounds_toArray, List.set_cons_zero, List.set_cons_succ]
        refine takeH12 4 23 (.int .i64 (j : Int)) rfl rfl (by kernel_rfl) (by kernel_rfl) (by kernel_rfl) (fun _ _ _ h => h) (Or.inl ⟨by kernel_rfl, fun W _ => by go_simp⟩) hS ?_
        simp only [Act.put, List.setIfInBounds_toArray, List.set_cons_zero, List.set_cons_succ]
        refine takeH12 5 24 (.pointer (some ⟨kb, ko + j, none⟩)) rfl rfl (by kernel_rfl) (by kernel_rfl) (by kernel_rfl) (fun _ _ _ h => h) (Or.inl ⟨by kernel_rfl, fun W _ => by go_simp⟩) hS ?_
        simp only [Act.put, List.setIfInBounds_toArray, List.set_cons_zero, List.set_cons_succ]
        refine takeH12 6 25 (.int .i64 (kx : Int)) rfl rfl (by kernel_rfl) (by kernel_rfl) (by kernel_rfl) (fun _ _ _ h => h) (Or.inl ⟨by kernel_rfl, fun W hW => by have hc := (((hS1 W).1 hW).2.1); go_simp⟩) hS ?_
        simp only [Act.put, List.setIfInBounds_toArray, List.set_cons_zero, List.set_cons_succ]
        refine takeH12 7 26 (.pointer (some ⟨g, o + kx * 6, none⟩)) rfl rfl (by kernel_rfl) (by kernel_rfl) (by kernel_rfl) (fun _ _ _ h => h) (Or.inl ⟨by kernel_rfl, fun W _ => by go_simp⟩) hS ?_
        simp only [Act.put, List.setIfInBounds_toArray, List.set_cons_zero, List.set_cons_succ]
        refine takeH12 8 27 (.pointer (some ⟨g, o + kx * 6 + 1, none⟩)) rfl rfl (by kernel_rfl) (by kernel_rfl) (by kernel_rfl) (fun _ _ _ h => h) (Or.inl ⟨by kernel_rfl, fun W _ => by go_simp⟩) hS ?_
        simp only [Act.put, List.setIfInBounds_toArray, List.set_cons_zero, List.set_cons_succ]
        refine takeH12 9 28 (.string (str nm)) rfl rfl (by kernel_rfl) (by kernel_rfl) (by kernel_rfl) (fun _ _ _ h => h) (Or.inl ⟨by kernel_rfl, fun W hW => by have hc := (((hS1 W).1 hW).2.2.1); go_simp⟩) hS ?_
        simp only [Act.put, List.setIfInBounds_toArray, List.set_cons_zero, List.set_cons_succ]
        refine wpAnyH_ready (rs := [10]) (by kernel_rfl) (by simp) ?_
        refine AllReadyH.cons rfl (fun K hK => ?_) AllReadyH.nil
        go_simp
        refine (HH.out _ ((hS1 _).1 hS).2.2.2).mono ?_
        rintro e w5 ⟨rfl, hY⟩
        refine hK.out _ _ (step _ _ hS hY) (fun hS => ?_)
        clear hK K hY
        refine wpAnyH_done (by kernel_rfl) ?_ _
        have hfin := ((hS1 _).1 hS).2.2.2
        have kc7 := ((hS1 _).1 hS).2.1
        have HBY := hideT (bel HB.out hfin)
        have HOY := hideT (ownsRow_below HO.out hfin)
        clear hfin
        go_wp2
        go_roundw
        case rel => exact ⟨j + 1, by go_num, HJ.out, by rw [HN.out]; exact HOY.out, HBY⟩
        case measure => have := HJ.out; simp [intOf]; omega
      · have HN : Hid ((bl.take (j + 1)).filter (Lk.nameK ns nl) = (bl.take j).filter (Lk.nameK ns nl) ++ [(kx : Int)]) := by
          show _ = _
          rw [HF.out, hq, if_pos rfl]
        rw [hq] at hHH
        have HH := hideT hHH
        clear HF hHH hq
        obtain ⟨S, hS1⟩ : ∃ S : World → Prop, ∀ W, S W ↔ W.cell? ⟨w.heap.size, 0, none⟩ = some (.slice (some ⟨g, o, none⟩) ns.length c) ∧ W.cell? ⟨kb, ko + j, none⟩ = some (.int .i64 (kx : Int)) ∧ W.cell? ⟨g, o + kx * 6 + 1, none⟩ = some (.string (str nm)) ∧ Below X.heap.size X W := ⟨_, fun _ => Iff.rfl⟩
        have step : ∀ W W', S W → Below W.heap.size W W' → S W' := fun W W' h hb => by
          obtain ⟨h1, h2, h3, h4⟩ := (hS1 W).1 h
          exact (hS1 W').2 ⟨(hb.cell (p := ⟨w.heap.size, 0, none⟩) (cell_lt h1)).trans h1, (hb.cell (p := ⟨kb, ko + j, none⟩) (cell_lt h2)).trans h2, (hb.cell (p := ⟨g, o + kx * 6 + 1, none⟩) (cell_lt h3)).trans h3, bel h4 hb⟩
        go_upto_region 6 with fail
        refine wp_region_held_drew (S := S) (by kernel_rfl) (step _ _ ((hS1 _).2 ⟨ccX, kcell, c1, Below.refl _ _⟩) ((Below.refl _ _).drew)) (fun hS => ?_)
        clear ccX c1
        refine takeH12 0 19 (.slice xn nl.length xm) rfl rfl (by kernel_rfl) (by kernel_rfl) (by kernel_rfl) (fun _ _ _ h => h) (Or.inl ⟨by kernel_rfl, fun W _ => by go_simp⟩) hS ?_
        simp only [Act.put, List.setIfInBounds_toArray, List.set_cons_zero, List.set_cons_succ]
        refine takeH12 1 20 (.pointer (some ⟨w.heap.size, 0, none⟩)) rfl rfl (by kernel_rfl) (by kernel_rfl) (by kernel_rfl) (fun _ _ _ h => h) (Or.inl ⟨by kernel_rfl, fun W _ => by go_simp⟩) hS ?_
        simp only [Act.put, List.setIfInBounds_toArray, List.set_cons_zero, List.set_cons_succ]
        refine takeH12 2 21 (.slice (some ⟨g, o, none⟩) ns.length c) rfl rfl (by kernel_rfl) (by kernel_rfl) (by kernel_rfl) (fun _ _ _ h => h) (Or.inl ⟨by kernel_rfl, fun W hW => by have hc := (((hS1 W).1 hW).1); go_simp⟩) hS ?_
        simp only [Act.put, List.setIfInBounds_toArray, List.set_cons_zero, List.set_cons_succ]
        refine takeH12 3 22 (.slice (some ⟨kb, ko, none⟩) bl.length kc) rfl rfl (by kernel_rfl) (by kernel_rfl) (by kernel_rfl) (fun _ _ _ h => h) (Or.inl ⟨by kernel_rfl, fun W _ => by go_simp⟩) hS ?_
        simp only [Act.put, List.setIfInBounds_toArray, List.set_cons_zero, List.set_cons_succ]
        refine takeH12 4 23 (.int .i64 (j : Int)) rfl rfl (by kernel_rfl) (by kernel_rfl) (by kernel_rfl) (fun _ _ _ h => h) (Or.inl ⟨by kernel_rfl, fun W _ => by go_simp⟩) hS ?_
        simp only [Act.put, List.setIfInBounds_toArray, List.set_cons_zero, List.set_cons_succ]
        refine takeH12 5 24 (.pointer (some ⟨kb, ko + j, none⟩)) rfl rfl (by kernel_rfl) (by kernel_rfl) (by kernel_rfl) (fun _ _ _ h => h) (Or.inl ⟨by kernel_rfl, fun W _ => by go_simp⟩) hS ?_
        simp only [Act.put, List.setIfInBounds_toArray, List.set_cons_zero, List.set_cons_succ]
        refine takeH12 6 25 (.int .i64 (kx : Int)) rfl rfl (by kernel_rfl) (by kernel_rfl) (by kernel_rfl) (fun _ _ _ h => h) (Or.inl ⟨by kernel_rfl, fun W hW => by have hc := (((hS1 W).1 hW).2.1); go_simp⟩) hS ?_
        simp only [Act.put, List.setIfInBounds_toArray, List.set_cons_zero, List.set_cons_succ]
        refine takeH12 7 26 (.pointer (some ⟨g, o + kx * 6, none⟩)) rfl rfl (by kernel_rfl) (by kernel_rfl) (by kernel_rfl) (fun _ _ _ h => h) (Or.inl ⟨by kernel_rfl, fun W _ => by go_simp⟩) hS ?_
        simp only [Act.put, List.setIfInBounds_toArray, List.set_cons_zero, List.set_cons_succ]
        refine takeH12 8 27 (.pointer (some ⟨g, o + kx * 6 + 1, none⟩)) rfl rfl (by kernel_rfl) (by kernel_rfl) (by kernel_rfl) (fun _ _ _ h => h) (Or.inl ⟨by kernel_rfl, fun W _ => by go_simp⟩) hS ?_
        simp only [Act.put, List.setIfInBounds_toArray, List.set_cons_zero, List.set_cons_succ]
        refine takeH12 9 28 (.string (str nm)) rfl rfl (by kernel_rfl) (by kernel_rfl) (by kernel_rfl) (fun _ _ _ h => h) (Or.inl ⟨by kernel_rfl, fun W hW => by have hc := (((hS1 W).1 hW).2.2.1); go_simp⟩) hS ?_
        simp only [Act.put, List.setIfInBounds_toArray, List.set_cons_zero, List.set_cons_succ]
        refine wpAnyH_ready (rs := [10]) (by kernel_rfl) (by simp) ?_
        refine AllReadyH.cons rfl (fun K hK => ?_) AllReadyH.nil
        go_simp
        refine (HH.out _ ((hS1 _).1 hS).2.2.2).mono ?_
        rintro e w5 ⟨rfl, hY⟩
        refine hK.out _ _ (step _ _ hS hY) (fun hS => ?_)
        clear hK K hY
        refine wpAnyH_done (by kernel_rfl) ?_ _
        have hfin := ((hS1 _).1 hS).2.2.2
        have kc7 := ((hS1 _).1 hS).2.1
        have HBY := hideT (bel HB.out hfin)
        have HOY := hideT (ownsRow_below HO.out hfin)
        clear hfin
        go_wp2_with (at_builtin; refine wpList_append_I rfl _ _ rfl W3.heap.size _ _ rfl (ownsRow_below HOY.out ((Below.refl _ w5).alloc (Nat.le_refl _) _)) w5.heap.size 1 rfl (kx : Int) (Lib.cell_of_heap (heap_new w5 _) 0) (by omega) (by have := HBY.out.size; simp; omega) ?_; intro v7 w7 hO7 g7 hat7)
        have HB7 : Hid (Below W3.heap.size W3 w7) := (HBY.out.alloc HBY.out.size (.cells #[.int .i64 (kx : Int)] 3)).grown g7 (by have := HBY.out.size; simp; omega) (fun q e => (World.ownsRow.lt HOY.out q e).1)
        have HO7 := hideT hO7
        clear hO7 g7 hat7
        go_roundw
        case rel => exact ⟨j + 1, by go_num, HJ.out, by rw [HN.out]; exact HO7.out, HB7⟩
        case measure => have := HJ.out; simp [intOf]; omega
    · have hje : j = bl.length := by omega
      have HR2 : Hid ((bl.take j).filter (Lk.nameK ns nl) = findR14 ns at_ nl) := by
        show _ = _
        rw [hje, List.take_length, HX.out]
      have HBX := hideT (bel HB3.out HB.out)
      have hs3 := HB3.out.size
      clear hje
      go_wp2
      go_ret
      exact ⟨_, rfl, by rw [← HR2.out]; exact row_mono HO.out hs3, HBX.out⟩
set_option maxHeartbeats 4000000 in
set_option maxRecDepth 100000 in
theorem RInts14_any (xs : List Int) (v u : Value) (w : World) (hv : ReadsIs w v xs) (hu : ReadsIs w u xs) (hl : xs.length ≤ 1000000) :
    Calls Try.prog 19 #[v, u] w fun e w' => e = .returned (.bool true) ∧ Below w.heap.size w w' := by
  obtain ⟨pa, pc, rfl⟩ := hv.form
  obtain ⟨qa, qc, rfl⟩ := hu.form
  have HV := hideT hv
  have HU := hideT hu
  clear hv hu
  go_enter Try.func19, Try.ntmps19
  go_wp2
  go_loopw [5] (fun s wr => ∃ j : Nat, s = .int .i64 j ∧ j ≤ xs.length ∧ Hid (Below w.heap.size w wr)) (fun s _ => xs.length - (intOf s).toNat)
  case atStart => exact ⟨0, by go_num, Nat.zero_le _, Below.refl _ _⟩
  case round =>
    obtain ⟨j, rfl, hj, HB⟩ := hrel
    rename World => X
    by_cases hjl : j < xs.length
    · have hat : xs[j]? = some xs[j] := List.getElem?_eq_getElem hjl
      obtain ⟨pb, po, rfl, hpc, hpb, pcell⟩ := (HV.out.below HB.out).at hat
      obtain ⟨qb, qo, rfl, hqc, hqb, qcell⟩ := (HU.out.below HB.out).at hat
      have HJ : Hid (j + 1 ≤ xs.length) := hjl
      clear hat hpb hqb
      generalize xs[j] = x at *
      obtain ⟨S, hS1⟩ : ∃ S : World → Prop, ∀ W, S W ↔ W.cell? ⟨pb, po + j, none⟩ = some (.int .i64 x) ∧ W.cell? ⟨qb, qo + j, none⟩ = some (.int .i64 x) ∧ Below X.heap.size X W := ⟨_, fun _ => Iff.rfl⟩
      have step : ∀ W W', S W → Below W.heap.size W W' → S W' := fun W W' h hb => by
        obtain ⟨h1, h2, h4⟩ := (hS1 W).1 h
        exact (hS1 W').2 ⟨(hb.cell (p := ⟨pb, po + j, none⟩) (cell_lt h1)).trans h1, (hb.cell (p := ⟨qb, qo + j, none⟩) (cell_lt h2)).trans h2, bel h4 hb⟩
      go_upto_region 6 with fail
      refine wp_region_held_drew (S := S) (by kernel_rfl) (step _ _ ((hS1 _).2 ⟨pcell, qcell, Below.refl _ _⟩) ((Below.refl _ _).drew)) (fun hS => ?_)
      clear pcell qcell
      refine takeH12 0 17 (.slice (some ⟨pb, po, none⟩) xs.length pc) rfl rfl (by kernel_rfl) (by kernel_rfl) (by kernel_rfl) (fun _ _ _ h => h) (Or.inl ⟨by kernel_rfl, fun W _ => by go_simp⟩) hS ?_
      simp only [Act.put, List.setIfInBounds_toArray, List.set_cons_zero, List.set_cons_succ]
      refine takeH12 1 18 (.int .i64 (j : Int)) rfl rfl (by kernel_rfl) (by kernel_rfl) (by kernel_rfl) (fun _ _ _ h => h) (Or.inl ⟨by kernel_rfl, fun W _ => by go_simp⟩) hS ?_
      simp only [Act.put, List.setIfInBounds_toArray, List.set_cons_zero, List.set_cons_succ]
      refine takeH12 2 19 (.pointer (some ⟨pb, po + j, none⟩)) rfl rfl (by kernel_rfl) (by kernel_rfl) (by kernel_rfl) (fun _ _ _ h => h) (Or.inl ⟨by kernel_rfl, fun W _ => by go_simp⟩) hS ?_
      simp only [Act.put, List.setIfInBounds_toArray, List.set_cons_zero, List.set_cons_succ]
      refine takeH12 3 20 (.int .i64 x) rfl rfl (by kernel_rfl) (by kernel_rfl) (by kernel_rfl) (fun _ _ _ h => h) (Or.inl ⟨by kernel_rfl, fun W hW => by have hc := (((hS1 W).1 hW).1); go_simp⟩) hS ?_
      simp only [Act.put, List.setIfInBounds_toArray, List.set_cons_zero, List.set_cons_succ]
      refine takeH12 4 21 (.slice (some ⟨qb, qo, none⟩) xs.length qc) rfl rfl (by kernel_rfl) (by kernel_rfl) (by kernel_rfl) (fun _ _ _ h => h) (Or.inl ⟨by kernel_rfl, fun W _ => by go_simp⟩) hS ?_
      simp only [Act.put, List.setIfInBounds_toArray, List.set_cons_zero, List.set_cons_succ]
      refine takeH12 5 22 (.int .i64 (j : Int)) rfl rfl (by kernel_rfl) (by kernel_rfl) (by kernel_rfl) (fun _ _ _ h => h) (Or.inl ⟨by kernel_rfl, fun W _ => by go_simp⟩) hS ?_
      simp only [Act.put, List.setIfInBounds_toArray, List.set_cons_zero, List.set_cons_succ]
      refine takeH12 6 23 (.pointer (some ⟨qb, qo + j, none⟩)) rfl rfl (by kernel_rfl) (by kernel_rfl) (by kernel_rfl) (fun _ _ _ h => h) (Or.inl ⟨by kernel_rfl, fun W _ => by go_simp⟩) hS ?_
      simp only [Act.put, List.setIfInBounds_toArray, List.set_cons_zero, List.set_cons_succ]
      refine takeH12 7 24 (.int .i64 x) rfl rfl (by kernel_rfl) (by kernel_rfl) (by kernel_rfl) (fun _ _ _ h => h) (Or.inl ⟨by kernel_rfl, fun W hW => by have hc := (((hS1 W).1 hW).2.1); go_simp⟩) hS ?_
      simp only [Act.put, List.setIfInBounds_toArray, List.set_cons_zero, List.set_cons_succ]
      refine takeH12 8 25 (.bool false) rfl rfl (by kernel_rfl) (by kernel_rfl) (by kernel_rfl) (fun _ _ _ h => h) (Or.inl ⟨by kernel_rfl, fun W _ => by go_simp; (try (first | omega | simp_all))⟩) hS ?_
      simp only [Act.put, List.setIfInBounds_toArray, List.set_cons_zero, List.set_cons_succ]
      refine wpAnyH_done (by kernel_rfl) ?_ _
      have HBY := hideT (bel HB.out ((hS1 _).1 hS).2.2)
      go_wp2
      go_roundw
      case rel => exact ⟨j + 1, by go_num, HJ.out, HBY⟩
      case measure => have := HJ.out; simp [intOf]; omega
    · go_wp2
      go_ret
      exact ⟨rfl, HB.out⟩
end Go.Proofs.Ytoiedadfpbbdgaa
/- The contracts of the reference's OnlyIn and Only (written by tools/mklkfo.py). -/
namespace Go.Proofs.Ytoiedadfpbbdgaa
open Go.RowKit
set_option maxHeartbeats 8000000 in
set_option maxRecDepth 100000 in
theorem ROnlyIn14_any (ns : List Nd) (v : Value) (top : Nat) (nl : List (List UInt8)) (nv : Value) (w : World) (hv : ReadsN w v ns) (hm : Tre.mayB ns = true) (hl4 : ns.length ≤ 1000) (htop : top < ns.length) (hn : ReadsTexts w nv nl) (hnl : nl.length ≤ 1000000) :
    Calls Try.prog 47 #[.agg #[v], .int .i64 (top : Int), nv] w fun e w' => e = .returned (.int .i64 (onlyR14 ns (top : Int) nl)) ∧ Below w.heap.size w w' := by
  obtain ⟨a, c, rfl⟩ := hv.form
  obtain ⟨xn, xm, rfl⟩ := ReadsTexts13.form hn
  have hb0 : Below w.heap.size w (w.alloc (.cells #[.slice a ns.length c] 24)) := (Below.refl _ _).alloc (Nat.le_refl _) _
  have cc0 := doc_cell (heap_new w (.cells #[.slice a ns.length c] 24))
  have lc := cell_lt cc0
  have hke : kidsR14 ns (top : Int) = Lk.kidsE ns top := by
    unfold kidsR14
    rw [if_pos (Lk.place_at htop hm), Int.toNat_natCast]
  have hK := RKidsIn14_any ns _ top _ (hv.below hb0) hm hl4 htop
  rw [← hke] at hK
  have HK := hideT hK
  have HB0 := hideT hb0
  have HV0 := hideT (hv.below hb0)
  have HN0 := hideT (ReadsTexts13.below hn hb0)
  have HMem := hideT (fun k (h : k ∈ kidsR14 ns (top : Int)) => kidsR14_mem h)
  clear hv hn hb0 hm hke hK
  go_enter Try.func47, Try.ntmps47
  go_upto_region 2 with (go_at_call 45; refine HK.out.mono ?_; rintro e w1 ⟨x1, rfl, hO1, hb1⟩)
  have HQ := hideT (bel HB0.out hb1)
  have cc1 := (hb1.cell (p := ⟨w.heap.size, 0, none⟩) lc).trans cc0
  have HV1 := hideT (HV0.out.below hb1)
  have HN1 := hideT (ReadsTexts13.below HN0.out hb1)
  have hrd := OwnsI.reads hO1
  by_cases hlen : (kidsR14 ns (top : Int)).length = 1
  · obtain ⟨k, hk⟩ := List.length_eq_one_iff.1 hlen
    obtain ⟨kx, rfl, hkn⟩ := HMem.out k (by rw [hk]; simp)
    have hX1 := fun h => only_named (nl := nl) hk h
    have hX0 := only_free hk
    rw [hk] at hrd
    obtain ⟨ka, kc, rfl⟩ := hrd.form
    obtain ⟨kb, ko, rfl, hkc, hkb, hcell⟩ := hrd.at (k := 0) (x := (kx : Int)) rfl
    rw [show ko + 0 = ko from rfl] at hcell
    obtain ⟨g, o, xa, xc, xk, xd, rfl, _, hr1⟩ := HV1.out.at hkn
    have c1 := hr1.c1
    have hkI : (kx : Int) < (ns.length : Int) := by omega
    have hnk : Lk.nameK ns nl (kx : Int) = nl.contains (Tre.ndAt ns kx).name := by unfold Lk.nameK; rw [Int.toNat_natCast]
    rw [hnk] at hX1
    clear hlen hk hrd hO1 hb1 HK HV0 HN0 HMem cc0 lc hr1 hnk HV1
    generalize (Tre.ndAt ns kx).name = nm at *
    by_cases hnz : nl = []
    · subst hnz
      have HX := hideT hX0
      clear hX1 hX0
      obtain ⟨S, hS1⟩ : ∃ S : World → Prop, ∀ W, S W ↔ W.cell? ⟨w.heap.size, 0, none⟩ = some (.slice (some ⟨g, o, none⟩) ns.length c) ∧ W.cell? ⟨kb, ko, none⟩ = some (.int .i64 (kx : Int)) ∧ W.cell? ⟨g, o + kx * 6 + 1, none⟩ = some (.string (str nm)) ∧ Below w1.heap.size w1 W := ⟨_, fun _ => Iff.rfl⟩
      have step : ∀ W W', S W → Below W.heap.size W W' → S W' := fun W W' h hb => by
        obtain ⟨h1, h2, h3, h4⟩ := (hS1 W).1 h
        exact (hS1 W').2 ⟨(hb.cell (p := ⟨w.heap.size, 0, none⟩) (cell_lt h1)).trans h1, (hb.cell (p := ⟨kb, ko, none⟩) (cell_lt h2)).trans h2, (hb.cell (p := ⟨g, o + kx * 6 + 1, none⟩) (cell_lt h3)).trans h3, bel h4 hb⟩
      refine wp_region_held_drew (S := S) (by kernel_rfl) (step _ _ ((hS1 _).2 ⟨cc1, hcell, c1, Below.refl _ _⟩) ((Below.refl _ _).drew)) (fun hS => ?_)
      clear cc1 hcell c1
      refine takeH12 0 11 (.slice (some ⟨kb, ko, none⟩) 1 kc) rfl rfl (by kernel_rfl) (by kernel_rfl) (by kernel_rfl) (fun _ _ _ h => h) (Or.inl ⟨by kernel_rfl, fun W _ => by go_simp⟩) hS ?_
      simp only [Act.put, List.setIfInBounds_toArray, List.set_cons_zero, List.set_cons_succ]
      refine takeH12 1 12 (.int .i64 1) rfl rfl (by kernel_rfl) (by kernel_rfl) (by kernel_rfl) (fun _ _ _ h => h) (Or.inl ⟨by kernel_rfl, fun W _ => by go_simp⟩) hS ?_
      simp only [Act.put, List.setIfInBounds_toArray, List.set_cons_zero, List.set_cons_succ]
      refine takeH12 2 13 (.bool false) rfl rfl (by kernel_rfl) (by kernel_rfl) (by kernel_rfl) (fun _ _ _ h => h) (Or.inl ⟨by kernel_rfl, fun W _ => by go_simp; (try (first | omega | simp_all))⟩) hS ?_
      simp only [Act.put, List.setIfInBounds_toArray, List.set_cons_zero, List.set_cons_succ]
      refine takeH12 3 14 (.bool false) rfl rfl (by kernel_rfl) (by kernel_rfl) (by kernel_rfl) (fun _ _ _ h => h) (Or.inl ⟨by kernel_rfl, fun W _ => by go_simp⟩) hS ?_
      simp only [Act.put, List.setIfInBounds_toArray, List.set_cons_zero, List.set_cons_succ]
      refine takeH12 4 15 (.slice xn 0 xm) rfl rfl (by kernel_rfl) (by kernel_rfl) (by kernel_rfl) (fun _ _ _ h => h) (Or.inl ⟨by kernel_rfl, fun W _ => by go_simp⟩) hS ?_
      simp only [Act.put, List.setIfInBounds_toArray, List.set_cons_zero, List.set_cons_succ]
      refine takeH12 5 16 (.int .i64 0) rfl rfl (by kernel_rfl) (by kernel_rfl) (by kernel_rfl) (fun _ _ _ h => h) (Or.inl ⟨by kernel_rfl, fun W _ => by go_simp⟩) hS ?_
      simp only [Act.put, List.setIfInBounds_toArray, List.set_cons_zero, List.set_cons_succ]
      refine takeH12 6 17 (.bool false) rfl rfl (by kernel_rfl) (by kernel_rfl) (by kernel_rfl) (fun _ _ _ h => h) (Or.inl ⟨by kernel_rfl, fun W _ => by go_simp; (try (first | omega | simp_all))⟩) hS ?_
      simp only [Act.put, List.setIfInBounds_toArray, List.set_cons_zero, List.set_cons_succ]
      refine takeH12 7 18 (.bool false) rfl rfl (by kernel_rfl) (by kernel_rfl) (by kernel_rfl) (fun _ _ _ h => h) (Or.inl ⟨by kernel_rfl, fun W _ => by go_simp⟩) hS ?_
      simp only [Act.put, List.setIfInBounds_toArray, List.set_cons_zero, List.set_cons_succ]
      refine takeH12 8 19 (undef) rfl rfl (by kernel_rfl) (by kernel_rfl) (by kernel_rfl) (fun _ _ _ h => h) (Or.inr ⟨by kernel_rfl, rfl⟩) hS ?_
      simp only [Act.put, List.setIfInBounds_toArray, List.set_cons_zero, List.set_cons_succ]
      refine takeH12 9 20 (undef) rfl rfl (by kernel_rfl) (by kernel_rfl) (by kernel_rfl) (fun _ _ _ h => h) (Or.inr ⟨by kernel_rfl, rfl⟩) hS ?_
      simp only [Act.put, List.setIfInBounds_toArray, List.set_cons_zero, List.set_cons_succ]
      refine takeH12 10 21 (undef) rfl rfl (by kernel_rfl) (by kernel_rfl) (by kernel_rfl) (fun _ _ _ h => h) (Or.inr ⟨by kernel_rfl, rfl⟩) hS ?_
      simp only [Act.put, List.setIfInBounds_toArray, List.set_cons_zero, List.set_cons_succ]
      refine takeH12 11 22 (undef) rfl rfl (by kernel_rfl) (by kernel_rfl) (by kernel_rfl) (fun _ _ _ h => h) (Or.inr ⟨by kernel_rfl, rfl⟩) hS ?_
      simp only [Act.put, List.setIfInBounds_toArray, List.set_cons_zero, List.set_cons_succ]
      refine takeH12 12 23 (undef) rfl rfl (by kernel_rfl) (by kernel_rfl) (by kernel_rfl) (fun _ _ _ h => h) (Or.inr ⟨by kernel_rfl, rfl⟩) hS ?_
      simp only [Act.put, List.setIfInBounds_toArray, List.set_cons_zero, List.set_cons_succ]
      refine takeH12 13 24 (undef) rfl rfl (by kernel_rfl) (by kernel_rfl) (by kernel_rfl) (fun _ _ _ h => h) (Or.inr ⟨by kernel_rfl, rfl⟩) hS ?_
      simp only [Act.put, List.setIfInBounds_toArray, List.set_cons_zero, List.set_cons_succ]
      refine takeH12 14 25 (undef) rfl rfl (by kernel_rfl) (by kernel_rfl) (by kernel_rfl) (fun _ _ _ h => h) (Or.inr ⟨by kernel_rfl, rfl⟩) hS ?_
      simp only [Act.put, List.setIfInBounds_toArray, List.set_cons_zero, List.set_cons_succ]
      refine takeH12 15 26 (undef) rfl rfl (by kernel_rfl) (by kernel_rfl) (by kernel_rfl) (fun _ _ _ h => h) (Or.inr ⟨by kernel_rfl, rfl⟩) hS ?_
      simp only [Act.put, List.setIfInBounds_toArray, List.set_cons_zero, List.set_cons_succ]
      refine takeH12 16 27 (undef) rfl rfl (by kernel_rfl) (by kernel_rfl) (by kernel_rfl) (fun _ _ _ h => h) (Or.inr ⟨by kernel_rfl, rfl⟩) hS ?_
      simp only [Act.put, List.setIfInBounds_toArray, List.set_cons_zero, List.set_cons_succ]
      refine takeH12 17 28 (undef) rfl rfl (by kernel_rfl) (by kernel_rfl) (by kernel_rfl) (fun _ _ _ h => h) (Or.inr ⟨by kernel_rfl, rfl⟩) hS ?_
      simp only [Act.put, List.setIfInBounds_toArray, List.set_cons_zero, List.set_cons_succ]
      refine takeH12 18 29 (undef) rfl rfl (by kernel_rfl) (by kernel_rfl) (by kernel_rfl) (fun _ _ _ h => h) (Or.inr ⟨by kernel_rfl, rfl⟩) hS ?_
      simp only [Act.put, List.setIfInBounds_toArray, List.set_cons_zero, List.set_cons_succ]
      refine takeH12 19 30 (.bool false) rfl rfl (by kernel_rfl) (by kernel_rfl) (by kernel_rfl) (fun _ _ _ h => h) (Or.inl ⟨by kernel_rfl, fun W _ => by go_simp⟩) hS ?_
      simp only [Act.put, List.setIfInBounds_toArray, List.set_cons_zero, List.set_cons_succ]
      refine takeH12 20 31 (.bool false) rfl rfl (by kernel_rfl) (by kernel_rfl) (by kernel_rfl) (fun _ _ _ h => h) (Or.inl ⟨by kernel_rfl, fun W _ => by go_simp⟩) hS ?_
      simp only [Act.put, List.setIfInBounds_toArray, List.set_cons_zero, List.set_cons_succ]
      refine wpAnyH_done (by kernel_rfl) ?_ _
      have hk5 := ((hS1 _).1 hS).2.1
      have HF := hideT (bel HQ.out ((hS1 _).1 hS).2.2.2)
      go_wp2
      go_ret
      exact ⟨by rw [HX.out]; rfl, HF.out⟩
    · have hX := hX1 hnz
      have hpos : 0 < nl.length := List.length_pos_iff.2 hnz
      have hHH : ∀ W, Below w1.heap.size w1 W → Calls Try.prog 16 #[.slice xn nl.length xm, .string (str nm)] W fun e w' => e = .returned (.bool (nl.contains nm)) ∧ Below W.heap.size W w' := fun W h => (RHas13_any nl _ nm W (ReadsTexts13.below HN1.out h) hnl).mono (fun e w' hq => ⟨hq.1, by rw [hq.2]; exact Below.refl _ _⟩)
      clear hX1 hX0 HN1 hnz
      cases hbq : nl.contains nm
      · rw [hbq] at hX hHH
        have HX := hideT hX
        have HH := hideT hHH
        clear hX hHH hbq
        obtain ⟨S, hS1⟩ : ∃ S : World → Prop, ∀ W, S W ↔ W.cell? ⟨w.heap.size, 0, none⟩ = some (.slice (some ⟨g, o, none⟩) ns.length c) ∧ W.cell? ⟨kb, ko, none⟩ = some (.int .i64 (kx : Int)) ∧ W.cell? ⟨g, o + kx * 6 + 1, none⟩ = some (.string (str nm)) ∧ Below w1.heap.size w1 W := ⟨_, fun _ => Iff.rfl⟩
        have step : ∀ W W', S W → Below W.heap.size W W' → S W' := fun W W' h hb => by
          obtain ⟨h1, h2, h3, h4⟩ := (hS1 W).1 h
          exact (hS1 W').2 ⟨(hb.cell (p := ⟨w.heap.size, 0, none⟩) (cell_lt h1)).trans h1, (hb.cell (p := ⟨kb, ko, none⟩) (cell_lt h2)).trans h2, (hb.cell (p := ⟨g, o + kx * 6 + 1, none⟩) (cell_lt h3)).trans h3, bel h4 hb⟩
        refine wp_region_held_drew (S := S) (by kernel_rfl) (step _ _ ((hS1 _).2 ⟨cc1, hcell, c1, Below.refl _ _⟩) ((Below.refl _ _).drew)) (fun hS => ?_)
        clear cc1 hcell c1
        refine takeH12 0 11 (.slice (some ⟨kb, ko, none⟩) 1 kc) rfl rfl (by kernel_rfl) (by kernel_rfl) (by kernel_rfl) (fun _ _ _ h => h) (Or.inl ⟨by kernel_rfl, fun W _ => by go_simp⟩) hS ?_
        simp only [Act.put, List.setIfInBounds_toArray, List.set_cons_zero, List.set_cons_succ]
        refine takeH12 1 12 (.int .i64 1) rfl rfl (by kernel_rfl) (by kernel_rfl) (by kernel_rfl) (fun _ _ _ h => h) (Or.inl ⟨by kernel_rfl, fun W _ => by go_simp⟩) hS ?_
        simp only [Act.put, List.setIfInBounds_toArray, List.set_cons_zero, List.set_cons_succ]
        refine takeH12 2 13 (.bool false) rfl rfl (by kernel_rfl) (by kernel_rfl) (by kernel_rfl) (fun _ _ _ h => h) (Or.inl ⟨by kernel_rfl, fun W _ => by go_simp; (try (first | omega | simp_all))⟩) hS ?_
        simp only [Act.put, List.setIfInBounds_toArray, List.set_cons_zero, List.set_cons_succ]
        refine takeH12 3 14 (.bool false) rfl rfl (by kernel_rfl) (by kernel_rfl) (by kernel_rfl) (fun _ _ _ h => h) (Or.inl ⟨by kernel_rfl, fun W _ => by go_simp⟩) hS ?_
        simp only [Act.put, List.setIfInBounds_toArray, List.set_cons_zero, List.set_cons_succ]
        refine takeH12 4 15 (.slice xn nl.length xm) rfl rfl (by kernel_rfl) (by kernel_rfl) (by kernel_rfl) (fun _ _ _ h => h) (Or.inl ⟨by kernel_rfl, fun W _ => by go_simp⟩) hS ?_
        simp only [Act.put, List.setIfInBounds_toArray, List.set_cons_zero, List.set_cons_succ]
        refine takeH12 5 16 (.int .i64 (nl.length : Int)) rfl rfl (by kernel_rfl) (by kernel_rfl) (by kernel_rfl) (fun _ _ _ h => h) (Or.inl ⟨by kernel_rfl, fun W _ => by go_simp⟩) hS ?_
        simp only [Act.put, List.setIfInBounds_toArray, List.set_cons_zero, List.set_cons_succ]
        refine takeH12 6 17 (.bool true) rfl rfl (by kernel_rfl) (by kernel_rfl) (by kernel_rfl) (fun _ _ _ h => h) (Or.inl ⟨by kernel_rfl, fun W _ => by go_simp; (try (first | omega | simp_all))⟩) hS ?_
        simp only [Act.put, List.setIfInBounds_toArray, List.set_cons_zero, List.set_cons_succ]
        refine takeH12 7 18 (.bool true) rfl rfl (by kernel_rfl) (by kernel_rfl) (by kernel_rfl) (fun _ _ _ h => h) (Or.inl ⟨by kernel_rfl, fun W _ => by go_simp⟩) hS ?_
        simp only [Act.put, List.setIfInBounds_toArray, List.set_cons_zero, List.set_cons_succ]
        refine takeH12 8 19 (.slice xn nl.length xm) rfl rfl (by kernel_rfl) (by kernel_rfl) (by kernel_rfl) (fun _ _ _ h => h) (Or.inl ⟨by kernel_rfl, fun W _ => by go_simp⟩) hS ?_
        simp only [Act.put, List.setIfInBounds_toArray, List.set_cons_zero, List.set_cons_succ]
        refine takeH12 9 20 (.pointer (some ⟨w.heap.size, 0, none⟩)) rfl rfl (by kernel_rfl) (by kernel_rfl) (by kernel_rfl) (fun _ _ _ h => h) (Or.inl ⟨by kernel_rfl, fun W _ => by go_simp⟩) hS ?_
        simp only [Act.put, List.setIfInBounds_toArray, List.set_cons_zero, List.set_cons_succ]
        refine takeH12 10 21 (.slice (some ⟨g, o, none⟩) ns.length c) rfl rfl (by kernel_rfl) (by kernel_rfl) (by kernel_rfl) (fun _ _ _ h => h) (Or.inl ⟨by kernel_rfl, fun W hW => by have hc := (((hS1 W).1 hW).1); go_simp⟩) hS ?_
        simp only [Act.put, List.setIfInBounds_toArray, List.set_cons_zero, List.set_cons_succ]
        refine takeH12 11 22 (.slice (some ⟨kb, ko, none⟩) 1 kc) rfl rfl (by kernel_rfl) (by kernel_rfl) (by kernel_rfl) (fun _ _ _ h => h) (Or.inl ⟨by kernel_rfl, fun W _ => by go_simp⟩) hS ?_
        simp only [Act.put, List.setIfInBounds_toArray, List.set_cons_zero, List.set_cons_succ]
        refine takeH12 12 23 (.pointer (some ⟨kb, ko, none⟩)) rfl rfl (by kernel_rfl) (by kernel_rfl) (by kernel_rfl) (fun _ _ _ h => h) (Or.inl ⟨by kernel_rfl, fun W _ => by go_simp⟩) hS ?_
        simp only [Act.put, List.setIfInBounds_toArray, List.set_cons_zero, List.set_cons_succ]
        refine takeH12 13 24 (.int .i64 (kx : Int)) rfl rfl (by kernel_rfl) (by kernel_rfl) (by kernel_rfl) (fun _ _ _ h => h) (Or.inl ⟨by kernel_rfl, fun W hW => by have hc := (((hS1 W).1 hW).2.1); go_simp⟩) hS ?_
        simp only [Act.put, List.setIfInBounds_toArray, List.set_cons_zero, List.set_cons_succ]
        refine takeH12 14 25 (.pointer (some ⟨g, o + kx * 6, none⟩)) rfl rfl (by kernel_rfl) (by kernel_rfl) (by kernel_rfl) (fun _ _ _ h => h) (Or.inl ⟨by kernel_rfl, fun W _ => by go_simp⟩) hS ?_
        simp only [Act.put, List.setIfInBounds_toArray, List.set_cons_zero, List.set_cons_succ]
        refine takeH12 15 26 (.pointer (some ⟨g, o + kx * 6 + 1, none⟩)) rfl rfl (by kernel_rfl) (by kernel_rfl) (by kernel_rfl) (fun _ _ _ h => h) (Or.inl ⟨by kernel_rfl, fun W _ => by go_simp⟩) hS ?_
        simp only [Act.put, List.setIfInBounds_toArray, List.set_cons_zero, List.set_cons_succ]
        refine takeH12 16 27 (.string (str nm)) rfl rfl (by kernel_rfl) (by kernel_rfl) (by kernel_rfl) (fun _ _ _ h => h) (Or.inl ⟨by kernel_rfl, fun W hW => by have hc := (((hS1 W).1 hW).2.2.1); go_simp⟩) hS ?_
        simp only [Act.put, List.setIfInBounds_toArray, List.set_cons_zero, List.set_cons_succ]
        refine wpAnyH_ready (rs := [17]) (by kernel_rfl) (by simp) ?_
        refine AllReadyH.cons rfl (fun K hK => ?_) AllReadyH.nil
        go_simp
        refine (HH.out _ ((hS1 _).1 hS).2.2.2).mono ?_
        rintro e w5 ⟨rfl, hY⟩
        refine hK.out _ _ (step _ _ hS hY) (fun hS => ?_)
        clear hK K hY
        refine takeH12 18 29 (.bool true) rfl rfl (by kernel_rfl) (by kernel_rfl) (by kernel_rfl) (fun _ _ _ h => h) (Or.inl ⟨by kernel_rfl, fun W _ => by go_simp⟩) hS ?_
        simp only [Act.put, List.setIfInBounds_toArray, List.set_cons_zero, List.set_cons_succ]
        refine takeH12 19 30 (.bool true) rfl rfl (by kernel_rfl) (by kernel_rfl) (by kernel_rfl) (fun _ _ _ h => h) (Or.inl ⟨by kernel_rfl, fun W _ => by go_simp⟩) hS ?_
        simp only [Act.put, List.setIfInBounds_toArray, List.set_cons_zero, List.set_cons_succ]
        refine takeH12 20 31 (.bool true) rfl rfl (by kernel_rfl) (by kernel_rfl) (by kernel_rfl) (fun _ _ _ h => h) (Or.inl ⟨by kernel_rfl, fun W _ => by go_simp⟩) hS ?_
        simp only [Act.put, List.setIfInBounds_toArray, List.set_cons_zero, List.set_cons_succ]
        refine wpAnyH_done (by kernel_rfl) ?_ _
        have hk5 := ((hS1 _).1 hS).2.1
        have HF := hideT (bel HQ.out ((hS1 _).1 hS).2.2.2)
        go_wp2
        go_ret
        exact ⟨by rw [HX.out]; rfl, HF.out⟩
      · rw [hbq] at hX hHH
        have HX := hideT hX
        have HH := hideT hHH
        clear hX hHH hbq
        obtain ⟨S, hS1⟩ : ∃ S : World → Prop, ∀ W, S W ↔ W.cell? ⟨w.heap.size, 0, none⟩ = some (.slice (some ⟨g, o, none⟩) ns.length c) ∧ W.cell? ⟨kb, ko, none⟩ = some (.int .i64 (kx : Int)) ∧ W.cell? ⟨g, o + kx * 6 + 1, none⟩ = some (.string (str nm)) ∧ Below w1.heap.size w1 W := ⟨_, fun _ => Iff.rfl⟩
        have step : ∀ W W', S W → Below W.heap.size W W' → S W' := fun W W' h hb => by
          obtain ⟨h1, h2, h3, h4⟩ := (hS1 W).1 h
          exact (hS1 W').2 ⟨(hb.cell (p := ⟨w.heap.size, 0, none⟩) (cell_lt h1)).trans h1, (hb.cell (p := ⟨kb, ko, none⟩) (cell_lt h2)).trans h2, (hb.cell (p := ⟨g, o + kx * 6 + 1, none⟩) (cell_lt h3)).trans h3, bel h4 hb⟩
        refine wp_region_held_drew (S := S) (by kernel_rfl) (step _ _ ((hS1 _).2 ⟨cc1, hcell, c1, Below.refl _ _⟩) ((Below.refl _ _).drew)) (fun hS => ?_)
        clear cc1 hcell c1
        refine takeH12 0 11 (.slice (some ⟨kb, ko, none⟩) 1 kc) rfl rfl (by kernel_rfl) (by kernel_rfl) (by kernel_rfl) (fun _ _ _ h => h) (Or.inl ⟨by kernel_rfl, fun W _ => by go_simp⟩) hS ?_
        simp only [Act.put, List.setIfInBounds_toArray, List.set_cons_zero, List.set_cons_succ]
        refine takeH12 1 12 (.int .i64 1) rfl rfl (by kernel_rfl) (by kernel_rfl) (by kernel_rfl) (fun _ _ _ h => h) (Or.inl ⟨by kernel_rfl, fun W _ => by go_simp⟩) hS ?_
        simp only [Act.put, List.setIfInBounds_toArray, List.set_cons_zero, List.set_cons_succ]
        refine takeH12 2 13 (.bool false) rfl rfl (by kernel_rfl) (by kernel_rfl) (by kernel_rfl) (fun _ _ _ h => h) (Or.inl ⟨by kernel_rfl, fun W _ => by go_simp; (try (first | omega | simp_all))⟩) hS ?_
        simp only [Act.put, List.setIfInBounds_toArray, List.set_cons_zero, List.set_cons_succ]
        refine takeH12 3 14 (.bool false) rfl rfl (by kernel_rfl) (by kernel_rfl) (by kernel_rfl) (fun _ _ _ h => h) (Or.inl ⟨by kernel_rfl, fun W _ => by go_simp⟩) hS ?_
        simp only [Act.put, List.setIfInBounds_toArray, List.set_cons_zero, List.set_cons_succ]
        refine takeH12 4 15 (.slice xn nl.length xm) rfl rfl (by kernel_rfl) (by kernel_rfl) (by kernel_rfl) (fun _ _ _ h => h) (Or.inl ⟨by kernel_rfl, fun W _ => by go_simp⟩) hS ?_
        simp only [Act.put, List.setIfInBounds_toArray, List.set_cons_zero, List.set_cons_succ]
        refine takeH12 5 16 (.int .i64 (nl.length : Int)) rfl rfl (by kernel_rfl) (by kernel_rfl) (by kernel_rfl) (fun _ _ _ h => h) (Or.inl ⟨by kernel_rfl, fun W _ => by go_simp⟩) hS ?_
        simp only [Act.put, List.setIfInBounds_toArray, List.set_cons_zero, List.set_cons_succ]
        refine takeH12 6 17 (.bool true) rfl rfl (by kernel_rfl) (by kernel_rfl) (by kernel_rfl) (fun _ _ _ h => h) (Or.inl ⟨by kernel_rfl, fun W _ => by go_simp; (try (first | omega | simp_all))⟩) hS ?_
        simp only [Act.put, List.setIfInBounds_toArray, List.set_cons_zero, List.set_cons_succ]
        refine takeH12 7 18 (.bool true) rfl rfl (by kernel_rfl) (by kernel_rfl) (by kernel_rfl) (fun _ _ _ h => h) (Or.inl ⟨by kernel_rfl, fun W _ => by go_simp⟩) hS ?_
        simp only [Act.put, List.setIfInBounds_toArray, List.set_cons_zero, List.set_cons_succ]
        refine takeH12 8 19 (.slice xn nl.length xm) rfl rfl (by kernel_rfl) (by kernel_rfl) (by kernel_rfl) (fun _ _ _ h => h) (Or.inl ⟨by kernel_rfl, fun W _ => by go_simp⟩) hS ?_
        simp only [Act.put, List.setIfInBounds_toArray, List.set_cons_zero, List.set_cons_succ]
        refine takeH12 9 20 (.pointer (some ⟨w.heap.size, 0, none⟩)) rfl rfl (by kernel_rfl) (by kernel_rfl) (by kernel_rfl) (fun _ _ _ h => h) (Or.inl ⟨by kernel_rfl, fun W _ => by go_simp⟩) hS ?_
        simp only [Act.put, List.setIfInBounds_toArray, List.set_cons_zero, List.set_cons_succ]
        refine takeH12 10 21 (.slice (some ⟨g, o, none⟩) ns.length c) rfl rfl (by kernel_rfl) (by kernel_rfl) (by kernel_rfl) (fun _ _ _ h => h) (Or.inl ⟨by kernel_rfl, fun W hW => by have hc := (((hS1 W).1 hW).1); go_simp⟩) hS ?_
        simp only [Act.put, List.setIfInBounds_toArray, List.set_cons_zero, List.set_cons_succ]
        refine takeH12 11 22 (.slice (some ⟨kb, ko, none⟩) 1 kc) rfl rfl (by kernel_rfl) (by kernel_rfl) (by kernel_rfl) (fun _ _ _ h => h) (Or.inl ⟨by kernel_rfl, fun W _ => by go_simp⟩) hS ?_
        simp only [Act.put, List.setIfInBounds_toArray, List.set_cons_zero, List.set_cons_succ]
        refine takeH12 12 23 (.pointer (some ⟨kb, ko, none⟩)) rfl rfl (by kernel_rfl) (by kernel_rfl) (by kernel_rfl) (fun _ _ _ h => h) (Or.inl ⟨by kernel_rfl, fun W _ => by go_simp⟩) hS ?_
        simp only [Act.put, List.setIfInBounds_toArray, List.set_cons_zero, List.set_cons_succ]
        refine takeH12 13 24 (.int .i64 (kx : Int)) rfl rfl (by kernel_rfl) (by kernel_rfl) (by kernel_rfl) (fun _ _ _ h => h) (Or.inl ⟨by kernel_rfl, fun W hW => by have hc := (((hS1 W).1 hW).2.1); go_simp⟩) hS ?_
        simp only [Act.put, List.setIfInBounds_toArray, List.set_cons_zero, List.set_cons_succ]
        refine takeH12 14 25 (.pointer (some ⟨g, o + kx * 6, none⟩)) rfl rfl (by kernel_rfl) (by kernel_rfl) (by kernel_rfl) (fun _ _ _ h => h) (Or.inl ⟨by kernel_rfl, fun W _ => by go_simp⟩) hS ?_
        simp only [Act.put, List.setIfInBounds_toArray, List.set_cons_zero, List.set_cons_succ]
        refine takeH12 15 26 (.pointer (some ⟨g, o + kx * 6 + 1, none⟩)) rfl rfl (by kernel_rfl) (by kernel_rfl) (by kernel_rfl) (fun _ _ _ h => h) (Or.inl ⟨by kernel_rfl, fun W _ => by go_simp⟩) hS ?_
        simp only [Act.put, List.setIfInBounds_toArray, List.set_cons_zero, List.set_cons_succ]
        refine takeH12 16 27 (.string (str nm)) rfl rfl (by kernel_rfl) (by kernel_rfl) (by kernel_rfl) (fun _ _ _ h => h) (Or.inl ⟨by kernel_rfl, fun W hW => by have hc := (((hS1 W).1 hW).2.2.1); go_simp⟩) hS ?_
        simp only [Act.put, List.setIfInBounds_toArray, List.set_cons_zero, List.set_cons_succ]
        refine wpAnyH_ready (rs := [17]) (by kernel_rfl) (by simp) ?_
        refine AllReadyH.cons rfl (fun K hK => ?_) AllReadyH.nil
        go_simp
        refine (HH.out _ ((hS1 _).1 hS).2.2.2).mono ?_
        rintro e w5 ⟨rfl, hY⟩
        refine hK.out _ _ (step _ _ hS hY) (fun hS => ?_)
        clear hK K hY
        refine takeH12 18 29 (.bool false) rfl rfl (by kernel_rfl) (by kernel_rfl) (by kernel_rfl) (fun _ _ _ h => h) (Or.inl ⟨by kernel_rfl, fun W _ => by go_simp⟩) hS ?_
        simp only [Act.put, List.setIfInBounds_toArray, List.set_cons_zero, List.set_cons_succ]
        refine takeH12 19 30 (.bool false) rfl rfl (by kernel_rfl) (by kernel_rfl) (by kernel_rfl) (fun _ _ _ h => h) (Or.inl ⟨by kernel_rfl, fun W _ => by go_simp⟩) hS ?_
        simp only [Act.put, List.setIfInBounds_toArray, List.set_cons_zero, List.set_cons_succ]
        refine takeH12 20 31 (.bool false) rfl rfl (by kernel_rfl) (by kernel_rfl) (by kernel_rfl) (fun _ _ _ h => h) (Or.inl ⟨by kernel_rfl, fun W _ => by go_simp⟩) hS ?_
        simp only [Act.put, List.setIfInBounds_toArray, List.set_cons_zero, List.set_cons_succ]
        refine wpAnyH_done (by kernel_rfl) ?_ _
        have hk5 := ((hS1 _).1 hS).2.1
        have HF := hideT (bel HQ.out ((hS1 _).1 hS).2.2.2)
        go_wp2
        go_ret
        exact ⟨by rw [HX.out]; rfl, HF.out⟩
  · have HX := hideT (only_none (nl := nl) hlen)
    have hlI : ((kidsR14 ns (top : Int)).length : Int) ≠ 1 := by omega
    obtain ⟨ka, kc, rfl⟩ := hrd.form
    clear hrd hO1 hb1 HK HV0 HN0 HMem hlen
    generalize hks : kidsR14 ns (top : Int) = ks at *
    clear hks
    obtain ⟨S, hS1⟩ : ∃ S : World → Prop, ∀ W, S W ↔ Below w1.heap.size w1 W := ⟨_, fun _ => Iff.rfl⟩
    refine wp_region_held_drew (S := S) (by kernel_rfl) ((hS1 _).2 ((Below.refl _ _).drew)) (fun hS => ?_)
    refine takeH12 0 11 (.slice ka ks.length kc) rfl rfl (by kernel_rfl) (by kernel_rfl) (by kernel_rfl) (fun _ _ _ h => h) (Or.inl ⟨by kernel_rfl, fun W _ => by go_simp⟩) hS ?_
    simp only [Act.put, List.setIfInBounds_toArray, List.set_cons_zero, List.set_cons_succ]
    refine takeH12 1 12 (.int .i64 (ks.length : Int)) rfl rfl (by kernel_rfl) (by kernel_rfl) (by kernel_rfl) (fun _ _ _ h => h) (Or.inl ⟨by kernel_rfl, fun W _ => by go_simp⟩) hS ?_
    simp only [Act.put, List.setIfInBounds_toArray, List.set_cons_zero, List.set_cons_succ]
    refine takeH12 2 13 (.bool true) rfl rfl (by kernel_rfl) (by kernel_rfl) (by kernel_rfl) (fun _ _ _ h => h) (Or.inl ⟨by kernel_rfl, fun W _ => by go_simp; (try (first | omega | simp_all))⟩) hS ?_
    simp only [Act.put, List.setIfInBounds_toArray, List.set_cons_zero, List.set_cons_succ]
    refine takeH12 3 14 (.bool true) rfl rfl (by kernel_rfl) (by kernel_rfl) (by kernel_rfl) (fun _ _ _ h => h) (Or.inl ⟨by kernel_rfl, fun W _ => by go_simp⟩) hS ?_
    simp only [Act.put, List.setIfInBounds_toArray, List.set_cons_zero, List.set_cons_succ]
    refine takeH12 4 15 (undef) rfl rfl (by kernel_rfl) (by kernel_rfl) (by kernel_rfl) (fun _ _ _ h => h) (Or.inr ⟨by kernel_rfl, rfl⟩) hS ?_
    simp only [Act.put, List.setIfInBounds_toArray, List.set_cons_zero, List.set_cons_succ]
    refine takeH12 5 16 (undef) rfl rfl (by kernel_rfl) (by kernel_rfl) (by kernel_rfl) (fun _ _ _ h => h) (Or.inr ⟨by kernel_rfl, rfl⟩) hS ?_
    simp only [Act.put, List.setIfInBounds_toArray, List.set_cons_zero, List.set_cons_succ]
    refine takeH12 6 17 (undef) rfl rfl (by kernel_rfl) (by kernel_rfl) (by kernel_rfl) (fun _ _ _ h => h) (Or.inr ⟨by kernel_rfl, rfl⟩) hS ?_
    simp only [Act.put, List.setIfInBounds_toArray, List.set_cons_zero, List.set_cons_succ]
    refine takeH12 7 18 (undef) rfl rfl (by kernel_rfl) (by kernel_rfl) (by kernel_rfl) (fun _ _ _ h => h) (Or.inr ⟨by kernel_rfl, rfl⟩) hS ?_
    simp only [Act.put, List.setIfInBounds_toArray, List.set_cons_zero, List.set_cons_succ]
    refine takeH12 8 19 (undef) rfl rfl (by kernel_rfl) (by kernel_rfl) (by kernel_rfl) (fun _ _ _ h => h) (Or.inr ⟨by kernel_rfl, rfl⟩) hS ?_
    simp only [Act.put, List.setIfInBounds_toArray, List.set_cons_zero, List.set_cons_succ]
    refine takeH12 9 20 (undef) rfl rfl (by kernel_rfl) (by kernel_rfl) (by kernel_rfl) (fun _ _ _ h => h) (Or.inr ⟨by kernel_rfl, rfl⟩) hS ?_
    simp only [Act.put, List.setIfInBounds_toArray, List.set_cons_zero, List.set_cons_succ]
    refine takeH12 10 21 (undef) rfl rfl (by kernel_rfl) (by kernel_rfl) (by kernel_rfl) (fun _ _ _ h => h) (Or.inr ⟨by kernel_rfl, rfl⟩) hS ?_
    simp only [Act.put, List.setIfInBounds_toArray, List.set_cons_zero, List.set_cons_succ]
    refine takeH12 11 22 (undef) rfl rfl (by kernel_rfl) (by kernel_rfl) (by kernel_rfl) (fun _ _ _ h => h) (Or.inr ⟨by kernel_rfl, rfl⟩) hS ?_
    simp only [Act.put, List.setIfInBounds_toArray, List.set_cons_zero, List.set_cons_succ]
    refine takeH12 12 23 (undef) rfl rfl (by kernel_rfl) (by kernel_rfl) (by kernel_rfl) (fun _ _ _ h => h) (Or.inr ⟨by kernel_rfl, rfl⟩) hS ?_
    simp only [Act.put, List.setIfInBounds_toArray, List.set_cons_zero, List.set_cons_succ]
    refine takeH12 13 24 (undef) rfl rfl (by kernel_rfl) (by kernel_rfl) (by kernel_rfl) (fun _ _ _ h => h) (Or.inr ⟨by kernel_rfl, rfl⟩) hS ?_
    simp only [Act.put, List.setIfInBounds_toArray, List.set_cons_zero, List.set_cons_succ]
    refine takeH12 14 25 (undef) rfl rfl (by kernel_rfl) (by kernel_rfl) (by kernel_rfl) (fun _ _ _ h => h) (Or.inr ⟨by kernel_rfl, rfl⟩) hS ?_
    simp only [Act.put, List.setIfInBounds_toArray, List.set_cons_zero, List.set_cons_succ]
    refine takeH12 15 26 (undef) rfl rfl (by kernel_rfl) (by kernel_rfl) (by kernel_rfl) (fun _ _ _ h => h) (Or.inr ⟨by kernel_rfl, rfl⟩) hS ?_
    simp only [Act.put, List.setIfInBounds_toArray, List.set_cons_zero, List.set_cons_succ]
    refine takeH12 16 27 (undef) rfl rfl (by kernel_rfl) (by kernel_rfl) (by kernel_rfl) (fun _ _ _ h => h) (Or.inr ⟨by kernel_rfl, rfl⟩) hS ?_
    simp only [Act.put, List.setIfInBounds_toArray, List.set_cons_zero, List.set_cons_succ]
    refine takeH12 17 28 (undef) rfl rfl (by kernel_rfl) (by kernel_rfl) (by kernel_rfl) (fun _ _ _ h => h) (Or.inr ⟨by kernel_rfl, rfl⟩) hS ?_
    simp only [Act.put, List.setIfInBounds_toArray, List.set_cons_zero, List.set_cons_succ]
    refine takeH12 18 29 (undef) rfl rfl (by kernel_rfl) (by kernel_rfl) (by kernel_rfl) (fun _ _ _ h => h) (Or.inr ⟨by kernel_rfl, rfl⟩) hS ?_
    simp only [Act.put, List.setIfInBounds_toArray, List.set_cons_zero, List.set_cons_succ]
    refine takeH12 19 30 (undef) rfl rfl (by kernel_rfl) (by kernel_rfl) (by kernel_rfl) (fun _ _ _ h => h) (Or.inr ⟨by kernel_rfl, rfl⟩) hS ?_
    simp only [Act.put, List.setIfInBounds_toArray, List.set_cons_zero, List.set_cons_succ]
    refine takeH12 20 31 (.bool true) rfl rfl (by kernel_rfl) (by kernel_rfl) (by kernel_rfl) (fun _ _ _ h => h) (Or.inl ⟨by kernel_rfl, fun W _ => by go_simp⟩) hS ?_
    simp only [Act.put, List.setIfInBounds_toArray, List.set_cons_zero, List.set_cons_succ]
    refine wpAnyH_done (by kernel_rfl) ?_ _
    have HF := hideT (bel HQ.out ((hS1 _).1 hS))
    go_wp2
    go_ret
    exact ⟨by rw [HX.out]; rfl, HF.out⟩
set_option maxHeartbeats 2000000 in
set_option maxRecDepth 100000 in
theorem ROnly14_any (ns : List Nd) (v : Value) (at_ : Int) (nl : List (List UInt8)) (nv : Value) (w : World) (hv : ReadsN w v ns) (hf : Fair14 ns) (hk : ns.length ≤ 4096 → ∀ i, i < ns.length → (Tre.ndAt ns i).kids.length ≤ 140737488351232) (hn : ReadsTexts w nv nl) (hnl : nl.length ≤ 1000000) :
    Calls Try.prog 27 #[.agg #[v], .int .i64 at_, nv] w fun e w' => e = .returned (.int .i64 (onlyR14 ns at_ nl)) ∧ Below w.heap.size w w' := by
  obtain ⟨a, c, rfl⟩ := hv.form
  have hb0 : Below w.heap.size w (w.alloc (.cells #[.slice a ns.length c] 24)) := (Below.refl _ _).alloc (Nat.le_refl _) _
  have cc0 := doc_cell (heap_new w (.cells #[.slice a ns.length c] 24))
  have lc := cell_lt cc0
  have HI := hideT (RIs14_any ns _ at_ _ (hv.below hb0) hf hk)
  have HB0 := hideT hb0
  cases hp : Lk.placeB ns at_
  · have HX : Hid (onlyR14 ns at_ nl = -1) := by
      show _ = _
      refine only_none ?_
      unfold kidsR14
      rw [hp]
      simp
    rw [hp] at HI
    clear hv hb0 hf hp lc hk hn
    go_enter Try.func27, Try.ntmps27
    go_wp2_with (go_at_call 28; refine HI.out.mono ?_; rintro e w1 ⟨rfl, b1⟩; have HQ := hideT (bel HB0.out b1); clear b1)
    go_ret
    exact ⟨by rw [HX.out]; rfl, HQ.out⟩
  · obtain ⟨i, rfl, hi, hm⟩ := Lk.place_yes hp
    have hn4 := hf.few hm
    rw [hp] at HI
    have HP := hideT (fun W (h : Below (w.alloc (.cells #[.slice a ns.length c] 24)).heap.size (w.alloc (.cells #[.slice a ns.length c] 24)) W) => ROnlyIn14_any ns _ i nl nv W ((hv.below hb0).below h) hm hn4 hi (ReadsTexts13.below (ReadsTexts13.below hn hb0) h) hnl)
    clear hv hb0 hf hp hm hk hn
    go_enter Try.func27, Try.ntmps27
    go_wp2_with (first
      | (go_at_call 28; refine HI.out.mono ?_; rintro e w1 ⟨rfl, b1⟩; have HQ := hideT (bel HB0.out b1); have HP1 := hideT (HP.out w1 b1); have cc1 := (b1.cell (p := ⟨w.heap.size, 0, none⟩) lc).trans cc0; clear b1 HI HP)
      | (go_at_call 47; refine HP1.out.mono ?_; rintro e w3 ⟨rfl, b3⟩; have HB3 := hideT (bel HQ.out b3); clear b3))
    go_ret
    exact ⟨rfl, HB3.out⟩
end Go.Proofs.Ytoiedadfpbbdgaa
