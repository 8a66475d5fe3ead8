/- Texts laid as one. -/
import Derived.Test.YtoiedadfpbbdgaaGreatKTreTV
import Derived.Test.YtoiedadfpbbdgaaGreatKLkM
import Derived.Test.YtoiedadfpbbdgaaGreatKTreNW
import Derived.Test.YtoiedadfpbbdgaaGreatKTrqCG
import Derived.Test.YtoiedadfpbbdgaaGreatKTreH
import Derived.Test.YtoiedadfpbbdgaaGreatKTrJK
import Derived.Test.YtoiedadfpbbdgaaGreatKArgDoc
/- What the laws' far counts of a document; its contract. -/
set_option linter.unusedVariables false
set_option linter.unusedSimpArgs false
namespace Tre
def wAt (p : At) : Nat := min p.1.length 3000 + min p.2.length 3000 + 1
def aTo (ats : List At) (j : Nat) : Nat := ((ats.take j).map wAt).sum
def wNd (n : Nd) : Nat := min n.name.length 3000 + min n.text.length 3000 + min n.kids.length 3000 + aTo n.attrs 100
def nTo (ns : List Nd) (j : Nat) : Nat := ((ns.take j).map wNd).sum
/-- What far answers. -/
def farD (ns : List Nd) : Bool := (ns.take 200).any (fun n => decide (100 < n.attrs.length)) || (decide (3000 < nTo ns 200) || (decide (200 < ns.length) && decide (ns.length ≤ 4096)))
theorem aTo_next (ats : List At) (j : Nat) (h : j < ats.length) : aTo ats (j + 1) = aTo ats j + wAt ats[j] := by
  unfold aTo
  rw [List.take_add_one, List.getElem?_eq_getElem h, List.map_append, List.sum_append]
  simp
theorem aTo_le (ats : List At) (j : Nat) : aTo ats j ≤ 6001 * j := by
  induction j with
  | zero => simp [aTo]
  | succ j ih =>
    by_cases h : j < ats.length
    · rw [aTo_next ats j h]
      have : wAt ats[j] ≤ 6001 := by unfold wAt; omega
      omega
    · have e : aTo ats (j + 1) = aTo ats j := by
        unfold aTo
        rw [List.take_of_length_le (by omega), List.take_of_length_le (by omega)]
      omega
theorem nTo_next (ns : List Nd) (j : Nat) (h : j < ns.length) : nTo ns (j + 1) = nTo ns j + wNd (ndAt ns j) := by
  unfold nTo
  rw [List.take_add_one, ndAt_get h]
  simp
theorem nTo_le (ns : List Nd) (j : Nat) : nTo ns j ≤ 700000 * j := by
  induction j with
  | zero => simp [nTo]
  | succ j ih =>
    by_cases h : j < ns.length
    · rw [nTo_next ns j h]
      have : wNd (ndAt ns j) ≤ 700000 := by
        unfold wNd
        have := aTo_le (ndAt ns j).attrs 100
        omega
      omega
    · have e : nTo ns (j + 1) = nTo ns j := by
        unfold nTo
        rw [List.take_of_length_le (by omega), List.take_of_length_le (by omega)]
      omega
theorem farD_big {ns : List Nd} {j : Nat} (hj : j < ns.length) (h2 : j < 200) (h : 100 < (ndAt ns j).attrs.length) : farD ns = true := by
  unfold farD
  have : (ns.take 200).any (fun n => decide (100 < n.attrs.length)) = true := by
    rw [List.any_eq_true]
    refine ⟨ndAt ns j, ?_, decide_eq_true h⟩
    refine List.mem_of_getElem? (i := j) ?_
    rw [List.getElem?_take, if_pos h2, ndAt_get hj]
  rw [this, Bool.true_or]
theorem farD_no {ns : List Nd} (h : farD ns = false) : (ns.length ≤ 200 ∨ 4096 < ns.length) ∧ ∀ i, i < ns.length → i < 200 → (ndAt ns i).attrs.length ≤ 100 := by
  refine ⟨?_, fun i hi h2 => ?_⟩
  · unfold farD at h
    simp only [Bool.or_eq_false_iff, Bool.and_eq_false_iff, decide_eq_false_iff_not] at h
    omega
  · rcases Nat.lt_or_ge 100 (ndAt ns i).attrs.length with h3 | h3
    · rw [farD_big hi h2 h3] at h
      cases h
    · exact h3
end Tre
namespace Go.Proofs.YtoiedadfpbbdgaaGreat
open Go.RowKit
end Go.Proofs.YtoiedadfpbbdgaaGreat
/- A tree that is not far has no great node, and no great text. -/
namespace Tre
theorem sumTo_one_le {f : Nat → Nat} {i : Nat} : ∀ n, i < n → f i ≤ sumTo f n
  | 0, h => by omega
  | n + 1, h => by
    rw [sumTo]
    by_cases e : i = n
    · subst e; omega
    · have := sumTo_one_le (f := f) n (by omega : i < n); omega
theorem sumTo_two {f : Nat → Nat} {i u : Nat} (hne : i ≠ u) : ∀ n, i < n → u < n → f i + f u ≤ sumTo f n
  | 0, h, _ => by omega
  | n + 1, h, h2 => by
    rw [sumTo]
    by_cases e : i = n
    · subst e
      have := sumTo_one_le (f := f) (i := u) i (by omega); omega
    · by_cases e2 : u = n
      · subst e2
        have := sumTo_one_le (f := f) (i := i) u (by omega); omega
      · have := sumTo_two (f := f) hne n (by omega) (by omega); omega
theorem nTo_sum {ns : List Nd} : ∀ n, n ≤ ns.length → nTo ns n = sumTo (fun i => wNd (ndAt ns i)) n
  | 0, _ => by simp [nTo, sumTo]
  | n + 1, h => by rw [nTo_next ns n (by omega), nTo_sum n (by omega), sumTo]
theorem wt_wAt : ∀ ats : List At, (ats.map wAt).sum ≤ 2999 → Tk.wt ats ≤ (ats.map wAt).sum
  | [], _ => by simp [Tk.wt]
  | a :: l, h => by
    rw [List.map_cons, List.sum_cons] at h ⊢
    have ih := wt_wAt l (by omega)
    have e : Tk.wt (a :: l) = a.1.length + a.2.length + Tk.wt l := by unfold Tk.wt; rw [List.map_cons, List.sum_cons]
    have ha : wAt a = min a.1.length 3000 + min a.2.length 3000 + 1 := rfl
    omega
end Tre
namespace Go.Proofs.YtoiedadfpbbdgaaGreat
open Go.RowKit
theorem far_least {ns : List Nd} (h : Tre.farD ns = false) (hm : Tre.mayB ns = true) {i : Nat} (hi : i < ns.length) : leastN (Tre.ndAt ns i) ≤ 3000 ∧ (Tre.ndAt ns i).attrs.length ≤ 100 := by
  have hl4 := ((Tre.mayB_iff ns).1 hm).1.2
  have hl := (Tre.farD_no h).1
  have hats := (Tre.farD_no h).2 i hi (by omega)
  refine ⟨?_, hats⟩
  by_cases h0 : i = 0
  · subst h0
    have hs := Tre.may_shape hm hi
    unfold Tre.shapeB Tre.rootB at hs
    simp only [if_pos, Bool.and_eq_true, beq_iff_eq] at hs
    obtain ⟨_, _, h3, h4, h5⟩ := hs
    unfold leastN
    rw [h3, h5, List.length_eq_zero_iff.1 h4]
    simp [Tk.wt]
  · have hs : Tre.nTo ns 200 ≤ 3000 := by
      unfold Tre.farD at h
      simp only [Bool.or_eq_false_iff, decide_eq_false_iff_not] at h
      omega
    have e : Tre.nTo ns 200 = Tre.nTo ns ns.length := by
      unfold Tre.nTo
      rw [List.take_of_length_le (by omega), List.take_of_length_le (Nat.le_refl _)]
    rw [e, Tre.nTo_sum _ (Nat.le_refl _)] at hs
    have hu := Tre.may_up hm hi h0
    obtain ⟨u, hue⟩ : ∃ u : Nat, (Tre.ndAt ns i).up = (u : Int) := ⟨(Tre.ndAt ns i).up.toNat, by omega⟩
    have hul : u < ns.length := by omega
    have h2 := Tre.sumTo_two (f := fun i => Tre.wNd (Tre.ndAt ns i)) (i := i) (u := u) (by omega) ns.length hi hul
    have hk : 1 ≤ (Tre.ndAt ns u).kids.length := by
      rw [Tre.may_kids hm hul]
      exact List.length_pos_iff.2 (List.ne_nil_of_mem (Tre.kidsTo_has hue _ hi))
    have hw : 1 ≤ Tre.wNd (Tre.ndAt ns u) := by unfold Tre.wNd; omega
    have hwi : Tre.wNd (Tre.ndAt ns i) ≤ 2999 := by omega
    unfold Tre.wNd Tre.aTo at hwi
    rw [List.take_of_length_le (by omega : (Tre.ndAt ns i).attrs.length ≤ 100)] at hwi
    have h3 := Tre.wt_wAt (Tre.ndAt ns i).attrs (by omega)
    unfold leastN
    omega
theorem far_few {ns : List Nd} (h : Tre.farD ns = false) (hm : Tre.mayB ns = true) : Few ns := fun i hi => by
  have := far_least h hm hi
  exact ⟨by omega, by omega⟩
theorem far_own {ns : List Nd} (h : Tre.farD ns = false) (hm : Tre.mayB ns = true) : ∀ i, i < ns.length → Tre.own ns i ≤ 2000000000 := fun i hi => by
  have hl := (far_least h hm hi).1
  unfold Tre.own
  rcases may_form hm hi with ⟨h1, _, h3, h4⟩ | ⟨h1, h2, h3⟩
  · rw [if_pos h1]
    have he := Rf.enc_len false (Tre.ndAt ns i).text
    unfold leastN at hl
    split <;> omega
  · rw [if_neg h1]
    have hb := start_bears (n := Tre.ndAt ns i) (by omega) h3
    have h5 := hb.2.2.1
    have h6 := hb.2.2.2
    split <;> omega
/-- No node's text is too long to be counted. -/
theorem far_text {ns : List Nd} (h : Tre.farD ns = false) (hm : Tre.mayB ns = true) : ∀ i, i < ns.length → (Tre.nodeT ns i).length ≤ 10000000000000 := fun i hi => by
  have := Tre.all_len_le hm 2000000000 (far_own h hm) i hi
  omega
end Go.Proofs.YtoiedadfpbbdgaaGreat
/- The contracts of the reference's raw, node, inner, Write (written by tools/mktrqk.py). -/
namespace Go.Proofs.YtoiedadfpbbdgaaGreat
open Go.RowKit
set_option maxHeartbeats 2000000 in
set_option maxRecDepth 100000 in
theorem Rraw_any {ns : List Nd} (hm : Tre.mayB ns = true) (v : Value) (i : Nat) (w : World) (hv : ReadsN w v ns) (hi : i < ns.length) :
    Calls Tryz.prog 75 #[.agg #[v], .int .i64 (i : Int)] w fun e w' => e = .returned (.bool (Tre.rawB ns (Tre.ndAt ns i))) ∧ Below w.heap.size w w' := by
  obtain ⟨a, c, rfl⟩ := hv.form
  have hb0 : Below w.heap.size w (w.alloc (.cells #[.slice a ns.length c] 24)) := (Below.refl _ _).alloc (Nat.le_refl _) _
  have cc0 := doc_one (heap_new w (.cells #[.slice a ns.length c] 24))
  have hn4 := ((Tre.mayB_iff ns).1 hm).1.2
  obtain ⟨b, o, rfl, hc, hbl, hall⟩ := (hv.below hb0).spot (by omega)
  obtain ⟨aa, ac, ka, kc, hr⟩ := hall i hi
  have c4 := hr.c4
  have hup : (Tre.ndAt ns i).up < (ns.length : Int) := by
    by_cases h0 : i = 0
    · have := Tre.root_up hm
      rw [h0]; omega
    · have := Tre.may_up hm hi h0
      omega
  have HX : Hid (Tre.rawB ns (Tre.ndAt ns i) = (decide (0 ≤ (Tre.ndAt ns i).up) && ((Tre.ndAt ns (Tre.ndAt ns i).up.toNat).name == Tre.script || (Tre.ndAt ns (Tre.ndAt ns i).up.toNat).name == Tre.style))) := rfl
  clear hr hv hm
  generalize (Tre.ndAt ns i).up = up at *
  by_cases h0 : 0 ≤ up
  · obtain ⟨u, rfl⟩ : ∃ u : Nat, up = (u : Int) := ⟨up.toNat, by omega⟩
    have hu : u < ns.length := by omega
    obtain ⟨aa2, ac2, ka2, kc2, hr2⟩ := hall u hu
    have c1 := hr2.c1
    have e : ((u : Int)).toNat = u := by omega
    rw [e, decide_eq_true h0, Bool.true_and] at HX
    clear hr2 hall e hup
    generalize (Tre.ndAt ns u).name = nm at *
    by_cases n1 : nm = Tre.script
    · have q1 : ((str nm).toList == [115, 99, 114, 105, 112, 116]) = true := lit13_yes n1
      have hB : (nm == Tre.script || nm == Tre.style) = true := by rw [n1]; rfl
      rw [hB] at HX
      clear n1 hB
      go_enter Tryz.func75, Tryz.ntmps75
      go_wp2
      go_ret
      exact ⟨ret_bool HX.out.symm, hb0⟩
    · have q1 : ((str nm).toList == [115, 99, 114, 105, 112, 116]) = false := lit13_no n1
      have m1 : (nm == Tre.script) = false := beq_eq_false_iff_ne.2 n1
      rw [m1, Bool.false_or] at HX
      clear m1
      by_cases n2 : nm = Tre.style
      · have q2 : ((str nm).toList == [115, 116, 121, 108, 101]) = true := lit13_yes n2
        have hB : (nm == Tre.style) = true := by rw [n2]; rfl
        rw [hB] at HX
        clear n1 n2 hB
        go_enter Tryz.func75, Tryz.ntmps75
        go_wp2
        go_ret
        exact ⟨ret_bool HX.out.symm, hb0⟩
      · have q2 : ((str nm).toList == [115, 116, 121, 108, 101]) = false := lit13_no n2
        have hB : (nm == Tre.style) = false := beq_eq_false_iff_ne.2 n2
        rw [hB] at HX
        clear n1 n2 hB
        go_enter Tryz.func75, Tryz.ntmps75
        go_wp2
        go_ret
        exact ⟨ret_bool HX.out.symm, hb0⟩
  · rw [decide_eq_false h0, Bool.false_and] at HX
    clear hall hup
    go_enter Tryz.func75, Tryz.ntmps75
    go_wp2
    go_ret
    exact ⟨ret_bool HX.out.symm, hb0⟩
section
variable {ns : List Nd} {w0 : World} {a0 : Option Addr} {c0 : Nat}
def RNodeC (ns : List Nd) (w0 : World) (nv : Value) (i : Nat) : Prop := ∀ w, Below w0.heap.size w0 w → Calls Tryz.prog 44 #[.agg #[nv], .int .i64 (i : Int)] w fun e w' => e = .returned (.string (str (Tre.nodeT ns i))) ∧ Below w.heap.size w w'
def RInnerC (ns : List Nd) (w0 : World) (nv : Value) (i : Nat) : Prop := ∀ w, Below w0.heap.size w0 w → Calls Tryz.prog 45 #[.agg #[nv], .int .i64 (i : Int)] w fun e w' => e = .returned (.string (str (Tre.innerT ns i))) ∧ Below w.heap.size w w'
set_option maxHeartbeats 4000000 in
set_option maxRecDepth 100000 in
theorem Rinner_any (hns : ReadsN w0 (.slice a0 ns.length c0) ns) (hm : Tre.mayB ns = true) {i : Nat} (hi : i < ns.length) (hlen : (Tre.innerT ns i).length ≤ 10000000000000) (hk : ∀ k, i < k → k < ns.length → RNodeC ns w0 (.slice a0 ns.length c0) k) : RInnerC ns w0 (.slice a0 ns.length c0) i := by
  intro w hw
  have hv := hns.below hw
  have hb0 : Below w.heap.size w (w.alloc (.cells #[.slice a0 ns.length c0] 24)) := (Below.refl _ _).alloc (Nat.le_refl _) _
  have cc0 := doc_one (heap_new w (.cells #[.slice a0 ns.length c0] 24))
  have hn4 := ((Tre.mayB_iff ns).1 hm).1.2
  obtain ⟨b, o, aa, ac, ka, kc, rfl, hc, hr⟩ := (hv.below hb0).at hi
  have c5 := hr.c5
  have hkl : (Tre.ndAt ns i).kids.length ≤ 4096 := by
    rw [Tre.may_kids hm hi]
    exact Nat.le_trans (Tre.kidsTo_le ns i _) hn4
  have HKD := hideT hr.kds
  have HMem := hideT (fun k hk => Tre.may_kid hm hi (k := k) hk)
  have HKC := hideT hk
  have HW := hideT hw
  have hXI : Tre.innerT ns i = (Tre.ndAt ns i).kids.flatMap fun k => Tre.nodeT ns k.toNat := rfl
  rw [hXI] at hlen
  have HXI := hideT hXI
  have HPre := hideT (fun j => inner_le (Tre.ndAt ns i).kids (fun k => Tre.nodeT ns k.toNat) j)
  have HTake := hideT (fun j h => inner_take (Tre.ndAt ns i).kids (fun k => Tre.nodeT ns k.toNat) j h)
  have HLen := hideT hlen
  have HB0 := hideT hb0
  clear hr hv hb0 hm hk hw hXI hlen
  generalize (Tre.ndAt ns i).kids = ks at *
  go_enter Tryz.func45, Tryz.ntmps45
  go_wp2
  generalize hW0 : (w.alloc (.cells #[.slice (some ⟨b, o, none⟩) ns.length c0] 24)) = W0 at *
  clear hW0 c5
  go_loopw [5, 7] (fun s i wr => ∃ j : Nat, s = .string (str ((ks.take j).flatMap fun k => Tre.nodeT ns k.toNat)) ∧ i = .int .i64 j ∧ j ≤ ks.length ∧ Hid (Below W0.heap.size W0 wr)) (fun _ i _ => ks.length - (intOf i).toNat)
  case atStart => exact ⟨0, rfl, rfl, Nat.zero_le _, Below.refl _ _⟩
  case round =>
    obtain ⟨j, rfl, rfl, hj, HB⟩ := hrel
    rename World => X
    by_cases hjl : j < ks.length
    · have hat : ks[j]? = some ks[j] := List.getElem?_eq_getElem hjl
      obtain ⟨kb, ko, rfl, hkc, hkb, hcell⟩ := (HKD.out.below HB.out).at hat
      obtain ⟨kx, hkx, hik, hkn, _⟩ := HMem.out ks[j] (List.getElem_mem hjl)
      have HT : Hid ((ks.take (j + 1)).flatMap (fun k => Tre.nodeT ns k.toNat) = (ks.take j).flatMap (fun k => Tre.nodeT ns k.toNat) ++ Tre.nodeT ns kx) := by
        show _ = _
        rw [HTake.out j hjl, hkx, Int.toNat_natCast]
      rw [hkx] at hcell
      have HC := hideT (fun W (h : Below w.heap.size w W) => HKC.out kx hik hkn W (HW.out.trans (h.mono HW.out.size)))
      have hl1 := HPre.out (j + 1)
      have hl2 := HLen.out
      have hl3 := congrArg List.length HT.out
      rw [List.length_append] at hl3
      have ccX := (HB.out.cell (p := ⟨w.heap.size, 0, none⟩) (cell_lt cc0)).trans cc0
      have hjn : (j : Int) < (ks.length : Int) := by omega
      have HJ : Hid (j + 1 ≤ ks.length) := hjl
      clear hat hkx hkb HTake HMem HKC
      generalize Tre.nodeT ns kx = tx at *
      obtain ⟨sx, hsx⟩ : ∃ sx, (ks.take j).flatMap (fun k => Tre.nodeT ns k.toNat) = sx := ⟨_, rfl⟩
      rw [hsx] at hl3 HT ⊢
      have hcat : str sx ++ str tx = str (sx ++ tx) := by
        apply str_eq
        rw [ByteArray.data_append]
        simp [str]
      have s1 := str_size sx
      have s2 := str_size tx
      have hov : ¬ 9223372036854775807 < sx.length + tx.length := by omega
      clear hl1 hl2 hl3 hsx
      obtain ⟨S, hS1⟩ : ∃ S : World → Prop, ∀ W, S W ↔ W.cell? ⟨w.heap.size, 0, none⟩ = some (.slice (some ⟨b, o, none⟩) ns.length c0) ∧ W.cell? ⟨kb, ko + j, none⟩ = some (.int .i64 (kx : Int)) ∧ Below W0.heap.size W0 W := ⟨_, fun _ => Iff.rfl⟩
      have step : ∀ W W', S W → Below W.heap.size W W' → S W' := fun W W' h hb => by
        obtain ⟨h1, h2, h3⟩ := (hS1 W).1 h
        exact (hS1 W').2 ⟨(hb.cell (p := ⟨w.heap.size, 0, none⟩) (cell_lt h1)).trans h1, (hb.cell (p := ⟨kb, ko + j, none⟩) (cell_lt h2)).trans h2, bel h3 hb⟩
      go_upto_region 6 with fail
      refine wp_region_held_drew (S := S) (by kernel_rfl) (step _ _ ((hS1 _).2 ⟨ccX, hcell, HB.out⟩) ((Below.refl _ _).drew)) (fun hS => ?_)
      clear ccX hcell
      refine takeH12 0 20 (.string (str sx)) rfl rfl (by kernel_rfl) (by kernel_rfl) (by kernel_rfl) (fun _ _ _ h => h) (Or.inl ⟨by kernel_rfl, fun W _ => by go_simp⟩) hS ?_
      simp only [Act.put, List.setIfInBounds_toArray, List.set_cons_zero, List.set_cons_succ]
      refine takeH12 1 21 (.agg #[.slice (some ⟨b, o, none⟩) ns.length c0]) rfl rfl (by kernel_rfl) (by kernel_rfl) (by kernel_rfl) (fun _ _ _ h => h) (Or.inl ⟨by kernel_rfl, fun W hW => by have hc := (((hS1 W).1 hW).1); go_simp⟩) hS ?_
      simp only [Act.put, List.setIfInBounds_toArray, List.set_cons_zero, List.set_cons_succ]
      refine takeH12 2 22 (.slice (some ⟨kb, ko, none⟩) ks.length kc) rfl rfl (by kernel_rfl) (by kernel_rfl) (by kernel_rfl) (fun _ _ _ h => h) (Or.inl ⟨by kernel_rfl, fun W _ => by go_simp⟩) hS ?_
      simp only [Act.put, List.setIfInBounds_toArray, List.set_cons_zero, List.set_cons_succ]
      refine takeH12 3 23 (.int .i64 (j : Int)) rfl rfl (by kernel_rfl) (by kernel_rfl) (by kernel_rfl) (fun _ _ _ h => h) (Or.inl ⟨by kernel_rfl, fun W _ => by go_simp⟩) hS ?_
      simp only [Act.put, List.setIfInBounds_toArray, List.set_cons_zero, List.set_cons_succ]
      refine takeH12 4 24 (.pointer (some ⟨kb, ko + j, none⟩)) rfl rfl (by kernel_rfl) (by kernel_rfl) (by kernel_rfl) (fun _ _ _ h => h) (Or.inl ⟨by kernel_rfl, fun W _ => by go_simp⟩) hS ?_
      simp only [Act.put, List.setIfInBounds_toArray, List.set_cons_zero, List.set_cons_succ]
      refine takeH12 5 25 (.int .i64 (kx : Int)) rfl rfl (by kernel_rfl) (by kernel_rfl) (by kernel_rfl) (fun _ _ _ h => h) (Or.inl ⟨by kernel_rfl, fun W hW => by have hc := (((hS1 W).1 hW).2.1); go_simp⟩) hS ?_
      simp only [Act.put, List.setIfInBounds_toArray, List.set_cons_zero, List.set_cons_succ]
      refine wpAnyH_ready (rs := [6]) (by kernel_rfl) (by simp) ?_
      refine AllReadyH.cons rfl (fun K hK => ?_) AllReadyH.nil
      go_simp
      refine (HC.out _ (bel HB0.out ((hS1 _).1 hS).2.2)).mono ?_
      rintro e w5 ⟨rfl, hY⟩
      refine hK.out _ _ (step _ _ hS hY) (fun hS => ?_)
      clear hK K hY
      refine takeH12 7 27 (.string (str (sx ++ tx))) rfl rfl (by kernel_rfl) (by kernel_rfl) (by kernel_rfl) (fun _ _ _ h => h) (Or.inl ⟨by kernel_rfl, fun W _ => by go_simp⟩) hS ?_
      simp only [Act.put, List.setIfInBounds_toArray, List.set_cons_zero, List.set_cons_succ]
      refine takeH12 8 5 (.string (str (sx ++ tx))) rfl rfl (by kernel_rfl) (by kernel_rfl) (by kernel_rfl) (fun _ _ _ h => h) (Or.inl ⟨by kernel_rfl, fun W _ => by go_simp⟩) hS ?_
      simp only [Act.put, List.setIfInBounds_toArray, List.set_cons_zero, List.set_cons_succ]
      refine wpAnyH_done (by kernel_rfl) ?_ _
      have hfin := hideT ((hS1 _).1 hS).2.2
      go_wp2
      go_roundw
      case rel => exact ⟨j + 1, by rw [HT.out], by go_num, HJ.out, hfin⟩
      case measure => have := HJ.out; simp [intOf]; omega
    · have hje : j = ks.length := by omega
      have hnj : ¬ (j : Int) < (ks.length : Int) := by omega
      have HR : Hid ((ks.take j).flatMap (fun k => Tre.nodeT ns k.toNat) = Tre.innerT ns i) := by
        show _ = _
        rw [hje, List.take_length, HXI.out]
      have HBX := hideT (bel HB0.out HB.out)
      clear hje HB HKD HMem HKC
      go_wp2
      go_ret
      exact ⟨by rw [HR.out]; rfl, HBX.out⟩
theorem bears_text {x : List UInt8} (h : x.length ≤ 100000000) : Bears ⟨0, [], [], false, x⟩ := ⟨Nat.zero_le _, by simp [Tk.tailText], fun a ha => (by cases ha), h, Nat.zero_le _⟩
theorem cat_str (a b : List UInt8) : str a ++ str b = str (a ++ b) := by
  apply str_eq
  rw [ByteArray.data_append]
  simp [str]
set_option maxHeartbeats 4000000 in
set_option maxRecDepth 100000 in
theorem Rnode_any (hns : ReadsN w0 (.slice a0 ns.length c0) ns) (hm : Tre.mayB ns = true) {i : Nat} (hi : i < ns.length) (hlen : (Tre.nodeT ns i).length ≤ 10000000000000) (hle : leastN (Tre.ndAt ns i) ≤ 262144) (hin : (Tre.ndAt ns i).kind ≠ 3 → RInnerC ns w0 (.slice a0 ns.length c0) i) : RNodeC ns w0 (.slice a0 ns.length c0) i := by
  intro w hw
  have hv := hns.below hw
  have hb0 : Below w.heap.size w (w.alloc (.cells #[.slice a0 ns.length c0] 24)) := (Below.refl _ _).alloc (Nat.le_refl _) _
  have cc0 := doc_one (heap_new w (.cells #[.slice a0 ns.length c0] 24))
  have hn4 := ((Tre.mayB_iff ns).1 hm).1.2
  have HV0 := hideT (hv.below hb0)
  obtain ⟨b, o, aa, ac, ka, kc, rfl, hc, hr⟩ := (hv.below hb0).at hi
  have HRaw := hideT (fun W (h : ReadsN W (.slice (some ⟨b, o, none⟩) ns.length c0) ns) => Rraw_any hm _ i W h hi)
  have HB0 := hideT hb0
  have HW := hideT hw
  have hfm := may_form hm hi
  have HAts := hideT hr.ats
  have hrng := hideT hr.rng
  by_cases hk3 : (Tre.ndAt ns i).kind = 3
  · have HX := hideT (Tre.node_text hm hi hk3)
    have htx : (Tre.ndAt ns i).text.length ≤ 262144 := by unfold leastN at hle; omega
    clear hr hfm hin hlen hle hm hv hb0 hw HAts
    generalize Tre.rawB ns (Tre.ndAt ns i) = rb at *
    generalize Tre.ndAt ns i = q at *
    obtain ⟨qk, qn, qa, qx, qu, qs⟩ := q
    simp only at hk3 HX htx
    subst hk3
    have HG := hideT (fun W => RTagI_any 3 [] [] false qx (.slice none 0 0) W (.inl ⟨none, 0, rfl, rfl⟩) (bears_text (by omega)))
    have hE : tagI 3 [] [] false qx = Rf.enc false qx := rfl
    rw [hE] at HG
    clear htx hE
    go_enter Tryz.func44, Tryz.ntmps44
    go_upto_region 1 with fail
    generalize hW0 : (w.alloc (.cells #[.slice (some ⟨b, o, none⟩) ns.length c0] 24)) = W0 at *
    have hbN : Below W0.heap.size W0 (W0.alloc (.cells #[.int .i64 3, .string (str qn), .slice aa qa.length ac, .string (str qx), .int .i64 qu, .slice ka qs.length kc] 32)) := (Below.refl _ _).alloc (Nat.le_refl _) _
    have HV1 := hideT (HV0.out.below hbN)
    have HB1 := hideT (bel HB0.out hbN)
    have cc1 := (hbN.cell (p := ⟨w.heap.size, 0, none⟩) (cell_lt cc0)).trans cc0
    have hq1 := heap_new W0 (.cells #[.int .i64 3, .string (str qn), .slice aa qa.length ac, .string (str qx), .int .i64 qu, .slice ka qs.length kc] 32)
    clear hbN hW0
    cases rb with
    | true =>
      go_upto_region 2 with ((with_reducible show wpList _ _ _ ({ op := Op.load 32 _, .. } :: _) _ _); refine wpList_load_N (by rfl) _ rfl b (o + i * 6) rfl _ _ _ _ _ _ hrng.out ?_)
      generalize (W0.alloc (.cells #[.int .i64 3, .string (str qn), .slice aa qa.length ac, .string (str qx), .int .i64 qu, .slice ka qs.length kc] 32)) = W1 at *
      generalize W0.heap.size = nb at *
      have r0 := Lib.cell_of_heap hq1 0
      have HQ1 := hideT hq1
      have hlt1 := cell_lt r0
      clear hq1 cc0
      go_wp2_with (go_at_call 75; refine (HRaw.out _ HV1.out).mono ?_; rintro e w5 ⟨rfl, h5⟩; have HB5 := hideT (bel HB1.out h5); have r3 := Lib.cell_of_heap ((h5.block _ hlt1).trans HQ1.out) 3; clear h5)
      go_ret
      exact ⟨by rw [HX.out]; rfl, HB5.out⟩
    | false =>
      go_upto_region 2 with ((with_reducible show wpList _ _ _ ({ op := Op.load 32 _, .. } :: _) _ _); refine wpList_load_N (by rfl) _ rfl b (o + i * 6) rfl _ _ _ _ _ _ hrng.out ?_)
      generalize (W0.alloc (.cells #[.int .i64 3, .string (str qn), .slice aa qa.length ac, .string (str qx), .int .i64 qu, .slice ka qs.length kc] 32)) = W1 at *
      generalize W0.heap.size = nb at *
      have r0 := Lib.cell_of_heap hq1 0
      have HQ1 := hideT hq1
      have hlt1 := cell_lt r0
      clear hq1 cc0
      go_wp2_with (first
        | (go_at_call 75; refine (HRaw.out _ HV1.out).mono ?_; rintro e w5 ⟨rfl, h5⟩; have HB5 := hideT (bel HB1.out h5); have r3 := Lib.cell_of_heap ((h5.block _ hlt1).trans HQ1.out) 3; clear h5)
        | (go_at_call 76; refine (HG.out _).mono ?_; rintro e w6 ⟨rfl, h6⟩; have HB6 := hideT (bel HB5.out h6); clear h6))
      go_ret
      exact ⟨by rw [HX.out]; rfl, HB6.out⟩
  · have hX := Tre.node_elem hm hi hk3
    rw [hX] at hlen
    have HX := hideT hX
    have hna : ∀ a ∈ (Tre.ndAt ns i).attrs, a.1 ≠ [] := by
      rcases hfm with h9 | h9
      · exact absurd h9.1 hk3
      · exact h9.2.2
    obtain ⟨hb1, hb2, hl1, hl2⟩ := start_bears hle hna
    have HS1 := hideT (hb1.kind 0)
    have HS2 := hideT (hb2.kind 0)
    have HI0 := hideT (fun W (h : Below w0.heap.size w0 W) => hin hk3 W h)
    simp only [List.length_append] at hlen
    have hli : (Tre.innerT ns i).length ≤ 10000000000000 := by omega
    have hk3n : ((Tre.ndAt ns i).kind == 3) = false := beq_eq_false_iff_ne.2 hk3
    clear hr hfm hin hlen hle hm hv hb0 hw hb1 hb2 hna hX hk3 HRaw
    generalize Tre.innerT ns i = ix at *
    have ht1 : Tk.tagText (Tre.startTok (Tre.ndAt ns i)) = tagI 1 (Tre.ndAt ns i).name (Tre.ndAt ns i).attrs false [] := rfl
    have ht2 : Tk.tagText (Tre.endTok (Tre.ndAt ns i)) = tagI 2 (Tre.ndAt ns i).name [] false [] := rfl
    rw [ht1] at hl1 HX
    rw [ht2] at hl2 HX
    clear ht1 ht2
    generalize Tre.ndAt ns i = q at *
    obtain ⟨qk, qn, qa, qx, qu, qs⟩ := q
    simp only at hl1 hl2 HX hk3n
    have HG0 := hideT (fun W h => RTagI_any 1 qn qa false [] (.slice aa qa.length ac) W h HS1.out)
    have HE := hideT (fun W => RTagI_any 2 qn [] false [] (.slice none 0 0) W (.inl ⟨none, 0, rfl, rfl⟩) HS2.out)
    have HVo := hideT (fun W => RVoid13_any qn W)
    generalize tagI 1 qn qa false [] = tx at *
    generalize tagI 2 qn [] false [] = ex at *
    have hc1 := cat_str tx ix
    have hc2 := cat_str (tx ++ ix) ex
    have s1 := str_size tx
    have s2 := str_size ix
    have s3 := str_size ex
    have s4 := str_size (tx ++ ix)
    have s5 : (tx ++ ix).length = tx.length + ix.length := List.length_append
    have ho1 : ¬ 9223372036854775807 < tx.length + ix.length := by omega
    have ho2 : ¬ 9223372036854775807 < (tx ++ ix).length + ex.length := by omega
    clear hl1 hl2 hli s5
    generalize Tre.isVoid qn = vb at *
    go_enter Tryz.func44, Tryz.ntmps44
    go_upto_region 1 with fail
    generalize hW0 : (w.alloc (.cells #[.slice (some ⟨b, o, none⟩) ns.length c0] 24)) = W0 at *
    have hbN : Below W0.heap.size W0 (W0.alloc (.cells #[.int .i64 qk, .string (str qn), .slice aa qa.length ac, .string (str qx), .int .i64 qu, .slice ka qs.length kc] 32)) := (Below.refl _ _).alloc (Nat.le_refl _) _
    have HA1 := hideT (HAts.out.below hbN)
    have HB1 := hideT (bel HB0.out hbN)
    have cc1 := (hbN.cell (p := ⟨w.heap.size, 0, none⟩) (cell_lt cc0)).trans cc0
    have hq1 := heap_new W0 (.cells #[.int .i64 qk, .string (str qn), .slice aa qa.length ac, .string (str qx), .int .i64 qu, .slice ka qs.length kc] 32)
    clear hbN hW0
    go_upto_region 2 with ((with_reducible show wpList _ _ _ ({ op := Op.load 32 _, .. } :: _) _ _); refine wpList_load_N (by rfl) _ rfl b (o + i * 6) rfl _ _ _ _ _ _ hrng.out ?_)
    generalize (W0.alloc (.cells #[.int .i64 qk, .string (str qn), .slice aa qa.length ac, .string (str qx), .int .i64 qu, .slice ka qs.length kc] 32)) = W1 at *
    generalize W0.heap.size = nb at *
    have r0 := Lib.cell_of_heap hq1 0
    have r1 := Lib.cell_of_heap hq1 1
    have r2 := Lib.cell_of_heap hq1 2
    clear hq1 cc0
    go_upto_region 6 with fail
    obtain ⟨S, hS1⟩ : ∃ S : World → Prop, ∀ W, S W ↔ W.cell? ⟨nb, 1, none⟩ = some (.string (str qn)) ∧ W.cell? ⟨nb, 2, none⟩ = some (.slice aa qa.length ac) ∧ W.cell? ⟨w.heap.size, 0, none⟩ = some (.slice (some ⟨b, o, none⟩) ns.length c0) ∧ Below W1.heap.size W1 W := ⟨_, fun _ => Iff.rfl⟩
    have step : ∀ W W', S W → Below W.heap.size W W' → S W' := fun W W' h hb => by
      obtain ⟨h1, h2, h3, h4⟩ := (hS1 W).1 h
      exact (hS1 W').2 ⟨(hb.cell (p := ⟨nb, 1, none⟩) (cell_lt h1)).trans h1, (hb.cell (p := ⟨nb, 2, none⟩) (cell_lt h2)).trans h2, (hb.cell (p := ⟨w.heap.size, 0, none⟩) (cell_lt h3)).trans h3, bel h4 hb⟩
    have HG := hideT (fun W (h : Below W1.heap.size W1 W) => HG0.out W (HA1.out.below h))
    have HI := hideT (fun W (h : Below W1.heap.size W1 W) => HI0.out W (HW.out.trans ((bel HB1.out h).mono HW.out.size)))
    clear HG0 HI0
    have hSt : S W1 := (hS1 _).2 ⟨r1, r2, cc1, Below.refl _ _⟩
    clear r0 r1 r2 cc1
    refine wp_region_held_drew (S := S) (by kernel_rfl) (step _ _ hSt ((Below.refl _ _).drew)) (fun hS => ?_)
    refine takeH12 0 24 (.pointer (some ⟨nb, 1, none⟩)) rfl rfl (by kernel_rfl) (by kernel_rfl) (by kernel_rfl) (fun _ _ _ h => h) (Or.inl ⟨by kernel_rfl, fun W _ => by go_simp⟩) hS ?_
    simp only [Act.put, List.setIfInBounds_toArray, List.set_cons_zero, List.set_cons_succ]
    refine takeH12 1 25 (.string (str qn)) rfl rfl (by kernel_rfl) (by kernel_rfl) (by kernel_rfl) (fun _ _ _ h => h) (Or.inl ⟨by kernel_rfl, fun W hW => by have hc := (((hS1 W).1 hW).1); go_simp⟩) hS ?_
    simp only [Act.put, List.setIfInBounds_toArray, List.set_cons_zero, List.set_cons_succ]
    refine takeH12 2 26 (.pointer (some ⟨nb, 2, none⟩)) rfl rfl (by kernel_rfl) (by kernel_rfl) (by kernel_rfl) (fun _ _ _ h => h) (Or.inl ⟨by kernel_rfl, fun W _ => by go_simp⟩) hS ?_
    simp only [Act.put, List.setIfInBounds_toArray, List.set_cons_zero, List.set_cons_succ]
    refine takeH12 3 27 (.slice aa qa.length ac) rfl rfl (by kernel_rfl) (by kernel_rfl) (by kernel_rfl) (fun _ _ _ h => h) (Or.inl ⟨by kernel_rfl, fun W hW => by have hc := (((hS1 W).1 hW).2.1); go_simp⟩) hS ?_
    simp only [Act.put, List.setIfInBounds_toArray, List.set_cons_zero, List.set_cons_succ]
    refine takeH12 4 28 (.agg #[.int .i64 1, .string (str qn), .slice aa qa.length ac, .bool false, .string ⟨#[]⟩]) rfl rfl (by kernel_rfl) (by kernel_rfl) (by kernel_rfl) (fun _ _ _ h => h) (Or.inl ⟨by kernel_rfl, fun W _ => by go_simp⟩) hS ?_
    simp only [Act.put, List.setIfInBounds_toArray, List.set_cons_zero, List.set_cons_succ]
    refine takeH12 6 30 (.agg #[.slice (some ⟨b, o, none⟩) ns.length c0]) rfl rfl (by kernel_rfl) (by kernel_rfl) (by kernel_rfl) (fun _ _ _ h => h) (Or.inl ⟨by kernel_rfl, fun W hW => by have hc := (((hS1 W).1 hW).2.2.1); go_simp⟩) hS ?_
    simp only [Act.put, List.setIfInBounds_toArray, List.set_cons_zero, List.set_cons_succ]
    refine takeH12 7 31 (.int .i64 (i : Int)) rfl rfl (by kernel_rfl) (by kernel_rfl) (by kernel_rfl) (fun _ _ _ h => h) (Or.inl ⟨by kernel_rfl, fun W _ => by go_simp⟩) hS ?_
    simp only [Act.put, List.setIfInBounds_toArray, List.set_cons_zero, List.set_cons_succ]
    refine wpAnyH_ready (rs := [5]) (by kernel_rfl) (by simp) ?_
    refine AllReadyH.cons rfl (fun K hK => ?_) AllReadyH.nil
    go_simp
    refine (HG.out _ ((hS1 _).1 hS).2.2.2).mono ?_
    rintro e w5 ⟨rfl, hY⟩
    refine hK.out _ _ (step _ _ hS hY) (fun hS => ?_)
    clear hK K hY
    refine wpAnyH_ready (rs := [8]) (by kernel_rfl) (by simp) ?_
    refine AllReadyH.cons rfl (fun K hK => ?_) AllReadyH.nil
    go_simp
    refine (HI.out _ ((hS1 _).1 hS).2.2.2).mono ?_
    rintro e w6 ⟨rfl, hY⟩
    refine hK.out _ _ (step _ _ hS hY) (fun hS => ?_)
    clear hK K hY
    refine takeH12 9 33 (.string (str (tx ++ ix))) rfl rfl (by kernel_rfl) (by kernel_rfl) (by kernel_rfl) (fun _ _ _ h => h) (Or.inl ⟨by kernel_rfl, fun W _ => by go_simp⟩) hS ?_
    simp only [Act.put, List.setIfInBounds_toArray, List.set_cons_zero, List.set_cons_succ]
    refine takeH12 10 6 (.string (str (tx ++ ix))) rfl rfl (by kernel_rfl) (by kernel_rfl) (by kernel_rfl) (fun _ _ _ h => h) (Or.inl ⟨by kernel_rfl, fun W _ => by go_simp⟩) hS ?_
    simp only [Act.put, List.setIfInBounds_toArray, List.set_cons_zero, List.set_cons_succ]
    refine wpAnyH_done (by kernel_rfl) ?_ _
    obtain ⟨f1, _, _, f4⟩ := (hS1 _).1 hS
    have HF := hideT (bel HB1.out f4)
    have lf1 := cell_lt f1
    clear f4
    cases vb with
    | true =>
      go_wp2_with (go_at_call 56; refine (HVo.out _).mono ?_; rintro e w7 ⟨rfl, h7⟩; have HF7 := hideT (bel HF.out h7); clear h7)
      go_ret
      exact ⟨by rw [HX.out]; simp, HF7.out⟩
    | false =>
      go_wp2_with (first
        | (go_at_call 56; refine (HVo.out _).mono ?_; rintro e w7 ⟨rfl, h7⟩; have HF7 := hideT (bel HF.out h7); have f7 := (h7.cell (p := ⟨nb, 1, none⟩) lf1).trans f1; clear h7)
        | (go_at_call 76; refine (HE.out _).mono ?_; rintro e w8 ⟨rfl, h8⟩; have HF8 := hideT (bel HF7.out h8); clear h8))
      go_ret
      exact ⟨by rw [HX.out]; simp, HF8.out⟩
end
end Go.Proofs.YtoiedadfpbbdgaaGreat
/- The contract of the reference's Write. -/
namespace Go.Proofs.YtoiedadfpbbdgaaGreat
open Go.RowKit
theorem far_inner {ns : List Nd} (h : Tre.farD ns = false) (hm : Tre.mayB ns = true) {i : Nat} (hi : i < ns.length) (hk : (Tre.ndAt ns i).kind ≠ 3) : (Tre.innerT ns i).length ≤ 10000000000000 := by
  have h1 := far_text h hm i hi
  rw [Tre.node_elem hm hi hk] at h1
  simp only [List.length_append] at h1
  omega
theorem Rwrites_any {ns : List Nd} {w0 : World} {a0 : Option Addr} {c0 : Nat} (hns : ReadsN w0 (.slice a0 ns.length c0) ns) (hm : Tre.mayB ns = true) (hfar : Tre.farD ns = false) :
    ∀ f i, i < ns.length → ns.length - i ≤ f → RNodeC ns w0 (.slice a0 ns.length c0) i ∧ ((Tre.ndAt ns i).kind ≠ 3 → RInnerC ns w0 (.slice a0 ns.length c0) i) := by
  intro f
  induction f with
  | zero => intro i hi hf; omega
  | succ f ih =>
    intro i hi hf
    have hk : (Tre.ndAt ns i).kind ≠ 3 → RInnerC ns w0 (.slice a0 ns.length c0) i := fun h3 => Rinner_any hns hm hi (far_inner hfar hm hi h3) (fun k hik hkn => (ih k hkn (by omega)).1)
    exact ⟨Rnode_any hns hm hi (far_text hfar hm i hi) (by have := (far_least hfar hm hi).1; omega) hk, hk⟩
set_option maxHeartbeats 4000000 in
set_option maxRecDepth 100000 in
theorem RWrite_any (ns : List Nd) (v : Value) (w : World) (hv : ReadsN w v ns) (hn : ns.length ≤ 140737488351232) (hf : ∀ n ∈ ns, Tre.FitN n) (hfar : Tre.farD ns = false) (at_ : Int) :
    Calls Tryz.prog 23 #[.agg #[v], .int .i64 at_] w (WritePost w (Tre.writeR ns at_)) := by
  obtain ⟨a, c, rfl⟩ := hv.form
  have hb0 : Below w.heap.size w (w.alloc (.cells #[.slice a ns.length c] 24)) := (Below.refl _ _).alloc (Nat.le_refl _) _
  have cc0 := doc_one (heap_new w (.cells #[.slice a ns.length c] 24))
  have hat : ns.length ≤ 4096 → ∀ i, i < ns.length → (Tre.ndAt ns i).attrs.length ≤ 1000000 ∧ (Tre.ndAt ns i).kids.length ≤ 140737488351232 := fun h4 i hi => by
    have := (Tre.farD_no hfar).1
    have h2 := (Tre.farD_no hfar).2 i hi (by omega)
    exact ⟨by omega, (Tre.fit_at hf hi).kids⟩
  have HM := hideT (RMay_any ns _ _ (hv.below hb0) (by omega) hat)
  have HB0 := hideT hb0
  have lc := cell_lt cc0
  cases hm : Tre.mayB ns
  · have HX : Hid (Tre.writeR ns at_ = ([], 5)) := if_neg (fun h => by rw [hm] at h; cases h.1)
    rw [hm] at HM
    clear hm hv hb0 hat hf hfar lc
    go_enter Tryz.func23, Tryz.ntmps23
    go_wp2_with (go_at_call 37; refine HM.out.mono ?_; rintro e w1 ⟨rfl, b1⟩; have HQ := hideT (bel HB0.out b1); clear b1)
    go_ret2
    exact ⟨by rw [HX.out]; rfl, HQ.out⟩
  · rw [hm] at HM
    by_cases h1 : at_ < 0
    · have HX : Hid (Tre.writeR ns at_ = ([], 5)) := if_neg (fun h => by omega)
      clear hm hv hb0 hat hf hfar lc
      go_enter Tryz.func23, Tryz.ntmps23
      go_wp2_with (go_at_call 37; refine HM.out.mono ?_; rintro e w1 ⟨rfl, b1⟩; have HQ := hideT (bel HB0.out b1); clear b1)
      go_ret2
      exact ⟨by rw [HX.out]; rfl, HQ.out⟩
    by_cases h2 : (ns.length : Int) ≤ at_
    · have HX : Hid (Tre.writeR ns at_ = ([], 5)) := if_neg (fun h => by omega)
      clear hm hv hb0 hat hf hfar
      go_enter Tryz.func23, Tryz.ntmps23
      go_wp2_with (go_at_call 37; refine HM.out.mono ?_; rintro e w1 ⟨rfl, b1⟩; have cc1 := (b1.cell (p := ⟨w.heap.size, 0, none⟩) lc).trans cc0; have HQ := hideT (bel HB0.out b1); clear b1)
      go_ret2
      exact ⟨by rw [HX.out]; rfl, HQ.out⟩
    obtain ⟨i, rfl⟩ : ∃ i : Nat, at_ = (i : Int) := ⟨at_.toNat, by omega⟩
    have hi : i < ns.length := by omega
    have hX : Tre.writeR ns (i : Int) = if (Tre.textAt ns i).length ≤ 262144 then (Tre.textAt ns i, 0) else ([], 5) := by
      unfold Tre.writeR
      rw [if_pos ⟨hm, by omega, by omega⟩, Int.toNat_natCast]
    have hW := Rwrites_any (hv.below hb0) hm hfar ns.length i hi (by omega)
    obtain ⟨g, o, aa, ac, ka, kc, rfl, hcc, hr⟩ := (hv.below hb0).at hi
    have HR := hideT hr
    by_cases hk3 : (Tre.ndAt ns i).kind = 3
    · have hT : Tre.textAt ns i = Tre.nodeT ns i := if_pos hk3
      have HN := hideT (fun W h => hW.1 W h)
      rw [hT] at hX
      have k3 : ((Tre.ndAt ns i).kind == 3) = true := by rw [hk3]; rfl
      have hlen := far_text hfar hm i hi
      clear hm hv hb0 hat hf hfar hr hk3 hT hW
      generalize Tre.nodeT ns i = tx at *
      have s1 := str_size tx
      by_cases hl : tx.length ≤ 262144
      · rw [if_pos hl] at hX
        have HX := hideT hX
        have hli : ¬ (262144 : Int) < (tx.length : Int) := by omega
        clear hX hl
        go_enter Tryz.func23, Tryz.ntmps23
        go_wp2_with (first
          | (go_at_call 37; refine HM.out.mono ?_; rintro e w1 ⟨rfl, b1⟩; have cc1 := (b1.cell (p := ⟨w.heap.size, 0, none⟩) lc).trans cc0; have r1 := (HR.out.below b1).c0; have HQ0 := hideT b1; have HQ := hideT (bel HB0.out b1); clear b1)
          | (go_at_call 44; refine (HN.out _ HQ0.out).mono ?_; rintro e w2 ⟨rfl, b2⟩; have HQ2 := hideT (bel HQ.out b2); clear b2))
        go_ret2
        exact ⟨by rw [HX.out]; rfl, HQ2.out⟩
      · rw [if_neg hl] at hX
        have HX := hideT hX
        have hli : (262144 : Int) < (tx.length : Int) := by omega
        clear hX hl
        go_enter Tryz.func23, Tryz.ntmps23
        go_wp2_with (first
          | (go_at_call 37; refine HM.out.mono ?_; rintro e w1 ⟨rfl, b1⟩; have cc1 := (b1.cell (p := ⟨w.heap.size, 0, none⟩) lc).trans cc0; have r1 := (HR.out.below b1).c0; have HQ0 := hideT b1; have HQ := hideT (bel HB0.out b1); clear b1)
          | (go_at_call 44; refine (HN.out _ HQ0.out).mono ?_; rintro e w2 ⟨rfl, b2⟩; have HQ2 := hideT (bel HQ.out b2); clear b2))
        go_ret2
        exact ⟨by rw [HX.out]; rfl, HQ2.out⟩
    · have hT : Tre.textAt ns i = Tre.innerT ns i := if_neg hk3
      have HN := hideT (fun W h => hW.2 hk3 W h)
      rw [hT] at hX
      have k3 : ((Tre.ndAt ns i).kind == 3) = false := beq_eq_false_iff_ne.2 hk3
      have hlen := far_inner hfar hm hi hk3
      clear hm hv hb0 hat hf hfar hr hk3 hT hW
      generalize Tre.innerT ns i = tx at *
      have s1 := str_size tx
      by_cases hl : tx.length ≤ 262144
      · rw [if_pos hl] at hX
        have HX := hideT hX
        have hli : ¬ (262144 : Int) < (tx.length : Int) := by omega
        clear hX hl
        go_enter Tryz.func23, Tryz.ntmps23
        go_wp2_with (first
          | (go_at_call 37; refine HM.out.mono ?_; rintro e w1 ⟨rfl, b1⟩; have cc1 := (b1.cell (p := ⟨w.heap.size, 0, none⟩) lc).trans cc0; have r1 := (HR.out.below b1).c0; have HQ0 := hideT b1; have HQ := hideT (bel HB0.out b1); clear b1)
          | (go_at_call 45; refine (HN.out _ HQ0.out).mono ?_; rintro e w2 ⟨rfl, b2⟩; have HQ2 := hideT (bel HQ.out b2); clear b2))
        go_ret2
        exact ⟨by rw [HX.out]; rfl, HQ2.out⟩
      · rw [if_neg hl] at hX
        have HX := hideT hX
        have hli : (262144 : Int) < (tx.length : Int) := by omega
        clear hX hl
        go_enter Tryz.func23, Tryz.ntmps23
        go_wp2_with (first
          | (go_at_call 37; refine HM.out.mono ?_; rintro e w1 ⟨rfl, b1⟩; have cc1 := (b1.cell (p := ⟨w.heap.size, 0, none⟩) lc).trans cc0; have r1 := (HR.out.below b1).c0; have HQ0 := hideT b1; have HQ := hideT (bel HB0.out b1); clear b1)
          | (go_at_call 45; refine (HN.out _ HQ0.out).mono ?_; rintro e w2 ⟨rfl, b2⟩; have HQ2 := hideT (bel HQ.out b2); clear b2))
        go_ret2
        exact ⟨by rw [HX.out]; rfl, HQ2.out⟩
end Go.Proofs.YtoiedadfpbbdgaaGreat
