/- Texts laid as one. -/
import Derived.Test.YtoiedadfpbbdgaaGreatKLkA
import Derived.Test.YtoiedadfpbbdgaaGreatKLkT
import Derived.Test.YtoiedadfpbbdgaaGreatKTrqKL
import Derived.Test.YtoiedadfpbbdgaaGreatKTreNW
/- The contract of the reference's AttrIn. -/
set_option linter.unusedVariables false
set_option linter.unusedSimpArgs false
namespace Go.Proofs.YtoiedadfpbbdgaaGreat
open Go.RowKit
set_option maxHeartbeats 2000000 in
set_option maxRecDepth 100000 in
theorem RAttrIn14_any (ns : List Nd) (v : Value) (i : Nat) (q : List UInt8) (w : World) (hv : ReadsN w v ns) (hi : i < ns.length) (hn : ns.length ≤ 140737488351232) (hl : (Tre.ndAt ns i).attrs.length ≤ 1000000) :
    Calls Tryz.prog 64 #[.agg #[v], .int .i64 (i : Int), .string (str q)] w fun e w' => e = .returned (.tuple #[.string (str (Lk.attrF (Tre.ndAt ns i).attrs q).1), .bool (Lk.attrF (Tre.ndAt ns i).attrs q).2]) ∧ Below w.heap.size w w' := by
  obtain ⟨a, c, rfl⟩ := hv.form
  have hb0 : Below w.heap.size w (w.alloc (.cells #[.slice a ns.length c] 24)) := (Below.refl _ _).alloc (Nat.le_refl _) _
  have cc0 := doc_cell (heap_new w (.cells #[.slice a ns.length c] 24))
  obtain ⟨g, o, aa, ac, ka, kc, rfl, hcc, hr⟩ := (hv.below hb0).at hi
  have hin : (i : Int) < (ns.length : Int) := by omega
  have c2 := hr.c2
  have HV := hideT hr.ats
  have HB0 := hideT hb0
  clear hv hb0 hr
  generalize (Tre.ndAt ns i).attrs = ats at *
  go_enter Tryz.func64, Tryz.ntmps64
  go_wp2
  generalize (w.alloc (.cells #[.slice (some ⟨g, o, none⟩) ns.length c] 24)) = W0 at *
  go_loopw [9] (fun i wr => ∃ j : Nat, i = .int .i64 j ∧ j ≤ ats.length ∧ Hid (Tk.has (ats.take j) q = false) ∧ wr = W0) (fun i _ => ats.length - (intOf i).toNat)
  case atStart => exact ⟨0, by go_num, Nat.zero_le _, rfl, rfl⟩
  case round =>
    obtain ⟨j, rfl, hj, HE, hB⟩ := hrel
    replace hB := hB.symm
    subst hB
    by_cases hjl : j < ats.length
    · have hat : ats[j]? = some ats[j] := List.getElem?_eq_getElem hjl
      obtain ⟨b, o2, rfl, hc, hbl, h1, h2⟩ := HV.out.at hat
      have qq := str_beq ats[j].1 q
      cases hq : (ats[j].1 == q)
      · have HN : Hid (Tk.has (ats.take (j + 1)) q = false) := by
          show _ = _
          rw [has_take ats q j hjl, HE.out, hq]
          rfl
        rw [hq] at qq
        clear hat h2 hq
        generalize ats[j] = p at *
        go_wp2
        go_roundw
        case rel => exact ⟨j + 1, by go_num, by omega, HN, by first | rfl | trivial⟩
        case measure => simp [intOf]; omega
      · have HN := hideT (Lk.attr_here hjl HE.out hq)
        rw [hq] at qq
        clear hat hq
        generalize ats[j] = p at *
        go_wp2
        go_ret2
        exact ⟨by rw [HN.out]; rfl, HB0.out⟩
    · have HN : Hid (Lk.attrF ats q = ([], false)) := Lk.attr_none (by
        have h := HE.out
        rwa [List.take_of_length_le (by omega)] at h)
      go_wp2
      go_ret2
      exact ⟨by rw [HN.out]; rfl, HB0.out⟩
end Go.Proofs.YtoiedadfpbbdgaaGreat
/- The contracts of the reference's hidden, join, kid, Text, Plain and HTML; that of look's HTML (written by tools/mklkw.py). -/
namespace Go.Proofs.YtoiedadfpbbdgaaGreat
open Go.RowKit
theorem join_most {ns : List Nd} (hf : Fair14 ns) (hm : Tre.mayB ns = true) (p : Bool) {i : Nat} (hi : i < ns.length) : (Lk.joinT ns p i).length ≤ 200000000 ∧ (Lk.kidT ns p i).length ≤ 200000000 := by
  have h0 : Tre.sumTo (Lk.ownK ns p) ns.length ≤ 200000000 := by
    have h2 : Tre.sumTo (Lk.ownK ns p) ns.length ≤ Tre.sumTo (fun _ => 100002) ns.length := Tre.sumTo_le _ (fun j hj => by
      unfold Lk.ownK
      split
      · have := hf.txt hm j hj; omega
      · split
        · exact Lk.stands_len (M := 100000) (fun a ha => (hf.val hm j hj a ha).2)
        · omega)
    rw [Tre.sumTo_const] at h2
    have := hf.few hm
    have h3 : ns.length * 100002 ≤ 1000 * 100002 := Nat.mul_le_mul_right _ this
    omega
  have h1 := Lk.kid_len hm p i hi
  refine ⟨?_, by omega⟩
  by_cases h3 : (Tre.ndAt ns i).kind = 3
  · have hs := Tre.may_shape hm hi
    have hz : (Tre.ndAt ns i).kids = [] := by
      cases hk : (Tre.ndAt ns i).kids with
      | nil => rfl
      | cons k l =>
        obtain ⟨j, _, _, hj, hu⟩ := Tre.may_kid hm hi (k := k) (by rw [hk]; exact List.mem_cons_self ..)
        exact absurd h3 (Tre.up_kind hm hj (by omega) hu)
    unfold Lk.joinT
    rw [hz]
    exact Nat.zero_le _
  · rw [Lk.kid_elem hm p hi h3, List.length_append] at h1
    omega
theorem attr_nil (l : List (List UInt8 × List UInt8)) (q : List UInt8) : (Lk.attrF l q).2 = false → (Lk.attrF l q).1 = [] := by
  intro h
  cases h2 : Tk.has l q with
  | false => rw [Lk.attr_none h2]
  | true =>
    exfalso
    induction l with
    | nil => simp [Tk.has] at h2
    | cons a l ih =>
      rw [Lk.attrF] at h
      by_cases he : a.1 = q
      · rw [if_pos he] at h; exact Bool.noConfusion h
      · rw [if_neg he] at h
        refine ih h ?_
        simpa [Tk.has, he] using h2
section
variable {ns : List Nd} {w0 : World} {a0 : Option Addr} {c0 : Nat} {p : Bool}
def rjT (ns : List Nd) (p : Bool) (i : Nat) : List UInt8 := if (Tre.ndAt ns i).kind = 3 then Lk.kidT ns p i else Lk.joinT ns p i
def RKidC14 (ns : List Nd) (w0 : World) (nv : Value) (p : Bool) (i : Nat) : Prop := ∀ w, Below w0.heap.size w0 w → Calls Tryz.prog 39 #[.agg #[nv], .int .i64 (i : Int), .bool p] w fun e w' => e = .returned (.string (str (Lk.kidT ns p i))) ∧ Below w.heap.size w w'
def RJoinC14 (ns : List Nd) (w0 : World) (nv : Value) (p : Bool) (i : Nat) : Prop := ∀ w, Below w0.heap.size w0 w → Calls Tryz.prog 19 #[.agg #[nv], .int .i64 (i : Int), .bool p] w fun e w' => e = .returned (.string (str (rjT ns p i))) ∧ Below w.heap.size w w'
set_option maxHeartbeats 2000000 in
set_option maxRecDepth 100000 in
theorem Rhidden14_any (v : Value) {i u : Nat} (w : World) (hv : ReadsN w v ns) (hi : i < ns.length) (hn : ns.length ≤ 1000) (hu : (Tre.ndAt ns i).up = (u : Int)) (hul : u < ns.length) :
    Calls Tryz.prog 38 #[.agg #[v], .int .i64 (i : Int)] w fun e w' => e = .returned (.bool (Lk.hidN (Tre.ndAt ns u).name)) ∧ Below w.heap.size w w' := by
  obtain ⟨a, c, rfl⟩ := hv.form
  have hb0 : Below w.heap.size w (w.alloc (.cells #[.slice a ns.length c] 24)) := (Below.refl _ _).alloc (Nat.le_refl _) _
  have cc0 := doc_cell (heap_new w (.cells #[.slice a ns.length c] 24))
  have lc := cell_lt cc0
  obtain ⟨g, o, rfl, hcc, hgl, hall⟩ := (hv.below hb0).spot (by omega)
  obtain ⟨xa, xc, xk, xd, hr⟩ := hall i hi
  obtain ⟨ya, yc, yk, yd, hr2⟩ := hall u hul
  have hin : (i : Int) < (ns.length : Int) := by omega
  have c4 := hr.c4
  rw [hu] at c4
  have HB0 := hideT hb0
  have HHid := hideT (hid3_con (Tre.ndAt ns u).name)
  have hhas := fun W v (h : ReadsTexts W v hid3) => RHas13_any hid3 v (Tre.ndAt ns u).name W h (by decide)
  rw [HHid.out] at hhas
  have HHas := hideT hhas
  have hbL : Below (w.alloc (.cells #[.slice (some ⟨g, o, none⟩) ns.length c] 24)).heap.size (w.alloc (.cells #[.slice (some ⟨g, o, none⟩) ns.length c] 24)) ((w.alloc (.cells #[.slice (some ⟨g, o, none⟩) ns.length c] 24)).alloc (.cells (hid3.map strV).toArray 9)) := (Below.refl _ _).alloc (Nat.le_refl _) _
  have HBL := hideT (bel hb0 hbL)
  have HLit := hideT ((own_lit (w.alloc (.cells #[.slice (some ⟨g, o, none⟩) ns.length c] 24)) hid3 (by decide)).reads)
  have n1 := (hr2.below hbL).c1
  have ccL := (hbL.cell (p := ⟨w.heap.size, 0, none⟩) lc).trans cc0
  rw [show hid3.map strV = [.string ⟨#[115, 99, 114, 105, 112, 116]⟩, .string ⟨#[115, 116, 121, 108, 101]⟩, .string ⟨#[116, 101, 109, 112, 108, 97, 116, 101]⟩] from rfl] at HLit HBL n1 ccL
  clear hv hb0 hr hr2 hall hhas hbL hu
  generalize Lk.hidN (Tre.ndAt ns u).name = hd at *
  generalize (Tre.ndAt ns u).name = nm at *
  have h0u : (decide ((0 : Int) ≤ (u : Int))) = true := decide_eq_true (by omega)
  go_enter Tryz.func38, Tryz.ntmps38
  go_upto_region 1 with fail
  generalize hW0 : (w.alloc (.cells #[.slice (some ⟨g, o, none⟩) ns.length c] 24)) = W0 at *
  go_upto_region 2 with fail
  clear hW0
  go_wp2_with (go_at_call 57; refine (HHas.out _ _ HLit.out).mono ?_; rintro e w5 ⟨rfl, hw5⟩; replace hw5 := hw5.symm; subst hw5)
  go_ret
  exact ⟨rfl, HBL.out⟩
end
end Go.Proofs.YtoiedadfpbbdgaaGreat
/- The contracts of the reference's join and kid (written by tools/mklkw.py). -/
namespace Go.Proofs.YtoiedadfpbbdgaaGreat
open Go.RowKit
section
variable {ns : List Nd} {w0 : World} {a0 : Option Addr} {c0 : Nat} {p : Bool}
set_option maxHeartbeats 8000000 in
set_option maxRecDepth 100000 in
theorem Rjoin14_any (hns : ReadsN w0 (.slice a0 ns.length c0) ns) (hf : Fair14 ns) (hm : Tre.mayB ns = true) {i : Nat} (hi : i < ns.length) (hk : ∀ k, i < k → k < ns.length → RKidC14 ns w0 (.slice a0 ns.length c0) p k) : RJoinC14 ns w0 (.slice a0 ns.length c0) p i := by
  intro w hw
  have hv := hns.below hw
  have hb0 : Below w.heap.size w (w.alloc (.cells #[.slice a0 ns.length c0] 24)) := (Below.refl _ _).alloc (Nat.le_refl _) _
  have cc0 := doc_cell (heap_new w (.cells #[.slice a0 ns.length c0] 24))
  have lc := cell_lt cc0
  obtain ⟨g, o, rfl, hcc, hgl, hall⟩ := hns.spot (by omega)
  obtain ⟨xa, xc, xk, xd, hr0⟩ := hall i hi
  have hin : (i : Int) < (ns.length : Int) := by omega
  have hn4 := hf.few hm
  have hr := (hr0.below hw).below hb0
  have HB0 := hideT hb0
  have HW := hideT hw
  have HV0 := hideT (hv.below hb0)
  have HRD := hideT hr
  have hlen := (join_most hf hm p hi).1
  by_cases hk3 : (Tre.ndAt ns i).kind = 3
  · have h0 : i ≠ 0 := fun e => by
      subst e
      rw [Lk.root_kind hm] at hk3
      omega
    obtain ⟨hu1, hu2⟩ := Tre.may_up hm hi h0
    obtain ⟨u, hu⟩ : ∃ u : Nat, (Tre.ndAt ns i).up = (u : Int) := ⟨(Tre.ndAt ns i).up.toNat, by omega⟩
    have HHd := hideT (fun W h => Rhidden14_any (.slice (some ⟨g, o, none⟩) ns.length c0) W h hi hn4 hu (by omega))
    have hX : rjT ns p i = if Lk.hidN (Tre.ndAt ns u).name = true then [] else (Tre.ndAt ns i).text := by
      unfold rjT
      rw [if_pos hk3, Lk.kid_text hm p hi hk3, hu, Int.toNat_natCast]
    have HX := hideT hX
    have hrng := hideT hr.rng
    clear hns hf hm hk hw hv hb0 hr hr0 hall hlen h0 hu hu1 hu2 hX HRD
    generalize Lk.hidN (Tre.ndAt ns u).name = hd at *
    generalize Tre.ndAt ns i = q at *
    obtain ⟨qk, qn, qa, qx, qu, qs⟩ := q
    simp only at hk3 HX
    subst hk3
    go_enter Tryz.func19, Tryz.ntmps19
    go_upto_region 1 with fail
    generalize hW0 : (w.alloc (.cells #[.slice (some ⟨g, o, none⟩) ns.length c0] 24)) = W0 at *
    have hbN : Below W0.heap.size W0 (W0.alloc (.cells #[.int .i64 3, .string (str qn), .slice xa qa.length xc, .string (str qx), .int .i64 qu, .slice xk qs.length xd] 32)) := (Below.refl _ _).alloc (Nat.le_refl _) _
    have HV1 := hideT (HV0.out.below hbN)
    have HB1 := hideT (bel HB0.out hbN)
    have cc1 := (hbN.cell (p := ⟨w.heap.size, 0, none⟩) lc).trans cc0
    have hq1 := heap_new W0 (.cells #[.int .i64 3, .string (str qn), .slice xa qa.length xc, .string (str qx), .int .i64 qu, .slice xk qs.length xd] 32)
    clear hbN hW0
    go_upto_region 2 with ((with_reducible show wpList _ _ _ ({ op := Op.load 32 _, .. } :: _) _ _); refine wpList_load_N (by rfl) _ rfl g (o + i * 6) rfl _ _ _ _ _ _ hrng.out ?_)
    generalize (W0.alloc (.cells #[.int .i64 3, .string (str qn), .slice xa qa.length xc, .string (str qx), .int .i64 qu, .slice xk qs.length xd] 32)) = W1 at *
    generalize W0.heap.size = nb at *
    have q0 := Lib.cell_of_heap hq1 0
    have HQ1 := hideT hq1
    have hlt1 := cell_lt q0
    clear hq1 cc0
    cases hd
    · go_wp2_with (go_at_call 38; refine (HHd.out _ HV1.out).mono ?_; rintro e w5 ⟨rfl, h5⟩; have HB5 := hideT (bel HB1.out h5); have q3 := Lib.cell_of_heap ((h5.block _ hlt1).trans HQ1.out) 3; clear h5)
      go_ret
      exact ⟨by rw [HX.out]; rfl, HB5.out⟩
    · go_wp2_with (go_at_call 38; refine (HHd.out _ HV1.out).mono ?_; rintro e w5 ⟨rfl, h5⟩; have HB5 := hideT (bel HB1.out h5); clear h5)
      go_ret
      exact ⟨by rw [HX.out]; rfl, HB5.out⟩
  · have HX : Hid (rjT ns p i = Lk.joinT ns p i) := if_neg hk3
    have q3 : ((Tre.ndAt ns i).kind == (3 : Int)) = false := beq_eq_false_iff_ne.2 hk3
    have HMem := hideT (fun k hk => Tre.may_kid hm hi (k := k) hk)
    have HKC := hideT hk
    have HE : Hid (Lk.joinT ns p i = (Tre.ndAt ns i).kids.flatMap fun k => Lk.kidT ns p k.toNat) := rfl
    have hjl : ((Tre.ndAt ns i).kids.flatMap fun k => Lk.kidT ns p k.toNat).length ≤ 200000000 := hlen
    have hkl : (Tre.ndAt ns i).kids.length ≤ 1000 := by
      rw [Tre.may_kids hm hi]
      exact Nat.le_trans (Tre.kidsTo_le ns i _) hn4
    have hrng := hideT hr.rng
    have HKD0 := hideT hr.kds
    clear hns hf hm hk hw hv hb0 hr hr0 hall hlen hk3 HRD
    generalize Lk.joinT ns p i = jt at *
    generalize Tre.ndAt ns i = q at *
    obtain ⟨qk, qn, qa, qx, qu, ks⟩ := q
    simp only at q3 HMem HE hjl hkl HKD0
    go_enter Tryz.func19, Tryz.ntmps19
    go_upto_region 1 with fail
    generalize hW0 : (w.alloc (.cells #[.slice (some ⟨g, o, none⟩) ns.length c0] 24)) = W0 at *
    have hbN : Below W0.heap.size W0 (W0.alloc (.cells #[.int .i64 qk, .string (str qn), .slice xa qa.length xc, .string (str qx), .int .i64 qu, .slice xk ks.length xd] 32)) := (Below.refl _ _).alloc (Nat.le_refl _) _
    have HKD := hideT (HKD0.out.below hbN)
    have HB1 := hideT (bel HB0.out hbN)
    have cc1 := (hbN.cell (p := ⟨w.heap.size, 0, none⟩) lc).trans cc0
    have hq1 := heap_new W0 (.cells #[.int .i64 qk, .string (str qn), .slice xa qa.length xc, .string (str qx), .int .i64 qu, .slice xk ks.length xd] 32)
    clear hbN hW0
    go_upto_region 2 with ((with_reducible show wpList _ _ _ ({ op := Op.load 32 _, .. } :: _) _ _); refine wpList_load_N (by rfl) _ rfl g (o + i * 6) rfl _ _ _ _ _ _ hrng.out ?_)
    generalize (W0.alloc (.cells #[.int .i64 qk, .string (str qn), .slice xa qa.length xc, .string (str qx), .int .i64 qu, .slice xk ks.length xd] 32)) = W1 at *
    generalize W0.heap.size = nb at *
    have q0 := Lib.cell_of_heap hq1 0
    have q5 := Lib.cell_of_heap hq1 5
    have lq5 := cell_lt q5
    have lc1 := cell_lt cc1
    clear hq1 cc0
    go_wp2
    go_loopw [8, 9] (fun s t wr => ∃ j : Nat, s = .string (str ((ks.take j).flatMap fun k => Lk.kidT ns p k.toNat)) ∧ t = .int .i64 j ∧ j ≤ ks.length ∧ Hid (Below W1.heap.size W1 wr)) (fun _ t _ => ks.length - (intOf t).toNat)
    case atStart => exact ⟨0, rfl, rfl, Nat.zero_le _, Below.refl _ _⟩
    case round =>
      obtain ⟨j, rfl, rfl, hj, HB⟩ := hrel
      rename World => X
      have ccX := (HB.out.cell (p := ⟨w.heap.size, 0, none⟩) lc1).trans cc1
      have x5 := (HB.out.cell (p := ⟨nb, 5, none⟩) lq5).trans q5
      by_cases hjl2 : j < ks.length
      · obtain ⟨kb, ko, e, hkc, hkb, hcell⟩ := (HKD.out.below HB.out).at (List.getElem?_eq_getElem hjl2)
        subst e
        obtain ⟨kx, hkx, hik, hkn, _⟩ := HMem.out ks[j] (List.getElem_mem hjl2)
        have HT := hideT (flat_take14 ks (fun k => Lk.kidT ns p k.toNat) j hjl2)
        have hle := flat_le14 ks (fun k => Lk.kidT ns p k.toNat) (j + 1)
        rw [HT.out, List.length_append] at hle
        rw [hkx] at hcell HT hle
        simp only [Int.toNat_natCast] at HT hle
        have HC := hideT (fun W (h : Below w.heap.size w W) => HKC.out kx hik hkn W (HW.out.trans (h.mono HW.out.size)))
        have hjn : (j : Int) < (ks.length : Int) := by omega
        have HJ : Hid (j + 1 ≤ ks.length) := hjl2
        clear hkx hkb HMem HKC
        generalize Lk.kidT ns p kx = tx at *
        obtain ⟨sx, hsx⟩ : ∃ sx, (ks.take j).flatMap (fun k => Lk.kidT ns p k.toNat) = sx := ⟨_, rfl⟩
        rw [hsx] at hle HT ⊢
        have hcat : str sx ++ str tx = str (sx ++ tx) := cat14 sx tx
        have s1 := str_size sx
        have s2 := str_size tx
        have hov : ¬ 9223372036854775807 < sx.length + tx.length := by omega
        obtain ⟨kc, hkcc⟩ : ∃ kc, xd = kc := ⟨_, rfl⟩
        subst hkcc
        clear hle hsx
        obtain ⟨S, hS1⟩ : ∃ S : World → Prop, ∀ W, S W ↔ W.cell? ⟨w.heap.size, 0, none⟩ = some (.slice (some ⟨g, o, none⟩) ns.length c0) ∧ W.cell? ⟨nb, 5, none⟩ = some (.slice (some ⟨kb, ko, none⟩) ks.length xd) ∧ W.cell? ⟨kb, ko + j, none⟩ = some (.int .i64 (kx : Int)) ∧ Below W1.heap.size W1 W := ⟨_, fun _ => Iff.rfl⟩
        have step : ∀ W W', S W → Below W.heap.size W W' → S W' := fun W W' h hb => by
          obtain ⟨h1, h2, h3, h4⟩ := (hS1 W).1 h
          exact (hS1 W').2 ⟨(hb.cell (p := ⟨w.heap.size, 0, none⟩) (cell_lt h1)).trans h1, (hb.cell (p := ⟨nb, 5, none⟩) (cell_lt h2)).trans h2, (hb.cell (p := ⟨kb, ko + j, none⟩) (cell_lt h3)).trans h3, bel h4 hb⟩
        go_upto_region 10 with fail
        refine wp_region_held_drew (S := S) (by kernel_rfl) (step _ _ ((hS1 _).2 ⟨ccX, x5, hcell, HB.out⟩) ((Below.refl _ _).drew)) (fun hS => ?_)
        clear ccX x5 hcell
        refine takeH12 0 30 (.string (str sx)) rfl rfl (by kernel_rfl) (by kernel_rfl) (by kernel_rfl) (fun _ _ _ h => h) (Or.inl ⟨by kernel_rfl, fun W _ => by go_simp⟩) hS ?_
        simp only [Act.put, List.setIfInBounds_toArray, List.set_cons_zero, List.set_cons_succ]
        refine takeH12 1 31 (.agg #[.slice (some ⟨g, o, none⟩) ns.length c0]) rfl rfl (by kernel_rfl) (by kernel_rfl) (by kernel_rfl) (fun _ _ _ h => h) (Or.inl ⟨by kernel_rfl, fun W hW => by have hc := (((hS1 W).1 hW).1); go_simp⟩) hS ?_
        simp only [Act.put, List.setIfInBounds_toArray, List.set_cons_zero, List.set_cons_succ]
        refine takeH12 2 32 (.pointer (some ⟨nb, 5, none⟩)) rfl rfl (by kernel_rfl) (by kernel_rfl) (by kernel_rfl) (fun _ _ _ h => h) (Or.inl ⟨by kernel_rfl, fun W _ => by go_simp⟩) hS ?_
        simp only [Act.put, List.setIfInBounds_toArray, List.set_cons_zero, List.set_cons_succ]
        refine takeH12 3 33 (.slice (some ⟨kb, ko, none⟩) ks.length xd) rfl rfl (by kernel_rfl) (by kernel_rfl) (by kernel_rfl) (fun _ _ _ h => h) (Or.inl ⟨by kernel_rfl, fun W hW => by have hc := (((hS1 W).1 hW).2.1); go_simp⟩) hS ?_
        simp only [Act.put, List.setIfInBounds_toArray, List.set_cons_zero, List.set_cons_succ]
        refine takeH12 4 34 (.int .i64 (j : Int)) rfl rfl (by kernel_rfl) (by kernel_rfl) (by kernel_rfl) (fun _ _ _ h => h) (Or.inl ⟨by kernel_rfl, fun W _ => by go_simp⟩) hS ?_
        simp only [Act.put, List.setIfInBounds_toArray, List.set_cons_zero, List.set_cons_succ]
        refine takeH12 5 35 (.pointer (some ⟨kb, ko + j, none⟩)) rfl rfl (by kernel_rfl) (by kernel_rfl) (by kernel_rfl) (fun _ _ _ h => h) (Or.inl ⟨by kernel_rfl, fun W _ => by go_simp⟩) hS ?_
        simp only [Act.put, List.setIfInBounds_toArray, List.set_cons_zero, List.set_cons_succ]
        refine takeH12 6 36 (.int .i64 (kx : Int)) rfl rfl (by kernel_rfl) (by kernel_rfl) (by kernel_rfl) (fun _ _ _ h => h) (Or.inl ⟨by kernel_rfl, fun W hW => by have hc := (((hS1 W).1 hW).2.2.1); go_simp⟩) hS ?_
        simp only [Act.put, List.setIfInBounds_toArray, List.set_cons_zero, List.set_cons_succ]
        refine takeH12 7 37 (.bool p) rfl rfl (by kernel_rfl) (by kernel_rfl) (by kernel_rfl) (fun _ _ _ h => h) (Or.inl ⟨by kernel_rfl, fun W _ => by go_simp⟩) hS ?_
        simp only [Act.put, List.setIfInBounds_toArray, List.set_cons_zero, List.set_cons_succ]
        refine wpAnyH_ready (rs := [8]) (by kernel_rfl) (by simp) ?_
        refine AllReadyH.cons rfl (fun K hK => ?_) AllReadyH.nil
        go_simp
        refine (HC.out _ (bel HB1.out ((hS1 _).1 hS).2.2.2)).mono ?_
        rintro e w5 ⟨rfl, hY⟩
        refine hK.out _ _ (step _ _ hS hY) (fun hS => ?_)
        clear hK K hY
        refine takeH12 9 39 (.string (str (sx ++ tx))) rfl rfl (by kernel_rfl) (by kernel_rfl) (by kernel_rfl) (fun _ _ _ h => h) (Or.inl ⟨by kernel_rfl, fun W _ => by go_simp⟩) hS ?_
        simp only [Act.put, List.setIfInBounds_toArray, List.set_cons_zero, List.set_cons_succ]
        refine takeH12 10 8 (.string (str (sx ++ tx))) rfl rfl (by kernel_rfl) (by kernel_rfl) (by kernel_rfl) (fun _ _ _ h => h) (Or.inl ⟨by kernel_rfl, fun W _ => by go_simp⟩) hS ?_
        simp only [Act.put, List.setIfInBounds_toArray, List.set_cons_zero, List.set_cons_succ]
        refine wpAnyH_done (by kernel_rfl) ?_ _
        have hfin := hideT ((hS1 _).1 hS).2.2.2
        go_wp2
        go_roundw
        case rel => exact ⟨j + 1, by rw [HT.out], by go_num, HJ.out, hfin⟩
        case measure => have := HJ.out; simp [intOf]; omega
      · have hje : j = ks.length := by omega
        have hnj : ¬ (j : Int) < (ks.length : Int) := by omega
        have HR : Hid ((ks.take j).flatMap (fun k => Lk.kidT ns p k.toNat) = rjT ns p i) := by
          show _ = _
          rw [hje, List.take_length, HX.out, HE.out]
        have HBX := hideT (bel HB1.out HB.out)
        clear hje HB HKD HMem HKC
        go_wp2
        go_ret
        exact ⟨by rw [HR.out]; rfl, HBX.out⟩
set_option maxHeartbeats 8000000 in
set_option maxRecDepth 100000 in
theorem Rkid14_any (hns : ReadsN w0 (.slice a0 ns.length c0) ns) (hf : Fair14 ns) (hm : Tre.mayB ns = true) {i : Nat} (hi : i < ns.length) (h0 : i ≠ 0) (hj : RJoinC14 ns w0 (.slice a0 ns.length c0) p i) : RKidC14 ns w0 (.slice a0 ns.length c0) p i := by
  intro w hw
  have hv := hns.below hw
  have hb0 : Below w.heap.size w (w.alloc (.cells #[.slice a0 ns.length c0] 24)) := (Below.refl _ _).alloc (Nat.le_refl _) _
  have cc0 := doc_cell (heap_new w (.cells #[.slice a0 ns.length c0] 24))
  have lc := cell_lt cc0
  obtain ⟨g, o, rfl, hcc, hgl, hall⟩ := hns.spot (by omega)
  obtain ⟨xa, xc, xk, xd, hr0⟩ := hall i hi
  have hin : (i : Int) < (ns.length : Int) := by omega
  have hn4 := hf.few hm
  have hr := (hr0.below hw).below hb0
  have HB0 := hideT hb0
  have HW := hideT hw
  have HV0 := hideT (hv.below hb0)
  have HRD := hideT hr
  have hlen := (join_most hf hm p hi).1
  have hkind := Lk.may_kind hm hi h0
  have HJo := hideT (fun W (h : Below w.heap.size w W) => hj W (hw.trans (h.mono hw.size)))
  have HAt := hideT (fun W (h : Below w.heap.size w W) q => RAttrIn14_any ns (.slice (some ⟨g, o, none⟩) ns.length c0) i q W ((hns.below hw).below h) hi (by omega) (hf.ats (by omega) i hi))
  have hval : ∀ q, (Lk.attrF (Tre.ndAt ns i).attrs q).1.length ≤ 100000 := fun q => hf.val_attr hm hi q
  have HText := hideT (fun h3 => Lk.kid_text hm p hi h3)
  have HElem := hideT (fun h3 => Lk.kid_elem hm p hi h3)
  have HStd : Hid (Lk.stands (Tre.ndAt ns i) = if (Tre.ndAt ns i).name = Lk.brN then [10] else if (Tre.ndAt ns i).name = Lk.imgN then Lk.image (Tre.ndAt ns i).attrs else []) := rfl
  have HImg : Hid (Lk.image (Tre.ndAt ns i).attrs = if (Lk.attrF (Tre.ndAt ns i).attrs Lk.altN).2 = true then (Lk.attrF (Tre.ndAt ns i).attrs Lk.altN).1 else if (Lk.attrF (Tre.ndAt ns i).attrs Lk.srcN).2 = true then 32 :: ((Lk.attrF (Tre.ndAt ns i).attrs Lk.srcN).1 ++ [32]) else []) := rfl
  have HRJ : Hid (rjT ns p i = if (Tre.ndAt ns i).kind = 3 then Lk.kidT ns p i else Lk.joinT ns p i) := rfl
  have hat1 := fun W (h : Below w.heap.size w W) => HAt.out W h Lk.altN
  have hat2 := fun W (h : Below w.heap.size w W) => HAt.out W h Lk.srcN
  rw [show str Lk.altN = ⟨#[97, 108, 116]⟩ from rfl] at hat1
  rw [show str Lk.srcN = ⟨#[115, 114, 99]⟩ from rfl] at hat2
  have HA1 := hideT hat1
  have HA2 := hideT hat2
  have hv1 := hval Lk.altN
  have hz1 := attr_nil (Tre.ndAt ns i).attrs Lk.altN
  have hv2 := hval Lk.srcN
  have hrng := hideT hr.rng
  clear hns hf hm hj hw hv hb0 hr hr0 hall hat1 hat2 hval HAt HRD HV0
  generalize Lk.attrF (Tre.ndAt ns i).attrs Lk.altN = pa at *
  generalize Lk.attrF (Tre.ndAt ns i).attrs Lk.srcN = ps at *
  obtain ⟨va, ba⟩ := pa
  obtain ⟨vs, bs⟩ := ps
  generalize Lk.image (Tre.ndAt ns i).attrs = im at *
  generalize Lk.stands (Tre.ndAt ns i) = st at *
  generalize Lk.joinT ns p i = jt at *
  generalize Lk.kidT ns p i = kt at *
  generalize rjT ns p i = rj at *
  generalize Tre.ndAt ns i = q at *
  obtain ⟨qk, qn, qa, qx, qu, qs⟩ := q
  simp only at hkind HText HElem HStd HImg HRJ hv1 hv2
  go_enter Tryz.func39, Tryz.ntmps39
  go_upto_region 1 with fail
  generalize hW0 : (w.alloc (.cells #[.slice (some ⟨g, o, none⟩) ns.length c0] 24)) = W0 at *
  have hbN : Below W0.heap.size W0 (W0.alloc (.cells #[.int .i64 qk, .string (str qn), .slice xa qa.length xc, .string (str qx), .int .i64 qu, .slice xk qs.length xd] 32)) := (Below.refl _ _).alloc (Nat.le_refl _) _
  have HB1 := hideT (bel HB0.out hbN)
  have cc1 := (hbN.cell (p := ⟨w.heap.size, 0, none⟩) lc).trans cc0
  have hq1 := heap_new W0 (.cells #[.int .i64 qk, .string (str qn), .slice xa qa.length xc, .string (str qx), .int .i64 qu, .slice xk qs.length xd] 32)
  clear hbN hW0
  go_upto_region 2 with ((with_reducible show wpList _ _ _ ({ op := Op.load 32 _, .. } :: _) _ _); refine wpList_load_N (by rfl) _ rfl g (o + i * 6) rfl _ _ _ _ _ _ hrng.out ?_)
  generalize (W0.alloc (.cells #[.int .i64 qk, .string (str qn), .slice xa qa.length xc, .string (str qx), .int .i64 qu, .slice xk qs.length xd] 32)) = W1 at *
  generalize W0.heap.size = nb at *
  have q0 := Lib.cell_of_heap hq1 0
  have q1 := Lib.cell_of_heap hq1 1
  have lq := cell_lt q0
  have lc1 := cell_lt cc1
  clear hq1 cc0
  by_cases hk2 : qk = 2
  · subst hk2
    have hrj : rj = jt := by rw [HRJ.out]; rfl
    have hkt : kt = (if p = true then st else []) ++ jt := HElem.out (by decide)
    subst hrj
    clear HText HElem HRJ hkind
    cases p
    · have HKT : Hid (kt = rj) := by show _ = _; rw [hkt]; rfl
      clear hkt HStd HImg HA1 HA2 hv1 hv2
      go_wp2_with (go_at_call 19; refine (HJo.out _ HB1.out).mono ?_; rintro e w5 ⟨rfl, h5⟩; have HB5 := hideT (bel HB1.out h5); clear h5)
      go_ret
      exact ⟨by rw [HKT.out]; rfl, HB5.out⟩
    · by_cases n1 : qn = Lk.brN
      · have t1 : ((str qn).toList == [98, 114]) = true := lit13_yes n1
        have hst : st = [10] := by rw [HStd.out, if_pos n1]
        have HKT : Hid (kt = 10 :: rj) := by show _ = _; rw [hkt, hst]; rfl
        have hcat : (⟨#[10]⟩ : ByteArray) ++ str rj = str (10 :: rj) := cat14 [10] rj
        have s1 := str_size rj
        clear hkt hst HStd HImg HA1 HA2 hv1 hv2 n1
        go_wp2_with (go_at_call 19; refine (HJo.out _ HB1.out).mono ?_; rintro e w5 ⟨rfl, h5⟩; have HB5 := hideT (bel HB1.out h5); clear h5)
        go_ret
        exact ⟨by rw [HKT.out]; rfl, HB5.out⟩
      · have t1 : ((str qn).toList == [98, 114]) = false := lit13_no n1
        by_cases n2 : qn = Lk.imgN
        · have t2 : ((str qn).toList == [105, 109, 103]) = true := lit13_yes n2
          have hst : st = im := by rw [HStd.out, if_neg n1, if_pos n2]
          subst hst
          clear HStd n1 n2
          cases ba
          · cases bs
            · have hst : st = [] := by rw [HImg.out]; rfl
              have hva : va = [] := hz1 rfl
              subst hva
              have HKT : Hid (kt = rj) := by show _ = _; rw [hkt, hst]; rfl
              have hcat : str [] ++ str rj = str ([] ++ rj) := cat14 [] rj
              have s1 := str_size rj
              have s2 := str_size []
              clear hkt HImg hst hz1
              go_wp2_with (first
                | (go_at_call 64; first
                  | (refine (HA2.out _ HB4.out).mono ?_; rintro e w6 ⟨rfl, h6⟩; have HB6 := hideT (bel HB4.out h6); have cc6 := (h6.cell (p := ⟨w.heap.size, 0, none⟩) (cell_lt cc4)).trans cc4; clear h6)
                  | (refine (HA1.out _ HB1.out).mono ?_; rintro e w4 ⟨rfl, h4⟩; have HB4 := hideT (bel HB1.out h4); have cc4 := (h4.cell (p := ⟨w.heap.size, 0, none⟩) lc1).trans cc1; clear h4))
                | (go_at_call 19; refine (HJo.out _ HB6.out).mono ?_; rintro e w5 ⟨rfl, h5⟩; have HB5 := hideT (bel HB6.out h5); clear h5))
              go_ret
              exact ⟨by rw [HKT.out]; rfl, HB5.out⟩
            · have hst : st = 32 :: (vs ++ [32]) := by rw [HImg.out]; rfl
              subst hst
              have HKT : Hid (kt = 32 :: (vs ++ 32 :: rj)) := by show _ = _; rw [hkt]; simp
              have hc1 : (⟨#[32]⟩ : ByteArray) ++ str vs = str (32 :: vs) := cat14 [32] vs
              have hc2 : str (32 :: vs) ++ (⟨#[32]⟩ : ByteArray) = str (32 :: (vs ++ [32])) := cat14 (32 :: vs) [32]
              have hcat : str (32 :: (vs ++ [32])) ++ str rj = str (32 :: (vs ++ [32]) ++ rj) := cat14 _ rj
              have s1 := str_size rj
              have s2 := str_size (32 :: (vs ++ [32]))
              have s3 := str_size vs
              have s4 := str_size (32 :: vs)
              rw [List.length_cons, List.length_append, List.length_singleton] at s2
              rw [List.length_cons] at s4
              have hov : ¬ 9223372036854775807 < vs.length + 1 + 1 + rj.length := by omega
              have hov2 : ¬ 9223372036854775807 < 1 + vs.length := by omega
              have hov3 : ¬ 9223372036854775807 < vs.length + 1 + 1 := by omega
              clear hkt HImg hz1
              go_wp2_with (first
                | (go_at_call 64; first
                  | (refine (HA2.out _ HB4.out).mono ?_; rintro e w6 ⟨rfl, h6⟩; have HB6 := hideT (bel HB4.out h6); have cc6 := (h6.cell (p := ⟨w.heap.size, 0, none⟩) (cell_lt cc4)).trans cc4; clear h6)
                  | (refine (HA1.out _ HB1.out).mono ?_; rintro e w4 ⟨rfl, h4⟩; have HB4 := hideT (bel HB1.out h4); have cc4 := (h4.cell (p := ⟨w.heap.size, 0, none⟩) lc1).trans cc1; clear h4))
                | (go_at_call 19; refine (HJo.out _ HB6.out).mono ?_; rintro e w5 ⟨rfl, h5⟩; have HB5 := hideT (bel HB6.out h5); clear h5))
              go_ret
              exact ⟨by rw [HKT.out]; rfl, HB5.out⟩
          · have hst : st = va := by rw [HImg.out]; rfl
            subst hst
            have HKT : Hid (kt = st ++ rj) := by show _ = _; rw [hkt]; rfl
            have hcat : str st ++ str rj = str (st ++ rj) := cat14 st rj
            have s1 := str_size rj
            have s2 := str_size st
            have hov : ¬ 9223372036854775807 < st.length + rj.length := by omega
            clear hkt HImg HA2
            go_wp2_with (first
              | (go_at_call 64; refine (HA1.out _ HB1.out).mono ?_; rintro e w4 ⟨rfl, h4⟩; have HB4 := hideT (bel HB1.out h4); have cc4 := (h4.cell (p := ⟨w.heap.size, 0, none⟩) lc1).trans cc1; clear h4)
              | (go_at_call 19; refine (HJo.out _ HB4.out).mono ?_; rintro e w5 ⟨rfl, h5⟩; have HB5 := hideT (bel HB4.out h5); clear h5))
            go_ret
            exact ⟨by rw [HKT.out]; rfl, HB5.out⟩
        · have t2 : ((str qn).toList == [105, 109, 103]) = false := lit13_no n2
          have hst : st = [] := by rw [HStd.out, if_neg n1, if_neg n2]
          have HKT : Hid (kt = rj) := by show _ = _; rw [hkt, hst]; rfl
          clear hkt hst HStd HImg HA1 HA2 hv1 hv2 n1 n2
          go_wp2_with (go_at_call 19; refine (HJo.out _ HB1.out).mono ?_; rintro e w5 ⟨rfl, h5⟩; have HB5 := hideT (bel HB1.out h5); clear h5)
          go_ret
          exact ⟨by rw [HKT.out]; rfl, HB5.out⟩
  · have hk3 : qk = 3 := by
      rcases hkind with h | h
      · exact absurd h hk2
      · exact h
    subst hk3
    have HKT : Hid (kt = rj) := by show _ = _; rw [HRJ.out]; rfl
    clear HText HElem HRJ hkind hk2 HStd HImg HA1 HA2 hv1 hv2
    cases p
    · go_wp2_with (go_at_call 19; refine (HJo.out _ HB1.out).mono ?_; rintro e w5 ⟨rfl, h5⟩; have HB5 := hideT (bel HB1.out h5); clear h5)
      go_ret
      exact ⟨by rw [HKT.out]; rfl, HB5.out⟩
    · go_wp2_with (go_at_call 19; refine (HJo.out _ HB1.out).mono ?_; rintro e w5 ⟨rfl, h5⟩; have HB5 := hideT (bel HB1.out h5); clear h5)
      go_ret
      exact ⟨by rw [HKT.out]; rfl, HB5.out⟩
end
end Go.Proofs.YtoiedadfpbbdgaaGreat
/- The contracts of the reference's Text, Plain and HTML, and of look's HTML. -/
namespace Go.Proofs.YtoiedadfpbbdgaaGreat
open Go.RowKit
theorem Rjoins_any {ns : List Nd} {w0 : World} {a0 : Option Addr} {c0 : Nat} {p : Bool} (hns : ReadsN w0 (.slice a0 ns.length c0) ns) (hf : Fair14 ns) (hm : Tre.mayB ns = true) :
    ∀ f i, i < ns.length → ns.length - i ≤ f → RJoinC14 ns w0 (.slice a0 ns.length c0) p i ∧ (i ≠ 0 → RKidC14 ns w0 (.slice a0 ns.length c0) p i) := by
  intro f
  induction f with
  | zero => intro i hi hf; omega
  | succ f ih =>
    intro i hi hff
    have hj : RJoinC14 ns w0 (.slice a0 ns.length c0) p i := Rjoin14_any hns hf hm hi (fun k hik hkn => (ih k hkn (by omega)).2 (by omega))
    exact ⟨hj, fun h0 => Rkid14_any hns hf hm hi h0 hj⟩
theorem Rjoin14_told {ns : List Nd} {w : World} {v : Value} {p : Bool} (hv : ReadsN w v ns) (hf : Fair14 ns) (hm : Tre.mayB ns = true) {i : Nat} (hi : i < ns.length) (h3 : (Tre.ndAt ns i).kind ≠ 3) :
    Calls Tryz.prog 19 #[.agg #[v], .int .i64 (i : Int), .bool p] w fun e w' => e = .returned (.string (str (Lk.toldT ns p i))) ∧ Below w.heap.size w w' := by
  obtain ⟨a, c, rfl⟩ := hv.form
  have h := (Rjoins_any (p := p) hv hf hm ns.length i hi (Nat.sub_le ..)).1 w (Below.refl _ _)
  have e : rjT ns p i = Lk.toldT ns p i := by
    unfold rjT Lk.toldT
    rw [if_neg h3, if_neg h3]
  rw [e] at h
  exact h
set_option maxHeartbeats 4000000 in
set_option maxRecDepth 100000 in
theorem RText14_any (ns : List Nd) (v : Value) (at_ : Int) (w : World) (hv : ReadsN w v ns) (hf : Fair14 ns) (hk : ns.length ≤ 4096 → ∀ i, i < ns.length → (Tre.ndAt ns i).kids.length ≤ 140737488351232) :
    Calls Tryz.prog 7 #[.agg #[v], .int .i64 at_] w fun e w' => e = .returned (.string (str (Lk.textR ns at_))) ∧ Below w.heap.size w w' := by
  obtain ⟨a, c, rfl⟩ := hv.form
  have hb0 : Below w.heap.size w (w.alloc (.cells #[.slice a ns.length c] 24)) := (Below.refl _ _).alloc (Nat.le_refl _) _
  have cc0 := doc_cell (heap_new w (.cells #[.slice a ns.length c] 24))
  have lc := cell_lt cc0
  have HI := hideT (RIs14_any ns _ at_ _ (hv.below hb0) hf hk)
  have HB0 := hideT hb0
  cases hp : Lk.placeB ns at_
  · have HX : Hid (Lk.textR ns at_ = []) := by
      show _ = _
      unfold Lk.textR
      rw [hp]
      rfl
    rw [hp] at HI
    clear hv hb0 hf hp lc hk
    go_enter Tryz.func7, Tryz.ntmps7
    go_wp2_with (go_at_call 18; refine HI.out.mono ?_; rintro e w1 ⟨rfl, b1⟩; have HQ := hideT (bel HB0.out b1); clear b1)
    go_ret
    exact ⟨by rw [HX.out]; rfl, HQ.out⟩
  · obtain ⟨i, rfl, hi, hm⟩ := Lk.place_yes hp
    have hn4 := hf.few hm
    have hX : Lk.textR ns (i : Int) = Lk.toldT ns false i := by
      unfold Lk.textR
      rw [hp, if_pos rfl, Int.toNat_natCast]
    have HX := hideT hX
    rw [hp] at HI
    have HV0 := hideT (hv.below hb0)
    obtain ⟨g, o, aa, ac, ka, kc, rfl, hcc, hr⟩ := (hv.below hb0).at hi
    have hin : (i : Int) < (ns.length : Int) := by omega
    have HR := hideT hr
    have HF := hideT hf
    have HM := hideT hm
    clear hv hb0 hf hp hm hr hX hk
    by_cases hk3 : (Tre.ndAt ns i).kind = 3
    · have HT : Hid (Lk.toldT ns false i = (Tre.ndAt ns i).text) := if_pos hk3
      clear HF HM HV0
      generalize Tre.ndAt ns i = n at *
      obtain ⟨qk, qn, qa, qx, qu, qs⟩ := n
      simp only at hk3 HT
      subst hk3
      go_enter Tryz.func7, Tryz.ntmps7
      go_upto_region 3 with (go_at_call 18; refine HI.out.mono ?_; rintro e w1 ⟨rfl, b1⟩; have HQ := hideT (bel HB0.out b1); have cc1 := (b1.cell (p := ⟨w.heap.size, 0, none⟩) lc).trans cc0; have HR1 := hideT (HR.out.below b1); clear b1 HR HI)
      have c0 := HR1.out.c0
      have c3 := HR1.out.c3
      go_wp2
      go_ret
      exact ⟨by rw [HX.out, HT.out]; rfl, HQ.out⟩
    · have q3 : ((Tre.ndAt ns i).kind == (3 : Int)) = false := beq_eq_false_iff_ne.2 hk3
      have HJ := hideT (fun W (h : Below (w.alloc (.cells #[.slice (some ⟨g, o, none⟩) ns.length c] 24)).heap.size (w.alloc (.cells #[.slice (some ⟨g, o, none⟩) ns.length c] 24)) W) => Rjoin14_told (p := false) (HV0.out.below h) HF.out HM.out hi hk3)
      clear hk3 HF HM HV0
      obtain ⟨kd, hkd⟩ : ∃ kd, (Tre.ndAt ns i).kind = kd := ⟨_, rfl⟩
      rw [hkd] at q3
      go_enter Tryz.func7, Tryz.ntmps7
      go_upto_region 3 with (go_at_call 18; refine HI.out.mono ?_; rintro e w1 ⟨rfl, b1⟩; have HQ := hideT (bel HB0.out b1); have HJ1 := hideT (HJ.out w1 b1); have cc1 := (b1.cell (p := ⟨w.heap.size, 0, none⟩) lc).trans cc0; have HR1 := hideT (HR.out.below b1); clear b1 HR HI HJ)
      have c0 := HR1.out.c0
      rw [hkd] at c0
      clear HR1 hkd
      go_wp2_with (go_at_call 19; refine HJ1.out.mono ?_; rintro e w3 ⟨rfl, b3⟩; have HB3 := hideT (bel HQ.out b3); clear b3)
      go_ret
      exact ⟨by rw [HX.out]; rfl, HB3.out⟩
set_option maxHeartbeats 4000000 in
set_option maxRecDepth 100000 in
theorem RPlainIn14_any (ns : List Nd) (v : Value) (i : Nat) (w : World) (hv : ReadsN w v ns) (hf : Fair14 ns) (hi : i < ns.length) (hm : Tre.mayB ns = true) :
    Calls Tryz.prog 21 #[.agg #[v], .int .i64 (i : Int)] w fun e w' => e = .returned (.string (str (Asc.trim (Lk.toldT ns true i)))) ∧ Below w.heap.size w w' := by
  obtain ⟨a, c, rfl⟩ := hv.form
  have hb0 : Below w.heap.size w (w.alloc (.cells #[.slice a ns.length c] 24)) := (Below.refl _ _).alloc (Nat.le_refl _) _
  have cc0 := doc_cell (heap_new w (.cells #[.slice a ns.length c] 24))
  have lc := cell_lt cc0
  have HB0 := hideT hb0
  have hn4 := hf.few hm
  have htl := Lk.told_most hm true (hf.few hm) (hf.txt hm) (fun i hi a ha => (hf.val hm i hi a ha).2) hi
  have s1 := str_size (Lk.toldT ns true i)
  have hs : (str (Lk.toldT ns true i)).size ≤ 1000000000 := by omega
  have HTrim := hideT (fun W => RTrim_any (str (Lk.toldT ns true i)) W hs)
  have HV0 := hideT (hv.below hb0)
  have HJ := hideT (fun h3 => Rjoin14_told (p := true) (hv.below hb0) hf hm hi h3)
  obtain ⟨g, o, aa, ac, ka, kc, rfl, hcc, hr⟩ := (hv.below hb0).at hi
  have hin : (i : Int) < (ns.length : Int) := by omega
  clear hv hb0 hf hm htl s1 hs
  have c0 := hr.c0
  have c3 := hr.c3
  by_cases hk3 : (Tre.ndAt ns i).kind = 3
  · have HT : Hid (Lk.toldT ns true i = (Tre.ndAt ns i).text) := if_pos hk3
    rw [HT.out] at HTrim
    clear HJ HV0 hr
    generalize Tre.ndAt ns i = n at *
    obtain ⟨qk, qn, qa, qx, qu, qs⟩ := n
    simp only at hk3 HT c0 c3 HTrim
    subst hk3
    go_enter Tryz.func21, Tryz.ntmps21
    go_wp2_with (go_at_call 24; refine (HTrim.out _).mono ?_; rintro e w1 ⟨rfl, rfl⟩)
    go_ret
    exact ⟨by rw [HT.out]; rfl, HB0.out⟩
  · have q3 : ((Tre.ndAt ns i).kind == (3 : Int)) = false := beq_eq_false_iff_ne.2 hk3
    have HJ1 := hideT (HJ.out hk3)
    clear hk3 HJ HV0 hr c3
    obtain ⟨kd, hkd⟩ : ∃ kd, (Tre.ndAt ns i).kind = kd := ⟨_, rfl⟩
    rw [hkd] at q3 c0
    clear hkd
    go_enter Tryz.func21, Tryz.ntmps21
    go_wp2_with (first
      | (go_at_call 19; refine HJ1.out.mono ?_; rintro e w3 ⟨rfl, b3⟩; have HB3 := hideT (bel HB0.out b3); clear b3)
      | (go_at_call 24; refine (HTrim.out _).mono ?_; rintro e w1 ⟨rfl, rfl⟩))
    go_ret
    exact ⟨rfl, HB3.out⟩
set_option maxHeartbeats 4000000 in
set_option maxRecDepth 100000 in
theorem RPlain14_any (ns : List Nd) (v : Value) (at_ : Int) (w : World) (hv : ReadsN w v ns) (hf : Fair14 ns) (hk : ns.length ≤ 4096 → ∀ i, i < ns.length → (Tre.ndAt ns i).kids.length ≤ 140737488351232) :
    Calls Tryz.prog 9 #[.agg #[v], .int .i64 at_] w fun e w' => e = .returned (.string (str (Lk.plainR ns at_))) ∧ Below w.heap.size w w' := by
  obtain ⟨a, c, rfl⟩ := hv.form
  have hb0 : Below w.heap.size w (w.alloc (.cells #[.slice a ns.length c] 24)) := (Below.refl _ _).alloc (Nat.le_refl _) _
  have cc0 := doc_cell (heap_new w (.cells #[.slice a ns.length c] 24))
  have lc := cell_lt cc0
  have HI := hideT (RIs14_any ns _ at_ _ (hv.below hb0) hf hk)
  have HB0 := hideT hb0
  cases hp : Lk.placeB ns at_
  · have HX : Hid (Lk.plainR ns at_ = []) := by
      show _ = _
      unfold Lk.plainR
      rw [hp]
      rfl
    rw [hp] at HI
    clear hv hb0 hf hp lc hk
    go_enter Tryz.func9, Tryz.ntmps9
    go_wp2_with (go_at_call 18; refine HI.out.mono ?_; rintro e w1 ⟨rfl, b1⟩; have HQ := hideT (bel HB0.out b1); clear b1)
    go_ret
    exact ⟨by rw [HX.out]; rfl, HQ.out⟩
  · obtain ⟨i, rfl, hi, hm⟩ := Lk.place_yes hp
    have hX : Lk.plainR ns (i : Int) = Asc.trim (Lk.toldT ns true i) := by
      unfold Lk.plainR
      rw [hp, if_pos rfl, Int.toNat_natCast]
    have HX := hideT hX
    rw [hp] at HI
    have HP := hideT (fun W (h : Below (w.alloc (.cells #[.slice a ns.length c] 24)).heap.size (w.alloc (.cells #[.slice a ns.length c] 24)) W) => RPlainIn14_any ns _ i W ((hv.below hb0).below h) hf hi hm)
    clear hv hb0 hf hp hm hX hk
    go_enter Tryz.func9, Tryz.ntmps9
    go_wp2_with (first
      | (go_at_call 18; refine HI.out.mono ?_; rintro e w1 ⟨rfl, b1⟩; have HQ := hideT (bel HB0.out b1); have HP1 := hideT (HP.out w1 b1); have cc1 := (b1.cell (p := ⟨w.heap.size, 0, none⟩) lc).trans cc0; clear b1 HI HP)
      | (go_at_call 21; refine HP1.out.mono ?_; rintro e w3 ⟨rfl, b3⟩; have HB3 := hideT (bel HQ.out b3); clear b3))
    go_ret
    exact ⟨by rw [HX.out]; rfl, HB3.out⟩
theorem write_len (ns : List Nd) (at_ : Int) : (Tre.writeR ns at_).1.length ≤ 262144 := by
  unfold Tre.writeR
  split
  · split
    · assumption
    · exact Nat.zero_le _
  · exact Nat.zero_le _
theorem html_refused {ns : List Nd} {at_ : Int} (h : (Tre.writeR ns at_).2 ≠ 0) : Lk.htmlR ns at_ = [] := by
  unfold Lk.htmlR
  unfold Tre.writeR at h ⊢
  split
  · split
    · rename_i h1 h2
      rw [if_pos h1, if_pos h2] at h
      exact absurd rfl h
    · rfl
  · rfl
set_option maxHeartbeats 4000000 in
set_option maxRecDepth 100000 in
theorem RHTML14_any (ns : List Nd) (v : Value) (at_ : Int) (w : World) (hv : ReadsN w v ns) (hn : ns.length ≤ 140737488351232) (hf : ∀ n ∈ ns, Tre.FitN n) (hfar : Tre.farD ns = false) :
    Calls Tryz.prog 11 #[.agg #[v], .int .i64 at_] w fun e w' => e = .returned (.string (str (Lk.htmlR ns at_))) ∧ Below w.heap.size w w' := by
  obtain ⟨a, c, rfl⟩ := hv.form
  have hb0 : Below w.heap.size w (w.alloc (.cells #[.slice a ns.length c] 24)) := (Below.refl _ _).alloc (Nat.le_refl _) _
  have cc0 := doc_cell (heap_new w (.cells #[.slice a ns.length c] 24))
  have HB0 := hideT hb0
  have hl := write_len ns at_
  have s1 := str_size (Tre.writeR ns at_).1
  have HW := hideT (RWrite_any ns _ _ (hv.below hb0) hn hf hfar at_)
  have HTrim := hideT (fun W => RTrim_any (str (Tre.writeR ns at_).1) W (by omega))
  have HX : Hid (Lk.htmlR ns at_ = Asc.trim (Tre.writeR ns at_).1) := rfl
  clear hv hb0 hf hfar hl
  generalize Tre.writeR ns at_ = x at *
  obtain ⟨x1, x2⟩ := x
  simp only at HTrim HX s1
  go_enter Tryz.func11, Tryz.ntmps11
  go_wp2_with (first
    | (go_at_call 23; refine HW.out.mono ?_; rintro e w1 ⟨rfl, b1⟩; have HQ := hideT (bel HB0.out b1); clear b1 HW)
    | (go_at_call 24; refine (HTrim.out _).mono ?_; rintro e w3 ⟨rfl, rfl⟩))
  go_ret
  exact ⟨by rw [HX.out]; rfl, HQ.out⟩
set_option maxHeartbeats 4000000 in
set_option maxRecDepth 100000 in
theorem HTML14_any (ns : List Nd) (v : Value) (at_ : Int) (w : World) (hv : ReadsN w v ns) (hn : ns.length ≤ 140737488351232) (hat : ns.length ≤ 4096 → ∀ i, i < ns.length → (Tre.ndAt ns i).attrs.length ≤ 1000000) (hfew : Tre.mayB ns = true → Few ns) :
    Calls Tryz.prog 10 #[.agg #[v], .int .i64 at_] w fun e w' => e = .returned (.string (str (Lk.htmlR ns at_))) ∧ Below w.heap.size w w' := by
  obtain ⟨a, c, rfl⟩ := hv.form
  have hb0 : Below w.heap.size w (w.alloc (.cells #[.slice a ns.length c] 24)) := (Below.refl _ _).alloc (Nat.le_refl _) _
  have cc0 := doc_cell (heap_new w (.cells #[.slice a ns.length c] 24))
  have HB0 := hideT hb0
  have hl := write_len ns at_
  have s1 := str_size (Tre.writeR ns at_).1
  have HW := hideT (Write_may ns _ _ (hv.below hb0) hn hat hfew at_)
  have HTrim := hideT (fun W => Trim_any (str (Tre.writeR ns at_).1) W (by omega))
  have HX : Hid (Lk.htmlR ns at_ = Asc.trim (Tre.writeR ns at_).1) := rfl
  have HR := hideT (html_refused (ns := ns) (at_ := at_))
  have hx2 : (Tre.writeR ns at_).2 ≤ 5 := by
    unfold Tre.writeR
    split
    · split
      · exact Nat.zero_le _
      · exact Nat.le_refl _
    · exact Nat.le_refl _
  clear hv hb0 hat hfew hl
  generalize Tre.writeR ns at_ = x at *
  obtain ⟨x1, x2⟩ := x
  simp only at HTrim HX HR s1 hx2
  by_cases h0 : x2 = 0
  · subst h0
    go_enter Tryz.func10, Tryz.ntmps10
    go_wp2_with (first
      | (go_at_call 22; refine HW.out.mono ?_; rintro e w1 ⟨rfl, b1⟩; have HQ := hideT (bel HB0.out b1); clear b1 HW)
      | (go_at_call 20; refine (HTrim.out _).mono ?_; rintro e w3 ⟨rfl, rfl⟩))
    go_ret
    exact ⟨by rw [HX.out]; rfl, HQ.out⟩
  · have HE : Hid (Lk.htmlR ns at_ = []) := HR.out h0
    have hne : ((x2 : Int) == 0) = false := beq_eq_false_iff_ne.2 (by omega)
    have hne2 : ¬ (x2 : Int) = 0 := by omega
    go_enter Tryz.func10, Tryz.ntmps10
    go_wp2_with (go_at_call 22; refine HW.out.mono ?_; rintro e w1 ⟨rfl, b1⟩; have HQ := hideT (bel HB0.out b1); clear b1 HW)
    go_ret
    exact ⟨by rw [HE.out]; rfl, HQ.out⟩
end Go.Proofs.YtoiedadfpbbdgaaGreat
