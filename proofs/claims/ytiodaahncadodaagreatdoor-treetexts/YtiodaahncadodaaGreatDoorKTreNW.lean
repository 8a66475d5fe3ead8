/- Texts laid as one. -/
import Derived.Test.YtiodaahncadodaaGreatDoorKTreXZ
import Derived.Test.YtiodaahncadodaaGreatDoorKTreGI
import Derived.Shelf.Strings.BuilderF
import Derived.Test.YtiodaahncadodaaGreatDoorKTreAE
/- The contracts of a writer's node and kids. -/
set_option linter.unusedVariables false
set_option linter.unusedSimpArgs false
namespace Go.Proofs.YtiodaahncadodaaGreatDoor
open Go.RowKit
theorem enc_ge (a : Bool) (l : List UInt8) : l.length ≤ (Rf.enc a l).length := by
  have h := Rf.dec_len a (Rf.enc a l)
  rw [Rf.back a a l] at h
  exact h
theorem wt_cons13 (a : Pr) (l : List Pr) : Tk.wt (a :: l) = a.1.length + a.2.length + Tk.wt l := by
  unfold Tk.wt
  rw [List.map_cons, List.sum_cons]
theorem flat_ge : ∀ l : List Pr, Tk.wt l ≤ (l.flatMap Tk.attrText).length
  | [] => Nat.zero_le _
  | a :: l => by
    have ih := flat_ge l
    have he := enc_ge true a.2
    rw [List.flatMap_cons, List.length_append, wt_cons13]
    have h1 : (Tk.attrText a).length = a.1.length + (Rf.enc true a.2).length + 4 := by
      unfold Tk.attrText
      simp only [List.length_cons, List.length_append, List.length_nil]
      omega
    omega
theorem names_le : ∀ l : List Pr, (∀ a ∈ l, a.1 ≠ []) → l.length ≤ Tk.wt l
  | [], _ => Nat.zero_le _
  | a :: l, h => by
    have ih := names_le l (fun x hx => h x (List.mem_cons_of_mem _ hx))
    have ha : 1 ≤ a.1.length := List.length_pos_iff.2 (h a (List.mem_cons_self ..))
    rw [wt_cons13, List.length_cons]
    omega
theorem may_form {ns : List Nd} (h : Tre.mayB ns = true) {i : Nat} (hi : i < ns.length) :
    ((Tre.ndAt ns i).kind = 3 ∧ i ≠ 0 ∧ (Tre.ndAt ns i).name = [] ∧ (Tre.ndAt ns i).attrs = []) ∨ ((Tre.ndAt ns i).kind ≠ 3 ∧ (Tre.ndAt ns i).text = [] ∧ ∀ a ∈ (Tre.ndAt ns i).attrs, a.1 ≠ []) := by
  have hs := Tre.may_shape h hi
  unfold Tre.shapeB at hs
  split at hs
  · rename_i h0
    subst h0
    unfold Tre.rootB at hs
    simp only [Bool.and_eq_true, beq_iff_eq] at hs
    obtain ⟨h1, h2, h3, h4, h5⟩ := hs
    refine .inr ⟨by rw [h1]; decide, h5, fun a ha => ?_⟩
    rw [List.length_eq_zero_iff.1 h4] at ha
    cases ha
  · rename_i h0
    simp only [Bool.and_eq_true, Bool.or_eq_true] at hs
    rcases hs.2 with he | ht
    · unfold Tre.elemB at he
      simp only [Bool.and_eq_true, beq_iff_eq, Bool.not_eq_true'] at he
      obtain ⟨h1, h2, h3, h4⟩ := he
      refine .inr ⟨by rw [h1]; decide, h4, fun a ha e => ?_⟩
      have : Tk.has (Tre.ndAt ns i).attrs [] = true := by
        unfold Tk.has
        exact List.any_eq_true.2 ⟨a, ha, by rw [e]; rfl⟩
      rw [this] at h3
      cases h3
    · unfold Tre.textB at ht
      simp only [Bool.and_eq_true, beq_iff_eq] at ht
      exact .inl ⟨ht.1, h0, ht.2.1, List.length_eq_zero_iff.1 ht.2.2.1⟩
theorem raw_ge (ns : List Nd) (n : Nd) : n.text.length ≤ (rawText ns n).length := by
  unfold rawText
  split
  · exact Nat.le_refl _
  · exact enc_ge _ _
theorem least_le {ns : List Nd} (h : Tre.mayB ns = true) {i : Nat} (hi : i < ns.length) : leastN (Tre.ndAt ns i) ≤ (Tre.nodeT ns i).length := by
  unfold leastN
  rcases may_form h hi with ⟨h1, _, h3, h4⟩ | ⟨h1, h2, _⟩
  · rw [Tre.node_text h hi h1, h3, h4]
    have := raw_ge ns (Tre.ndAt ns i)
    unfold rawText at this
    show [].length + _ + 0 ≤ _
    simp only [List.length_nil]
    omega
  · rw [Tre.node_elem h hi h1, h2]
    have := flat_ge (Tre.ndAt ns i).attrs
    have e : Tk.tagText (Tre.startTok (Tre.ndAt ns i)) = 60 :: ((Tre.ndAt ns i).name ++ ((Tre.ndAt ns i).attrs.flatMap Tk.attrText ++ [62])) := rfl
    rw [e]
    simp only [List.length_append, List.length_cons, List.length_nil]
    omega
/-- Not so great that a machine could not count it. -/
def Few (ns : List Nd) : Prop := ∀ i, i < ns.length → (Tre.ndAt ns i).attrs.length ≤ 1000000000000000 ∧ leastN (Tre.ndAt ns i) ≤ 1000000000000000
theorem start_bears {n : Nd} (h : leastN n ≤ 262144) (hn : ∀ a ∈ n.attrs, a.1 ≠ []) : Bears (Tre.startTok n) ∧ Bears (Tre.endTok n) ∧ (Tk.tagText (Tre.startTok n)).length ≤ 1000000000 ∧ (Tk.tagText (Tre.endTok n)).length ≤ 1000000000 := by
  have h1 := names_le n.attrs hn
  have h2 := Tk.flat_len n.attrs
  unfold leastN at h
  have h3 : (60 :: (n.name ++ Tk.tailText n.attrs false)).length ≤ 1000000000 := by
    show (60 :: (n.name ++ (n.attrs.flatMap Tk.attrText ++ [62]))).length ≤ _
    simp only [List.length_cons, List.length_append, List.length_nil]
    omega
  refine ⟨⟨by show n.attrs.length ≤ _; omega, h3, fun a ha => ?_, Nat.zero_le _, by show n.name.length ≤ _; omega⟩, ⟨Nat.zero_le _, ?_, fun a ha => (by cases ha), Nat.zero_le _, by show n.name.length ≤ _; omega⟩, h3, ?_⟩
  · have := Tk.wt_mem n.attrs a ha
    omega
  · show (60 :: (n.name ++ Tk.tailText [] false)).length ≤ _
    unfold Tk.tailText
    simp
    omega
  · show (60 :: 47 :: (n.name ++ [62])).length ≤ _
    simp
    omega
section
variable {ns : List Nd} {w0 : World} {a0 : Option Addr} {c0 b : Nat}
def NodeC (ns : List Nd) (w0 : World) (nv : Value) (b i : Nat) : Prop := ∀ (w : World) (acc : List UInt8), WrAt b w nv acc → Below w0.heap.size w0 w → acc.length ≤ 262144 → Calls Tryz.prog 42 #[.pointer (some ⟨b, 0, none⟩), .int .i64 (i : Int)] w (WrPost b nv w acc (Tre.nodeT ns i))
def KidsC (ns : List Nd) (w0 : World) (nv : Value) (b i : Nat) : Prop := ∀ (w : World) (acc : List UInt8), WrAt b w nv acc → Below w0.heap.size w0 w → acc.length ≤ 262144 → Calls Tryz.prog 41 #[.pointer (some ⟨b, 0, none⟩), .int .i64 (i : Int)] w (WrPost b nv w acc (Tre.innerT ns i))
theorem inner_take (ks : List Int) (f : Int → List UInt8) (j : Nat) (h : j < ks.length) : (ks.take (j + 1)).flatMap f = (ks.take j).flatMap f ++ f ks[j] := by
  rw [List.take_succ_eq_append_getElem h, List.flatMap_append]
  simp
theorem inner_le (ks : List Int) (f : Int → List UInt8) (j : Nat) : ((ks.take j).flatMap f).length ≤ (ks.flatMap f).length := by
  have : ks.flatMap f = (ks.take j).flatMap f ++ (ks.drop j).flatMap f := by rw [← List.flatMap_append, List.take_append_drop]
  rw [this, List.length_append]
  omega
set_option maxHeartbeats 4000000 in
set_option maxRecDepth 100000 in
theorem kids_any (hns : ReadsN w0 (.slice a0 ns.length c0) ns) (hm : Tre.mayB ns = true) (hwb : w0.heap.size ≤ b) {i : Nat} (hi : i < ns.length) (ih : ∀ k, i < k → k < ns.length → NodeC ns w0 (.slice a0 ns.length c0) b k) : KidsC ns w0 (.slice a0 ns.length c0) b i := by
  intro w acc h hbel ha
  obtain ⟨g, o, xa, xc, xk, xd, rfl, hcc, hr0⟩ := hns.at hi
  have hr := hr0.below hbel
  have hnl := ((Tre.mayB_iff ns).1 hm).1.2
  have HK := hideT (fun k hk => Tre.may_kid hm hi (k := k) hk)
  have HE : Hid (Tre.innerT ns i = (Tre.ndAt ns i).kids.flatMap fun k => Tre.nodeT ns k.toNat) := rfl
  have hkl : (Tre.ndAt ns i).kids.length ≤ 4096 := by
    rw [Tre.may_kids hm hi]
    exact Nat.le_trans (Tre.kidsTo_le ns i _) hnl
  have c5 := hr.c5
  have hrk := hr0.kds
  have cb : w.cell? ⟨b, 0, none⟩ = some (.slice (some ⟨g, o, none⟩) ns.length c0) := by
    obtain ⟨p, v, h1, _⟩ := h
    exact Lib.cell_of_heap h1 0
  have HA0 := hideT h
  have HBel := hideT hbel
  have HIH := hideT ih
  have HRK := hideT hrk
  generalize (Tre.ndAt ns i).kids = ks at *
  clear hns hbel h ih hrk hr hr0
  go_enter Tryz.func41, Tryz.ntmps41
  go_wp2
  go_loopw [16] (fun s wr => ∃ j : Nat, s = .int .i64 j ∧ j ≤ ks.length ∧ Hid (acc.length + ((ks.take j).flatMap fun k => Tre.nodeT ns k.toNat).length ≤ 262144) ∧ Hid (WrAt b wr (.slice (some ⟨g, o, none⟩) ns.length c0) (acc ++ (ks.take j).flatMap fun k => Tre.nodeT ns k.toNat)) ∧ Hid (Wr13 b w wr)) (fun s _ => ks.length - (intOf s).toNat)
  case atStart => exact ⟨0, rfl, Nat.zero_le _, by show acc.length + 0 ≤ _; omega, by show WrAt b w _ (acc ++ []); rw [List.append_nil]; exact HA0.out, Wr13.refl _ _⟩
  case round =>
    obtain ⟨j, rfl, hj, HF, HW, HB⟩ := hrel
    by_cases hjl : j < ks.length
    · obtain ⟨k, hk, hik, hkn, _⟩ := HK.out ks[j] (List.getElem_mem hjl)
      have hBw : Below w0.heap.size w0 wr := HBel.out.trans (HB.out.bel.mono hwb)
      obtain ⟨gk, ok, rfl, hck, hgk, ck⟩ := ReadsIs.at (HRK.out.below hBw) (List.getElem?_eq_getElem hjl)
      have HN := hideT (inner_take ks (fun k => Tre.nodeT ns k.toNat) j hjl)
      have HLE := hideT (inner_le ks (fun k => Tre.nodeT ns k.toNat) (j + 1))
      have HC := hideT (HIH.out k hik hkn wr _ HW.out hBw (by rw [List.length_append]; exact HF.out))
      rw [hk] at ck HN
      have HJ : Hid (j + 1 ≤ ks.length) := hjl
      have HBw := hideT hBw
      simp only [Int.toNat_natCast] at HN
      generalize hS : ((ks.take j).flatMap fun k => Tre.nodeT ns k.toNat) = S at *
      clear hBw hk
      by_cases hfit : (acc ++ S).length + (Tre.nodeT ns k).length ≤ 262144
      · have HD : Hid (decide ((acc ++ S).length + (Tre.nodeT ns k).length ≤ 262144) = true) := decide_eq_true hfit
        have HFit := hideT hfit
        clear hfit
        go_wp2_with (go_at_call 42; refine HC.out.mono ?_; rintro e w2 ⟨rfl, b2, k2⟩; rw [HD.out]; have HW2 := hideT (k2 HFit.out); have HB2 := hideT b2; clear b2 k2)
        go_roundw
        case rel => exact ⟨j + 1, by go_num, HJ.out, by show acc.length + _ ≤ _; rw [HN.out]; have := HFit.out; simp only [List.length_append] at this ⊢; omega, by show WrAt b _ _ _; rw [HN.out, ← List.append_assoc]; exact HW2.out, HB.out.trans HB2.out⟩
        case measure => have := HJ.out; simp [intOf]; omega
      · have HD : Hid (decide ((acc ++ S).length + (Tre.nodeT ns k).length ≤ 262144) = false) := decide_eq_false hfit
        have HX : Hid (¬ acc.length + (Tre.innerT ns i).length ≤ 262144) := fun h => by
          have h2 := HLE.out
          rw [HN.out] at h2
          rw [HE.out] at h
          simp only [List.length_append] at h2 hfit
          omega
        clear hfit
        go_wp2_with (go_at_call 42; refine HC.out.mono ?_; rintro e w2 ⟨rfl, b2, k2⟩; rw [HD.out]; have HB2 := hideT b2; clear b2 k2)
        go_ret
        exact ⟨by rw [decide_eq_false HX.out]; rfl, HB.out.trans HB2.out, fun h => absurd h HX.out⟩
    · have hje : j = ks.length := by omega
      subst hje
      have HX : Hid (acc.length + (Tre.innerT ns i).length ≤ 262144) := by
        show _ ≤ _
        have := HF.out
        rw [List.take_length] at this
        rw [HE.out]
        exact this
      have HW2 : Hid (WrAt b wr (.slice (some ⟨g, o, none⟩) ns.length c0) (acc ++ Tre.innerT ns i)) := by
        show WrAt _ _ _ _
        have := HW.out
        rw [List.take_length] at this
        rw [HE.out]
        exact this
      clear HF HW
      go_wp2
      go_ret
      exact ⟨by rw [decide_eq_true HX.out]; rfl, HB.out, fun _ => HW2.out⟩
theorem WrPost.base {b : Nat} {nv : Value} {w w1 : World} {acc x : List UInt8} {e : Ending} {w' : World} (h : WrPost b nv w1 acc x e w') (hb : Wr13 b w w1) : WrPost b nv w acc x e w' := ⟨h.1, hb.trans h.2.1, h.2.2⟩
set_option maxHeartbeats 8000000 in
set_option maxRecDepth 100000 in
theorem node_any (hns : ReadsN w0 (.slice a0 ns.length c0) ns) (hm : Tre.mayB ns = true) (hfew : Few ns) (hwb : w0.heap.size ≤ b) {i : Nat} (hi : i < ns.length) (ih : KidsC ns w0 (.slice a0 ns.length c0) b i) : NodeC ns w0 (.slice a0 ns.length c0) b i := by
  intro w acc h hbel ha
  have hbl := h.lt
  obtain ⟨g, o, aa, ac, ka, kc, rfl, hcc, hr0⟩ := hns.at hi
  have hr := hr0.below hbel
  have hnl := ((Tre.mayB_iff ns).1 hm).1.2
  have cb : w.cell? ⟨b, 0, none⟩ = some (.slice (some ⟨g, o, none⟩) ns.length c0) := by
    obtain ⟨p, v, h1, _⟩ := h
    exact Lib.cell_of_heap h1 0
  have hle := least_le hm hi
  have hform := may_form hm hi
  have hf := hfew i hi
  have hup : i ≠ 0 → 0 ≤ (Tre.ndAt ns i).up ∧ (Tre.ndAt ns i).up < (ns.length : Int) := fun h0 => by
    have := Tre.may_up hm hi h0
    omega
  have HNT := hideT (fun h => Tre.node_text hm hi h)
  have HNE := hideT (fun h => Tre.node_elem hm hi h)
  have HRN := hideT hns
  have HBel := hideT hbel
  have HW := hideT h
  have HIH := hideT ih
  have HR0 := hideT hr0
  have hrng := hr.rng
  have hb1 : Below w.heap.size w (w.alloc (.cells (nL (Tre.ndAt ns i) aa ac ka kc).toArray 43)) := (Below.refl _ w).alloc (Nat.le_refl _) _
  have hh := heap_new w (.cells (nL (Tre.ndAt ns i) aa ac ka kc).toArray 43)
  have HLeast := hideT (least_any (Tre.ndAt ns i) aa ac ka kc _ ((hr.ats).below hb1) hf.1 hf.2)
  have HB1 := hideT hb1
  have hsz1 := hb1.size
  generalize hnd : Tre.ndAt ns i = n at *
  obtain ⟨kd, nm, ats, tx, up, ks⟩ := n
  have HRNG := hideT hrng
  have cc0 := Lib.cell_of_heap hh 0
  have cc1 := Lib.cell_of_heap hh 1
  have cc2 := Lib.cell_of_heap hh 2
  clear hns hbel h ih hr0 hr hrng hb1
  by_cases hbig : 262144 < leastN ⟨kd, nm, ats, tx, up, ks⟩
  · have q1 : (262144 : Int) < (leastN ⟨kd, nm, ats, tx, up, ks⟩ : Int) := by omega
    have HX : Hid (¬ acc.length + (Tre.nodeT ns i).length ≤ 262144) := fun h => by omega
    clear hform hup hf hle hbig hnd HNT HNE
    go_enter Tryz.func42, Tryz.ntmps42
    go_wp2_with (first
      | ((with_reducible show wpList _ _ _ ({ op := Op.load 43 _, .. } :: _) _ _); refine wpList_load_N (by rfl) _ rfl g (o + i * 6) rfl _ _ _ _ _ _ HRNG.out ?_)
      | ((with_reducible show wpList _ _ _ ({ op := Op.load 43 _, .. } :: _) _ _); refine wpList_load_N (by rfl) _ rfl w.heap.size 0 rfl _ _ _ _ _ _ (range_of hh) ?_)
      | (go_at_call 65; refine HLeast.out.mono ?_; rintro e w1 ⟨rfl, b1⟩; have HQ := hideT (Wr13.of (bel HB1.out b1) (Nat.le_of_lt hbl))))
    go_ret
    exact ⟨by rw [decide_eq_false HX.out]; rfl, HQ.out, fun h => absurd h HX.out⟩
  · have q1 : ¬ (262144 : Int) < (leastN ⟨kd, nm, ats, tx, up, ks⟩ : Int) := by omega
    have hls : leastN ⟨kd, nm, ats, tx, up, ks⟩ ≤ 262144 := by omega
    have htx : tx.length ≤ 262144 := by
      unfold leastN at hls
      simp only at hls
      omega
    rcases hform with ⟨h3, hi0, h5, h6⟩ | ⟨h3, h5, h6⟩
    · simp only at h3 h5 h6
      subst h3 h5 h6
      have HTX := hideT (fun W (hW : Below w.heap.size w W) => wtext_any (ns := ns) (w0 := w0) ⟨3, [], [], tx, up, ks⟩ aa ac ka kc (HW.out.below hW) HRN.out (HBel.out.trans (hW.mono HBel.out.size)) (hup hi0) hnl htx ha)
      have HE : Hid (Tre.nodeT ns i = rawText ns ⟨3, [], [], tx, up, ks⟩) := by show _ = _; rw [HNT.out rfl]; rfl
      clear hup hf hle hbig hnd HNT HNE hls
      go_enter Tryz.func42, Tryz.ntmps42
      go_wp2_with (first
        | ((with_reducible show wpList _ _ _ ({ op := Op.load 43 _, .. } :: _) _ _); refine wpList_load_N (by rfl) _ rfl g (o + i * 6) rfl _ _ _ _ _ _ HRNG.out ?_)
        | ((with_reducible show wpList _ _ _ ({ op := Op.load 43 _, .. } :: _) _ _); refine wpList_load_N (by rfl) _ rfl w.heap.size 0 rfl _ _ _ _ _ _ (range_of hh1) ?_)
        | ((with_reducible show wpList _ _ _ ({ op := Op.load 43 _, .. } :: _) _ _); refine wpList_load_N (by rfl) _ rfl w.heap.size 0 rfl _ _ _ _ _ _ (range_of hh) ?_)
        | (go_at_call 65; refine HLeast.out.mono ?_; rintro e w1 ⟨rfl, b1⟩; have HQ := hideT (bel HB1.out b1); have hh1 := (b1.block w.heap.size (by simp)).trans hh; have k0 := Lib.cell_of_heap hh1 0)
        | (go_at_call 66; refine (HTX.out _ HQ.out).mono ?_; rintro e w2 hp; have HP := hideT (hp.base (Wr13.of HQ.out (Nat.le_of_lt hbl))); obtain ⟨rfl, _⟩ := hp))
      go_ret
      rw [HE.out]
      exact HP.out
    · simp only at h3 h5 h6
      subst h5
      have q3 : (kd == (3 : Int)) = false := by rw [beq_eq_false_iff_ne]; exact h3
      obtain ⟨hbs, hbe, hl1, hl2⟩ := start_bears hls h6
      have HNX := hideT (HNE.out h3)
      have HTagS := hideT (fun W (hW : Below w.heap.size w W) => Tag_any (Tre.startTok ⟨kd, nm, ats, [], up, ks⟩) (.slice aa ats.length ac) W ((HR0.out.ats.below (HBel.out)).below hW) hbs)
      have HTagE := hideT (fun W => Tag_any (Tre.endTok ⟨kd, nm, ats, [], up, ks⟩) (.slice none 0 0) W (.inl ⟨none, 0, rfl, rfl⟩) hbe)
      have HPutS := hideT (fun W (hW : Below w.heap.size w W) => put13 (Tk.tagText (Tre.startTok ⟨kd, nm, ats, [], up, ks⟩)) (HW.out.below hW) ha hl1)
      generalize Tk.tagText (Tre.startTok ⟨kd, nm, ats, [], up, ks⟩) = T1 at *
      generalize Tk.tagText (Tre.endTok ⟨kd, nm, ats, [], up, ks⟩) = T2 at *
      have HBL := hideT (Nat.le_of_lt hbl)
      have HBL2 := hideT hbl
      have HV := hideT (isVoid_any nm)
      have HNL : Hid ((Tre.nodeT ns i).length = T1.length + ((Tre.innerT ns i).length + (if Tre.isVoid nm = true then ([] : List UInt8) else T2).length)) := by
        show _ = _
        rw [HNX.out, List.length_append, List.length_append]
      clear hup hf hle hbig hnd HNT HNE hls hbs hbe hl1 htx h6
      by_cases hf1 : acc.length + T1.length ≤ 262144
      · have HD1 : Hid (decide (acc.length + T1.length ≤ 262144) = true) := decide_eq_true hf1
        have HF1 := hideT hf1
        clear hf1
        by_cases hf2 : (acc ++ T1).length + (Tre.innerT ns i).length ≤ 262144
        · have HD2 : Hid (decide ((acc ++ T1).length + (Tre.innerT ns i).length ≤ 262144) = true) := decide_eq_true hf2
          have HF2 := hideT hf2
          clear hf2
          cases hv : Tre.isVoid nm
          · have HX : Hid (Tre.nodeT ns i = T1 ++ (Tre.innerT ns i ++ T2)) := by
              show _ = _
              rw [HNX.out]
              show T1 ++ (_ ++ (if Tre.isVoid nm = true then [] else T2)) = _
              rw [hv]
              rfl
            rw [hv] at HV
            clear hv HNL HNX
            go_enter Tryz.func42, Tryz.ntmps42
            go_wp2_with (first
              | ((with_reducible show wpList _ _ _ ({ op := Op.load 43 _, .. } :: _) _ _); refine wpList_load_N (by rfl) _ rfl g (o + i * 6) rfl _ _ _ _ _ _ HRNG.out ?_)
              | ((with_reducible show wpList _ _ _ ({ op := Op.load 43 _, .. } :: _) _ _); refine wpList_load_N (by rfl) _ rfl w.heap.size 0 rfl _ _ _ _ _ _ (range_of hh) ?_)
              | (go_at_call 65; refine HLeast.out.mono ?_; rintro e w1 ⟨rfl, b1⟩; have HQ1 := hideT (bel HB1.out b1); have hh1 := (b1.block w.heap.size (by simp)).trans hh; have k0 := Lib.cell_of_heap hh1 0; have k1 := Lib.cell_of_heap hh1 1; have k2 := Lib.cell_of_heap hh1 2)
              | (go_at_call 68; refine (HTagS.out _ HQ1.out).mono ?_; rintro e w2 ⟨rfl, b2⟩; have HQ2 := hideT (bel HQ1.out b2); have HH2 := hideT ((b2.block w.heap.size (Array.getElem?_eq_some_iff.1 hh1).1).trans hh1); clear b2 HTagS)
              | (go_at_call 67; refine (HPutS.out _ HQ2.out).mono ?_; rintro e w3 ⟨rfl, b3, h3⟩; rw [HD1.out]; have HQ3 := hideT ((Wr13.of HQ2.out HBL.out).trans b3); have HW3 := hideT (h3 HF1.out); have HH3 := hideT (b3.others _ _ HH2.out (fun e => by cases e; exact absurd HBL2.out (Nat.lt_irrefl _)) (fun c fz e => by cases e)); clear b3 h3 HPutS)
              | (go_at_call 41; refine (HIH.out w3 (acc ++ T1) HW3.out (HBel.out.trans (HQ3.out.bel.mono hwb)) (by rw [List.length_append]; exact HF1.out)).mono ?_; rintro e w4 ⟨rfl, b4, h4⟩; rw [HD2.out]; have HQ4 := hideT (HQ3.out.trans b4); have HW4 := hideT (h4 HF2.out); have hh4 := b4.others _ _ HH3.out (fun e => by cases e; exact absurd HBL2.out (Nat.lt_irrefl _)) (fun c fz e => by cases e); have m1 := Lib.cell_of_heap hh4 1; clear b4 h4)
              | (go_at_call 69; refine (HV.out w4).mono ?_; rintro e w5 ⟨rfl, he5⟩; replace he5 := he5.symm; subst he5)
              | (go_at_call 68; refine (HTagE.out w4).mono ?_; rintro e w6 ⟨rfl, b6⟩; have HW6 := hideT (HW4.out.below b6); have HQ6 := hideT (HQ4.out.trans (Wr13.of b6 (Nat.le_of_lt HW4.out.lt))); clear b6)
              | (go_at_call 67; refine (put13 T2 HW6.out (by rw [List.length_append]; exact HF2.out) hl2).mono ?_; rintro e w7 ⟨rfl, b7, h7⟩; have HQ7 := hideT (HQ6.out.trans b7); have HW7 := hideT h7; clear b7 h7))
            go_ret
            rw [HX.out]
            have e9 : (acc ++ T1 ++ Tre.innerT ns i).length + T2.length = acc.length + (T1 ++ (Tre.innerT ns i ++ T2)).length := by
              simp only [List.length_append]
              omega
            refine ⟨?_, HQ7.out, fun hx => ?_⟩
            · have e8 : acc.length + (T1.length + (Tre.innerT ns i).length) + T2.length = acc.length + (T1 ++ (Tre.innerT ns i ++ T2)).length := by
                simp only [List.length_append]
                omega
              rw [← e8]
              rfl
            · have := HW7.out (by rw [e9]; exact hx)
              simpa only [List.append_assoc] using this
          · have HX : Hid (Tre.nodeT ns i = T1 ++ Tre.innerT ns i) := by
              show _ = _
              rw [HNX.out]
              show T1 ++ (_ ++ (if Tre.isVoid nm = true then [] else T2)) = _
              rw [hv]
              simp
            rw [hv] at HV
            clear hv HNL HNX
            go_enter Tryz.func42, Tryz.ntmps42
            go_wp2_with (first
              | ((with_reducible show wpList _ _ _ ({ op := Op.load 43 _, .. } :: _) _ _); refine wpList_load_N (by rfl) _ rfl g (o + i * 6) rfl _ _ _ _ _ _ HRNG.out ?_)
              | ((with_reducible show wpList _ _ _ ({ op := Op.load 43 _, .. } :: _) _ _); refine wpList_load_N (by rfl) _ rfl w.heap.size 0 rfl _ _ _ _ _ _ (range_of hh) ?_)
              | (go_at_call 65; refine HLeast.out.mono ?_; rintro e w1 ⟨rfl, b1⟩; have HQ1 := hideT (bel HB1.out b1); have hh1 := (b1.block w.heap.size (by simp)).trans hh; have k0 := Lib.cell_of_heap hh1 0; have k1 := Lib.cell_of_heap hh1 1; have k2 := Lib.cell_of_heap hh1 2)
              | (go_at_call 68; refine (HTagS.out _ HQ1.out).mono ?_; rintro e w2 ⟨rfl, b2⟩; have HQ2 := hideT (bel HQ1.out b2); have HH2 := hideT ((b2.block w.heap.size (Array.getElem?_eq_some_iff.1 hh1).1).trans hh1); clear b2 HTagS)
              | (go_at_call 67; refine (HPutS.out _ HQ2.out).mono ?_; rintro e w3 ⟨rfl, b3, h3⟩; rw [HD1.out]; have HQ3 := hideT ((Wr13.of HQ2.out HBL.out).trans b3); have HW3 := hideT (h3 HF1.out); have HH3 := hideT (b3.others _ _ HH2.out (fun e => by cases e; exact absurd HBL2.out (Nat.lt_irrefl _)) (fun c fz e => by cases e)); clear b3 h3 HPutS)
              | (go_at_call 41; refine (HIH.out w3 (acc ++ T1) HW3.out (HBel.out.trans (HQ3.out.bel.mono hwb)) (by rw [List.length_append]; exact HF1.out)).mono ?_; rintro e w4 ⟨rfl, b4, h4⟩; rw [HD2.out]; have HQ4 := hideT (HQ3.out.trans b4); have HW4 := hideT (h4 HF2.out); have hh4 := b4.others _ _ HH3.out (fun e => by cases e; exact absurd HBL2.out (Nat.lt_irrefl _)) (fun c fz e => by cases e); have m1 := Lib.cell_of_heap hh4 1; clear b4 h4)
              | (go_at_call 69; refine (HV.out w4).mono ?_; rintro e w5 ⟨rfl, he5⟩; replace he5 := he5.symm; subst he5))
            go_ret
            rw [HX.out]
            have e9 : (acc ++ T1).length + (Tre.innerT ns i).length = acc.length + (T1 ++ Tre.innerT ns i).length := by
              simp only [List.length_append]
              omega
            refine ⟨?_, HQ4.out, fun hx => ?_⟩
            · rw [← e9, HD2.out]
              rfl
            · have := HW4.out
              simpa only [List.append_assoc] using this
        · have HD2 : Hid (decide ((acc ++ T1).length + (Tre.innerT ns i).length ≤ 262144) = false) := decide_eq_false hf2
          have HX : Hid (¬ acc.length + (Tre.nodeT ns i).length ≤ 262144) := fun h => by
            have := HNL.out
            rw [List.length_append] at hf2
            omega
          clear hf2 HNL HNX
          go_enter Tryz.func42, Tryz.ntmps42
          go_wp2_with (first
            | ((with_reducible show wpList _ _ _ ({ op := Op.load 43 _, .. } :: _) _ _); refine wpList_load_N (by rfl) _ rfl g (o + i * 6) rfl _ _ _ _ _ _ HRNG.out ?_)
            | ((with_reducible show wpList _ _ _ ({ op := Op.load 43 _, .. } :: _) _ _); refine wpList_load_N (by rfl) _ rfl w.heap.size 0 rfl _ _ _ _ _ _ (range_of hh) ?_)
            | (go_at_call 65; refine HLeast.out.mono ?_; rintro e w1 ⟨rfl, b1⟩; have HQ1 := hideT (bel HB1.out b1); have hh1 := (b1.block w.heap.size (by simp)).trans hh; have k0 := Lib.cell_of_heap hh1 0; have k1 := Lib.cell_of_heap hh1 1; have k2 := Lib.cell_of_heap hh1 2)
            | (go_at_call 68; refine (HTagS.out _ HQ1.out).mono ?_; rintro e w2 ⟨rfl, b2⟩; have HQ2 := hideT (bel HQ1.out b2); have HH2 := hideT ((b2.block w.heap.size (Array.getElem?_eq_some_iff.1 hh1).1).trans hh1); clear b2 HTagS)
            | (go_at_call 67; refine (HPutS.out _ HQ2.out).mono ?_; rintro e w3 ⟨rfl, b3, h3⟩; rw [HD1.out]; have HQ3 := hideT ((Wr13.of HQ2.out HBL.out).trans b3); have HW3 := hideT (h3 HF1.out); have HH3 := hideT (b3.others _ _ HH2.out (fun e => by cases e; exact absurd HBL2.out (Nat.lt_irrefl _)) (fun c fz e => by cases e)); clear b3 h3 HPutS)
            | (go_at_call 41; refine (HIH.out w3 (acc ++ T1) HW3.out (HBel.out.trans (HQ3.out.bel.mono hwb)) (by rw [List.length_append]; exact HF1.out)).mono ?_; rintro e w4 ⟨rfl, b4, h4⟩; rw [HD2.out]; have HQ4 := hideT (HQ3.out.trans b4); clear b4 h4))
          go_ret
          exact ⟨by rw [decide_eq_false HX.out]; rfl, HQ4.out, fun h => absurd h HX.out⟩
      · have HD1 : Hid (decide (acc.length + T1.length ≤ 262144) = false) := decide_eq_false hf1
        have HX : Hid (¬ acc.length + (Tre.nodeT ns i).length ≤ 262144) := fun h => by
          have := HNL.out
          omega
        clear hf1 HNL HNX
        go_enter Tryz.func42, Tryz.ntmps42
        go_wp2_with (first
          | ((with_reducible show wpList _ _ _ ({ op := Op.load 43 _, .. } :: _) _ _); refine wpList_load_N (by rfl) _ rfl g (o + i * 6) rfl _ _ _ _ _ _ HRNG.out ?_)
          | ((with_reducible show wpList _ _ _ ({ op := Op.load 43 _, .. } :: _) _ _); refine wpList_load_N (by rfl) _ rfl w.heap.size 0 rfl _ _ _ _ _ _ (range_of hh) ?_)
          | (go_at_call 65; refine HLeast.out.mono ?_; rintro e w1 ⟨rfl, b1⟩; have HQ1 := hideT (bel HB1.out b1); have hh1 := (b1.block w.heap.size (by simp)).trans hh; have k0 := Lib.cell_of_heap hh1 0; have k1 := Lib.cell_of_heap hh1 1; have k2 := Lib.cell_of_heap hh1 2)
          | (go_at_call 68; refine (HTagS.out _ HQ1.out).mono ?_; rintro e w2 ⟨rfl, b2⟩; have HQ2 := hideT (bel HQ1.out b2); have HH2 := hideT ((b2.block w.heap.size (Array.getElem?_eq_some_iff.1 hh1).1).trans hh1); clear b2 HTagS)
          | (go_at_call 67; refine (HPutS.out _ HQ2.out).mono ?_; rintro e w3 ⟨rfl, b3, h3⟩; rw [HD1.out]; have HQ3 := hideT ((Wr13.of HQ2.out HBL.out).trans b3); clear b3 h3 HPutS))
        go_ret
        exact ⟨by rw [decide_eq_false HX.out]; rfl, HQ3.out, fun h => absurd h HX.out⟩
end
end Go.Proofs.YtiodaahncadodaaGreatDoor
/- The contracts of a writer's node and kids, of all nodes; a writer's String. -/
namespace Go.Proofs.YtiodaahncadodaaGreatDoor
open Go.RowKit
theorem writes_any {ns : List Nd} {w0 : World} {a0 : Option Addr} {c0 b : Nat} (hns : ReadsN w0 (.slice a0 ns.length c0) ns) (hm : Tre.mayB ns = true) (hfew : Few ns) (hwb : w0.heap.size ≤ b) :
    ∀ f i, i < ns.length → ns.length - i ≤ f → NodeC ns w0 (.slice a0 ns.length c0) b i ∧ KidsC ns w0 (.slice a0 ns.length c0) b i := by
  intro f
  induction f with
  | zero => intro i hi hf; omega
  | succ f ih =>
    intro i hi hf
    have hk : KidsC ns w0 (.slice a0 ns.length c0) b i := kids_any hns hm hwb hi (fun k hik hkn => (ih k hkn (by omega)).1)
    exact ⟨node_any hns hm hfew hwb hi hk, hk⟩
end Go.Proofs.YtiodaahncadodaaGreatDoor
/- strings.Builder.String of a builder within a writer. -/
namespace Go.Proofs.YtiodaahncadodaaGreatDoor
open Go.RowKit
set_option maxHeartbeats 4000000 in
set_option maxRecDepth 100000 in
theorem String13 {b : Nat} {w : World} {nv : Value} {acc : List UInt8} (h : WrAt b w nv acc) (hl : acc.length ≤ 10000000000) :
    Calls Tryz.prog 43 #[.pointer (some ⟨b, 1, none⟩)] w fun e w' => e = .returned (.string (str acc)) ∧ Below b w w' := by
  have hbl := h.lt
  have mixed : Tryz.prog.follows Departure.mixedOrders = true := by kernel_rfl
  obtain ⟨p, v, hbk, hp, hown, hne⟩ := h
  have hbkd : w.drew.heap[b]? = some (.cells #[nv, p, v] 82 (0, 0)) := hbk
  have c2 := Lib.cell_of_heap hbkd 2
  have c20 := Lib.cell_of_heap hbk 2
  have hBd : Below b w w.drew := (Below.refl b w).drew
  by_cases h0 : acc = []
  · subst h0
    have hUS := fun (W : World) (q : Option Addr) => Lib.run_unsafeString_none (P := Tryz.prog) W 113 3 9 q
    have HE : Hid (str [] = ByteArray.empty) := rfl
    rcases hown.2 with ⟨rfl, _⟩ | ⟨g, cap, cur, fz, rfl, hbg, hg, hrest⟩
    · have hSD : (Builtin.unsafeSliceData_ #[78] 113 #[.slice none 0 0]).run Tryz.prog w.drew = .ok (.pointer none) w.drew := rfl
      have HB := hideT hBd
      clear hbk hp hown hne hbkd hBd
      go_enter Tryz.func43, Tryz.ntmps43
      go_wp2
      go_region_o
      all_goals (go_wp2; go_ret; exact ⟨rfl, HB.out⟩)
    · by_cases hc0 : cap = 0
      · subst hc0
        have hgd : w.drew.heap[g]? = some (.cells cur 5 fz) := hg
        have hSD : (Builtin.unsafeSliceData_ #[78] 113 #[.slice (some ⟨g, 0, none⟩) 0 0]).run Tryz.prog w.drew = .ok (.pointer (some ⟨w.drew.heap.size, 0, none⟩)) (w.drew.alloc (.view ⟨g, 0, none⟩ 5)) :=
          Lib.run_unsafeSliceData_zero w.drew _ _ 5 Tryz.underlying113 ⟨g, 0, none⟩ 0 (5, cur.size) (by simp [World.shape?, hgd])
        have c5 : (w.drew.alloc (.view ⟨g, 0, none⟩ 5)).cell? ⟨b, 2, none⟩ = some (.slice (some ⟨g, 0, none⟩) 0 0) := by
          have : (w.drew.alloc (.view ⟨g, 0, none⟩ 5)).heap[b]? = _ := (Lib.alloc_old w.drew _ b hbl).trans hbkd
          rw [Lib.cell_of_heap this]; rfl
        have c6 : (w.alloc (.view ⟨g, 0, none⟩ 5)).drew.cell? ⟨b, 2, none⟩ = some (.slice (some ⟨g, 0, none⟩) 0 0) := c5
        have HB : Hid (Below b w (w.drew.alloc (.view ⟨g, 0, none⟩ 5))) := hBd.alloc (Nat.le_of_lt hbl) _
        clear hbk hp hown hne hbkd hBd hrest hg hgd
        go_enter Tryz.func43, Tryz.ntmps43
        go_wp2
        go_region_o
        all_goals (go_wp2; go_ret; exact ⟨rfl, HB.out⟩)
      · have hSD : (Builtin.unsafeSliceData_ #[78] 113 #[.slice (some ⟨g, 0, none⟩) 0 cap]).run Tryz.prog w.drew = .ok (.pointer (some ⟨g, 0, none⟩)) w.drew :=
          Lib.run_unsafeSliceData_row _ _ _ _ _ _ hc0
        have HB := hideT hBd
        clear hbk hp hown hne hbkd hBd hrest hg hc0
        go_enter Tryz.func43, Tryz.ntmps43
        go_wp2
        go_region_o
        all_goals (go_wp2; go_ret; exact ⟨rfl, HB.out⟩)
  · have hl0 : acc.length ≠ 0 := fun e => h0 (List.length_eq_zero_iff.1 e)
    rcases hown.2 with ⟨_, hz⟩ | ⟨g, cap, cur, fz, rfl, hbg, hg, hfz, hnc, hcm, hcs, htake⟩
    · exact absurd hz hl0
    · have hgd : w.drew.heap[g]? = some (.cells cur 5 fz) := hg
      have hSD : (Builtin.unsafeSliceData_ #[78] 113 #[.slice (some ⟨g, 0, none⟩) acc.length cap]).run Tryz.prog w.drew = .ok (.pointer (some ⟨g, 0, none⟩)) w.drew :=
        Lib.run_unsafeSliceData_row _ _ _ _ _ _ (by omega)
      have hUS : (Builtin.unsafeString_ #[113, 3] 9 #[.pointer (some ⟨g, 0, none⟩), .int .i64 acc.length]).run Tryz.prog w.drew = .ok (.string ⟨acc.toArray⟩) (w.drew.freeze ⟨g, 0, none⟩ acc.length) := by
        refine Lib.run_unsafeString_row w.drew 113 3 9 5 Tryz.underlying113 (by kernel_rfl) g cur.size (by simp [World.shape?, hgd]) acc h0 (by omega) (by unfold maxLen at hcm; omega) ?_
        intro j x hx
        exact hown.cells (g := g) rfl j (.int .u8 x.toNat) (by simp [Lib.byteCells, hx])
      have HB : Hid (Below b w (w.drew.freeze ⟨g, 0, none⟩ acc.length)) := Lib.below_freeze hBd (p := ⟨g, 0, none⟩) hbg _
      clear hbk hp hown hne hbkd hBd hg hgd hfz hnc hcm hcs htake
      go_enter Tryz.func43, Tryz.ntmps43
      go_wp2
      go_region_o
      all_goals (go_wp2; go_ret; exact ⟨rfl, HB.out⟩)
end Go.Proofs.YtiodaahncadodaaGreatDoor
/- The contract of tree.Write. -/
namespace Go.Proofs.YtiodaahncadodaaGreatDoor
open Go.RowKit
theorem WrAt.fresh (w : World) (nv : Value) : WrAt w.heap.size (w.alloc (.cells #[nv, .pointer none, .slice none 0 0] 82)) nv [] :=
  ⟨_, _, heap_new w _, .inl rfl, World.ownsRowF_nil _ _ _ _, by simp [Value.ownBlock]⟩
theorem doc_one {w : World} {b : Nat} {x : Value} (h : w.heap[b]? = some (.cells #[x] 26 (0, 0))) : w.cell? ⟨b, 0, none⟩ = some x := Lib.cell_of_heap h 0
def WritePost (w : World) (x : List UInt8 × Nat) (e : Ending) (w' : World) : Prop := e = .returned (.tuple #[.string (str x.1), .int .i64 (x.2 : Int)]) ∧ Below w.heap.size w w'
set_option maxHeartbeats 8000000 in
set_option maxRecDepth 100000 in
theorem Write_any (ns : List Nd) (v : Value) (w : World) (hv : ReadsN w v ns) (hn : ns.length ≤ 1000000000) (hat : ns.length ≤ 4096 → ∀ i, i < ns.length → (Tre.ndAt ns i).attrs.length ≤ 1000000) (hfew : Few ns) (at_ : Int) :
    Calls Tryz.prog 20 #[.agg #[v], .int .i64 at_] w (WritePost w (Tre.writeR ns at_)) := by
  obtain ⟨a, c, rfl⟩ := hv.form
  have hb0 : Below w.heap.size w (w.alloc (.cells #[.slice a ns.length c] 26)) := (Below.refl _ _).alloc (Nat.le_refl _) _
  have hh := heap_new w (.cells #[.slice a ns.length c] 26)
  have cc0 := doc_one hh
  have HM := hideT (May_any ns _ _ (hv.below hb0) hn hat)
  have HV := hideT hv
  have HB0 := hideT hb0
  have hsz : (w.alloc (.cells #[.slice a ns.length c] 26)).heap.size = w.heap.size + 1 := by simp
  have hmf : ∀ (fn : Fn) (first cap : Array Value) (w : World), (Instr.makeFunc fn first cap).run Tryz.prog w = .ok (.func fn first cap) w := fun _ _ _ _ => rfl
  clear hv hb0 hat
  by_cases h1 : at_ < 0
  · have HX : Hid (Tre.writeR ns at_ = ([], 5)) := if_neg (fun h => by omega)
    go_enter Tryz.func20, Tryz.ntmps20
    go_wp2
    go_ret2
    exact ⟨by rw [HX.out]; rfl, HB0.out⟩
  by_cases h2 : (ns.length : Int) ≤ at_
  · have HX : Hid (Tre.writeR ns at_ = ([], 5)) := if_neg (fun h => by omega)
    go_enter Tryz.func20, Tryz.ntmps20
    go_wp2
    go_ret2
    exact ⟨by rw [HX.out]; rfl, HB0.out⟩
  cases hm : Tre.mayB ns
  · have HX : Hid (Tre.writeR ns at_ = ([], 5)) := if_neg (fun h => by rw [hm] at h; cases h.1)
    rw [hm] at HM
    clear hm
    go_enter Tryz.func20, Tryz.ntmps20
    go_wp2_with (go_at_call 15; refine HM.out.mono ?_; rintro e w1 ⟨rfl, b1⟩; have HQ := hideT (bel HB0.out b1))
    go_ret2
    exact ⟨by rw [HX.out]; rfl, HQ.out⟩
  · obtain ⟨i, rfl⟩ : ∃ i : Nat, at_ = (i : Int) := ⟨at_.toNat, by omega⟩
    have hi : i < ns.length := by omega
    obtain ⟨g, o, aa, ac, ka, kc, rfl, hcc, hr⟩ := HV.out.at hi
    have hX : Tre.writeR ns (i : Int) = if (Tre.textAt ns i).length ≤ 262144 then (Tre.textAt ns i, 0) else ([], 5) := by
      unfold Tre.writeR
      rw [if_pos ⟨hm, by omega, by omega⟩, Int.toNat_natCast]
    rw [hm] at HM
    have HMay := hideT hm
    have HX := hideT hX
    have HR := hideT hr
    have HFew := hideT hfew
    have HH := hideT hh
    clear hm hX hr hfew hh
    go_enter Tryz.func20, Tryz.ntmps20
    go_upto_region 3 with (go_at_call 15; refine HM.out.mono ?_; rintro e w1 ⟨rfl, b1⟩)
    have hb1 := bel HB0.out b1
    have hd1 := (b1.block w.heap.size (by omega)).trans HH.out
    have cd := doc_one hd1
    have hv1 := HV.out.below hb1
    have hr1 := HR.out.below hb1
    have HC := hideT (writes_any hv1 HMay.out HFew.out (Nat.le_refl w1.heap.size) ns.length i hi (Nat.sub_le ..))
    have hdl : w.heap.size < w1.heap.size := (Array.getElem?_eq_some_iff.1 hd1).1
    go_upto_region 4 with fail
    have hbA : Below w1.heap.size w1 (w1.alloc (.cells #[.slice (some ⟨g, o, none⟩) ns.length c, .pointer none, .slice none 0 0] 82)) := (Below.refl _ _).alloc (Nat.le_refl _) _
    have hW0 := WrAt.fresh w1 (.slice (some ⟨g, o, none⟩) ns.length c)
    have cd2 := (hbA.cell (p := ⟨w.heap.size, 0, none⟩) hdl).trans cd
    have ck2 := (hbA.cell (p := ⟨g, o + i * 6, none⟩) (cell_lt hr1.c0)).trans hr1.c0
    have HB2 := hideT (hb1.trans (hbA.mono hb1.size))
    have HSZ := hideT hb1.size
    have HN := hideT (HC.out.1 _ [] hW0 hbA (by simp))
    have HK := hideT (HC.out.2 _ [] hW0 hbA (by simp))
    generalize (w1.alloc (.cells #[.slice (some ⟨g, o, none⟩) ns.length c, .pointer none, .slice none 0 0] 82)) = W2 at *
    clear hbA hW0 hb1 hd1 cd hv1 hr1 hdl b1 HC HR HV HB0 HH HM HMay HFew
    generalize w1.heap.size = b at *
    by_cases h3 : (Tre.ndAt ns i).kind = 3
    · have HE : Hid (Tre.textAt ns i = Tre.nodeT ns i) := if_pos h3
      rw [h3] at ck2
      clear h3 HK
      generalize Tre.nodeT ns i = X at *
      by_cases hf : X.length ≤ 262144
      · have HF := hideT hf
        have HX2 : Hid (Tre.writeR ns (i : Int) = (X, 0)) := by
          show _ = _
          rw [HX.out, HE.out, if_pos hf]
        have HD : Hid (decide (([] : List UInt8).length + X.length ≤ 262144) = true) := decide_eq_true (by rw [List.length_nil, Nat.zero_add]; exact hf)
        clear hf
        go_wp2_with (first
          | (go_at_call 42; refine HN.out.mono ?_; rintro e w3 ⟨rfl, b3, k3⟩; rw [HD.out]; have HW3 := hideT (k3 (by rw [List.length_nil, Nat.zero_add]; exact HF.out)); have HB3 := hideT b3.bel; clear b3 k3 HN)
          | (go_at_call 43; refine (String13 HW3.out (by rw [List.nil_append]; have := HF.out; omega)).mono ?_; rintro e w4 ⟨rfl, b4⟩; have HB4 := hideT b4))
        go_ret2
        rw [HX2.out]
        refine ⟨rfl, HB2.out.trans ((HB3.out.mono HSZ.out).trans (HB4.out.mono HSZ.out))⟩
      · have HX2 : Hid (Tre.writeR ns (i : Int) = ([], 5)) := by
          show _ = _
          rw [HX.out, HE.out, if_neg hf]
        have HD : Hid (decide (([] : List UInt8).length + X.length ≤ 262144) = false) := decide_eq_false (by rw [List.length_nil, Nat.zero_add]; exact hf)
        clear hf
        go_wp2_with (first
          | (go_at_call 42; refine HN.out.mono ?_; rintro e w3 ⟨rfl, b3, k3⟩; rw [HD.out]; have HB3 := hideT b3.bel; clear b3 k3 HN))
        go_ret2
        rw [HX2.out]
        exact ⟨rfl, HB2.out.trans (HB3.out.mono HSZ.out)⟩
    · have HE : Hid (Tre.textAt ns i = Tre.innerT ns i) := if_neg h3
      have q3 : ((Tre.ndAt ns i).kind == (3 : Int)) = false := by rw [beq_eq_false_iff_ne]; exact h3
      clear h3 HN
      generalize (Tre.ndAt ns i).kind = kd at *
      generalize Tre.innerT ns i = X at *
      by_cases hf : X.length ≤ 262144
      · have HF := hideT hf
        have HX2 : Hid (Tre.writeR ns (i : Int) = (X, 0)) := by
          show _ = _
          rw [HX.out, HE.out, if_pos hf]
        have HD : Hid (decide (([] : List UInt8).length + X.length ≤ 262144) = true) := decide_eq_true (by rw [List.length_nil, Nat.zero_add]; exact hf)
        clear hf
        go_wp2_with (first
          | (go_at_call 41; refine HK.out.mono ?_; rintro e w3 ⟨rfl, b3, k3⟩; rw [HD.out]; have HW3 := hideT (k3 (by rw [List.length_nil, Nat.zero_add]; exact HF.out)); have HB3 := hideT b3.bel; clear b3 k3 HK)
          | (go_at_call 43; refine (String13 HW3.out (by rw [List.nil_append]; have := HF.out; omega)).mono ?_; rintro e w4 ⟨rfl, b4⟩; have HB4 := hideT b4))
        go_ret2
        rw [HX2.out]
        refine ⟨rfl, HB2.out.trans ((HB3.out.mono HSZ.out).trans (HB4.out.mono HSZ.out))⟩
      · have HX2 : Hid (Tre.writeR ns (i : Int) = ([], 5)) := by
          show _ = _
          rw [HX.out, HE.out, if_neg hf]
        have HD : Hid (decide (([] : List UInt8).length + X.length ≤ 262144) = false) := decide_eq_false (by rw [List.length_nil, Nat.zero_add]; exact hf)
        clear hf
        go_wp2_with (first
          | (go_at_call 41; refine HK.out.mono ?_; rintro e w3 ⟨rfl, b3, k3⟩; rw [HD.out]; have HB3 := hideT b3.bel; clear b3 k3 HK))
        go_ret2
        rw [HX2.out]
        exact ⟨rfl, HB2.out.trans (HB3.out.mono HSZ.out)⟩
end Go.Proofs.YtiodaahncadodaaGreatDoor
