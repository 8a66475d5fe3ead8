/- Texts laid as one. -/
import Derived.Test.YtiodaahncadodaaGreatDoorKTrAB
import Derived.Test.YtiodaahncadodaaGreatDoorKRfLT
import Derived.Test.YtiodaahncadodaaGreatDoorKRfRt
/- The contract of the reference's Tag. -/
set_option linter.unusedVariables false
set_option linter.unusedSimpArgs false
namespace Go.Proofs.YtiodaahncadodaaGreatDoor
open Go.RowKit
set_option maxHeartbeats 4000000 in
set_option maxRecDepth 100000 in
theorem RstartT_any (k : Tk.Tok) (h1 : k.kind = 1) (v : Value) (w : World) (hv : ReadsPairs w v k.attrs) (hz : Bears k) :
    Calls Tryz.prog 71 #[tokV k v] w fun e w' => e = .returned (.string (str (60 :: (k.name ++ Tk.tailText k.attrs k.self)))) ∧ Below w.heap.size w w' := by
  obtain ⟨a, c, rfl⟩ := hv.form
  have H0 := tagTo_zero k
  have HL := hideT (fun j => tagTo_len k j)
  have HN := hideT (fun j h => tagTo_next k j h)
  have HE := hideT (fun j h => tagTo_end k j h)
  have hat := hz.ats
  have hn1 : k.name.length + 1 ≤ 1000000000 := by
    have := tagTo_len k 0
    rw [H0] at this
    rw [List.length_cons] at this
    have := hz.all
    omega
  have HZ2 := hideT hz.each
  have HZ := hideT hz.all
  generalize (60 :: (k.name ++ Tk.tailText k.attrs k.self)) = out at *
  clear hz
  have hsn := str_size k.name
  have hcat : (⟨#[60]⟩ : ByteArray) ++ str k.name = str (tagTo k 0) := by rw [H0, str_cat_l]; rfl
  have hm0 : ¬ 9223372036854775807 < 1 + k.name.length := by omega
  have q1 : ((k.kind : Int) == 1) = true := by rw [h1]; rfl
  have hb0 : Below w.heap.size w (w.alloc (.cells (kCells k.kind k.name (.slice a k.attrs.length c) k.self k.text) 48)) := (Below.refl _ w).alloc (Nat.le_refl _) _
  have t0 : RAt12 (w.alloc (.cells (kCells k.kind k.name (.slice a k.attrs.length c) k.self k.text) 48)) w.heap.size (kCells k.kind k.name (.slice a k.attrs.length c) k.self k.text) := heap_new w _
  have HV := hideT (hv.below hb0)
  have HB0 := hideT hb0
  have HT0 := hideT t0
  clear hv hb0 t0 h1 H0
  generalize hX0 : tagTo k 0 = x0 at hcat
  have HX0 := hideT hX0
  clear hX0
  go_enter Tryz.func71, Tryz.ntmps71
  go_wp2_with fail
  generalize (w.alloc (.cells (kCells k.kind k.name (.slice a k.attrs.length c) k.self k.text) 48)) = W0 at *
  go_loopw [3, 4] (fun x i wr => ∃ j : Nat, x = .string (str (tagTo k j)) ∧ i = .int .i64 j ∧ j ≤ k.attrs.length ∧ Below W0.heap.size W0 wr) (fun _ i _ => k.attrs.length - (intOf i).toNat)
  case atStart => exact ⟨0, by rw [HX0.out], rfl, Nat.zero_le _, Below.refl _ _⟩
  case round =>
    obtain ⟨j, rfl, rfl, hj, hB⟩ := hrel
    have HB := hideT hB
    rename World => X
    have hT := HT0.out.step HB.out
    have c2 := Lib.cell_of_heap hT 2
    have c3 := Lib.cell_of_heap hT 3
    have hsj := str_size (tagTo k j)
    have hlj : (tagTo k j).length ≤ 1000000000 := Nat.le_trans (HL.out j) HZ.out
    have HTX := hideT hT
    clear hT hB
    by_cases hjl : j < k.attrs.length
    · have hatj : k.attrs[j]? = some k.attrs[j] := List.getElem?_eq_getElem hjl
      obtain ⟨b', o, rfl, hc, hbl, z1, z2⟩ := (HV.out.below HB.out).at hatj
      have hze := HZ2.out _ (List.getElem_mem hjl)
      have hE2 := hideT (fun W => REncode_any k.attrs[j].2 true W (by omega))
      have hnx := hideT (HN.out j hjl)
      have hle := HL.out (j + 1)
      have HZ1 := hideT z1
      have HZ3 := hideT z2
      clear hatj z1 z2
      generalize k.attrs[j] = p at *
      generalize Rf.enc true p.2 = ev at *
      obtain ⟨x1, hx1⟩ : ∃ x, x = 32 :: p.1 := ⟨_, rfl⟩
      obtain ⟨x2, hx2⟩ : ∃ x, x = x1 ++ [61, 34] := ⟨_, rfl⟩
      obtain ⟨x3, hx3⟩ : ∃ x, x = x2 ++ ev := ⟨_, rfl⟩
      obtain ⟨x4, hx4⟩ : ∃ x, x = x3 ++ [34] := ⟨_, rfl⟩
      obtain ⟨x5, hx5⟩ : ∃ x, x = tagTo k (j + 1) := ⟨_, rfl⟩
      have hnx4 : x5 = tagTo k j ++ x4 := by rw [hx5, hnx.out, hx4, hx3, hx2, hx1]
      have hlen4 := congrArg List.length hnx4
      rw [List.length_append] at hlen4
      rw [← hx5] at hle
      have hZ := HZ.out
      have l1 : x1.length = p.1.length + 1 := by rw [hx1]; rfl
      have l2 : x2.length = x1.length + 2 := by rw [hx2, List.length_append]; rfl
      have l3 : x3.length = x2.length + ev.length := by rw [hx3, List.length_append]
      have l4 : x4.length = x3.length + 1 := by rw [hx4, List.length_append]; rfl
      have q1 : (⟨#[32]⟩ : ByteArray) ++ str p.1 = str x1 := by rw [hx1, str_cat_l]; rfl
      have q2 : str x1 ++ (⟨#[61, 34]⟩ : ByteArray) = str x2 := by rw [hx2, str_cat_r]
      have q3 : str x2 ++ str ev = str x3 := by rw [hx3, str_cat12]
      have q4 : str x3 ++ (⟨#[34]⟩ : ByteArray) = str x4 := by rw [hx4, str_cat_r]
      have q5 : str (tagTo k j) ++ str x4 = str x5 := by rw [hnx4, str_cat12]
      have s0 := str_size p.1
      have s1 := str_size x1
      have s2 := str_size x2
      have s3 := str_size x3
      have s4 := str_size x4
      have sv := str_size ev
      have n1 : ¬ 9223372036854775807 < 1 + p.1.length := by omega
      have n2 : ¬ 9223372036854775807 < x1.length + 2 := by omega
      have n3 : ¬ 9223372036854775807 < x2.length + ev.length := by omega
      have n4 : ¬ 9223372036854775807 < x3.length + 1 := by omega
      have n5 : ¬ 9223372036854775807 < (tagTo k j).length + x4.length := by omega
      have HX5 := hideT hx5
      clear hx1 hx2 hx3 hx4 hx5 hnx hnx4 hle hlen4 hZ l1 l2 l3 l4 hze
      have hXd : Below X.heap.size X X.drew := (Below.refl _ _).drew
      obtain ⟨S, hS1⟩ : ∃ S : World → Prop, ∀ W, S W ↔ Below X.heap.size X W := ⟨_, fun _ => Iff.rfl⟩
      go_upto_region 7 with fail
      refine wp_region_held_drew (S := S) (by kernel_rfl) ((hS1 _).2 hXd) (fun hS => ?_)
      refine takeH12 0 19 (.string (str (tagTo k j))) rfl rfl (by kernel_rfl) (by kernel_rfl) (by kernel_rfl) (fun _ _ _ h => h) (Or.inl ⟨by kernel_rfl, fun W _ => by go_simp⟩) hS ?_
      simp only [Act.put, List.setIfInBounds_toArray, List.set_cons_zero, List.set_cons_succ]
      refine takeH12 1 20 (.pointer (some ⟨w.heap.size, 2, none⟩)) rfl rfl (by kernel_rfl) (by kernel_rfl) (by kernel_rfl) (fun _ _ _ h => h) (Or.inl ⟨by kernel_rfl, fun W _ => by go_simp⟩) hS ?_
      simp only [Act.put, List.setIfInBounds_toArray, List.set_cons_zero, List.set_cons_succ]
      refine takeH12 2 21 (.slice (some ⟨b', o, none⟩) k.attrs.length c) rfl rfl (by kernel_rfl) (by kernel_rfl) (by kernel_rfl) (fun _ _ _ h => h) (Or.inl ⟨by kernel_rfl, fun W h => by have c2' : W.cell? ⟨w.heap.size, 2, none⟩ = some (.slice (some ⟨b', o, none⟩) k.attrs.length c) := Lib.cell_of_heap (HTX.out.step ((hS1 W).1 h)) 2; go_simp⟩) hS ?_
      simp only [Act.put, List.setIfInBounds_toArray, List.set_cons_zero, List.set_cons_succ]
      refine takeH12 3 22 (.int .i64 (j : Int)) rfl rfl (by kernel_rfl) (by kernel_rfl) (by kernel_rfl) (fun _ _ _ h => h) (Or.inl ⟨by kernel_rfl, fun W _ => by go_simp⟩) hS ?_
      simp only [Act.put, List.setIfInBounds_toArray, List.set_cons_zero, List.set_cons_succ]
      refine takeH12 4 23 (.pointer (some ⟨b', o + j * 2, none⟩)) rfl rfl (by kernel_rfl) (by kernel_rfl) (by kernel_rfl) (fun _ _ _ h => h) (Or.inl ⟨by kernel_rfl, fun W _ => by go_simp⟩) hS ?_
      simp only [Act.put, List.setIfInBounds_toArray, List.set_cons_zero, List.set_cons_succ]
      refine takeH12 5 24 (.pointer (some ⟨b', o + j * 2, none⟩)) rfl rfl (by kernel_rfl) (by kernel_rfl) (by kernel_rfl) (fun _ _ _ h => h) (Or.inl ⟨by kernel_rfl, fun W _ => by go_simp⟩) hS ?_
      simp only [Act.put, List.setIfInBounds_toArray, List.set_cons_zero, List.set_cons_succ]
      refine takeH12 6 25 (.string (str p.1)) rfl rfl (by kernel_rfl) (by kernel_rfl) (by kernel_rfl) (fun _ _ _ h => h) (Or.inl ⟨by kernel_rfl, fun W h => by have c5' := (((hS1 W).1 h).cell (p := ⟨b', o + j * 2, none⟩) hbl).trans HZ1.out; go_simp⟩) hS ?_
      simp only [Act.put, List.setIfInBounds_toArray, List.set_cons_zero, List.set_cons_succ]
      refine takeH12 7 26 (.string (str x1)) rfl rfl (by kernel_rfl) (by kernel_rfl) (by kernel_rfl) (fun _ _ _ h => h) (Or.inl ⟨by kernel_rfl, fun W _ => by go_simp⟩) hS ?_
      simp only [Act.put, List.setIfInBounds_toArray, List.set_cons_zero, List.set_cons_succ]
      refine takeH12 8 27 (.string (str x2)) rfl rfl (by kernel_rfl) (by kernel_rfl) (by kernel_rfl) (fun _ _ _ h => h) (Or.inl ⟨by kernel_rfl, fun W _ => by go_simp⟩) hS ?_
      simp only [Act.put, List.setIfInBounds_toArray, List.set_cons_zero, List.set_cons_succ]
      refine takeH12 9 28 (.pointer (some ⟨w.heap.size, 2, none⟩)) rfl rfl (by kernel_rfl) (by kernel_rfl) (by kernel_rfl) (fun _ _ _ h => h) (Or.inl ⟨by kernel_rfl, fun W _ => by go_simp⟩) hS ?_
      simp only [Act.put, List.setIfInBounds_toArray, List.set_cons_zero, List.set_cons_succ]
      refine takeH12 10 29 (.slice (some ⟨b', o, none⟩) k.attrs.length c) rfl rfl (by kernel_rfl) (by kernel_rfl) (by kernel_rfl) (fun _ _ _ h => h) (Or.inl ⟨by kernel_rfl, fun W h => by have c2' : W.cell? ⟨w.heap.size, 2, none⟩ = some (.slice (some ⟨b', o, none⟩) k.attrs.length c) := Lib.cell_of_heap (HTX.out.step ((hS1 W).1 h)) 2; go_simp⟩) hS ?_
      simp only [Act.put, List.setIfInBounds_toArray, List.set_cons_zero, List.set_cons_succ]
      refine takeH12 11 30 (.int .i64 (j : Int)) rfl rfl (by kernel_rfl) (by kernel_rfl) (by kernel_rfl) (fun _ _ _ h => h) (Or.inl ⟨by kernel_rfl, fun W _ => by go_simp⟩) hS ?_
      simp only [Act.put, List.setIfInBounds_toArray, List.set_cons_zero, List.set_cons_succ]
      refine takeH12 12 31 (.pointer (some ⟨b', o + j * 2, none⟩)) rfl rfl (by kernel_rfl) (by kernel_rfl) (by kernel_rfl) (fun _ _ _ h => h) (Or.inl ⟨by kernel_rfl, fun W _ => by go_simp⟩) hS ?_
      simp only [Act.put, List.setIfInBounds_toArray, List.set_cons_zero, List.set_cons_succ]
      refine takeH12 13 32 (.pointer (some ⟨b', o + j * 2 + 1, none⟩)) rfl rfl (by kernel_rfl) (by kernel_rfl) (by kernel_rfl) (fun _ _ _ h => h) (Or.inl ⟨by kernel_rfl, fun W _ => by go_simp⟩) hS ?_
      simp only [Act.put, List.setIfInBounds_toArray, List.set_cons_zero, List.set_cons_succ]
      refine takeH12 14 33 (.string (str p.2)) rfl rfl (by kernel_rfl) (by kernel_rfl) (by kernel_rfl) (fun _ _ _ h => h) (Or.inl ⟨by kernel_rfl, fun W h => by have c5' := (((hS1 W).1 h).cell (p := ⟨b', o + j * 2 + 1, none⟩) hbl).trans HZ3.out; go_simp⟩) hS ?_
      simp only [Act.put, List.setIfInBounds_toArray, List.set_cons_zero, List.set_cons_succ]
      refine wpAnyH_ready (rs := [15]) (by kernel_rfl) (by simp) ?_
      refine AllReadyH.cons rfl (fun K hK => ?_) AllReadyH.nil
      go_simp
      refine (hE2.out _).mono ?_
      rintro e w5 ⟨rfl, hw⟩
      refine hK.out _ _ (by rw [hw]; exact hS) (fun hS => ?_)
      clear hK K
      have hX5 := (hS1 _).1 hS
      refine takeH12 16 35 (.string (str x3)) rfl rfl (by kernel_rfl) (by kernel_rfl) (by kernel_rfl) (fun _ _ _ h => h) (Or.inl ⟨by kernel_rfl, fun W _ => by go_simp⟩) hS ?_
      simp only [Act.put, List.setIfInBounds_toArray, List.set_cons_zero, List.set_cons_succ]
      refine takeH12 17 36 (.string (str x4)) rfl rfl (by kernel_rfl) (by kernel_rfl) (by kernel_rfl) (fun _ _ _ h => h) (Or.inl ⟨by kernel_rfl, fun W _ => by go_simp⟩) hS ?_
      simp only [Act.put, List.setIfInBounds_toArray, List.set_cons_zero, List.set_cons_succ]
      refine takeH12 18 37 (.string (str x5)) rfl rfl (by kernel_rfl) (by kernel_rfl) (by kernel_rfl) (fun _ _ _ h => h) (Or.inl ⟨by kernel_rfl, fun W _ => by go_simp⟩) hS ?_
      simp only [Act.put, List.setIfInBounds_toArray, List.set_cons_zero, List.set_cons_succ]
      refine takeH12 19 3 (.string (str x5)) rfl rfl (by kernel_rfl) (by kernel_rfl) (by kernel_rfl) (fun _ _ _ h => h) (Or.inl ⟨by kernel_rfl, fun W _ => by go_simp⟩) hS ?_
      simp only [Act.put, List.setIfInBounds_toArray, List.set_cons_zero, List.set_cons_succ]
      refine wpAnyH_done (by kernel_rfl) ?_ _
      go_wp2
      go_roundw
      case rel => exact ⟨j + 1, by rw [HX5.out], by go_num, by omega, by first | exact bel HB.out hX5 | exact bel HB.out hXd⟩
      case measure => simp [intOf]; omega
    · have HF := hideT (HE.out j (by omega))
      have hj2 : ¬ j < k.attrs.length := hjl
      have m1 : ¬ 9223372036854775807 < (tagTo k j).length + 1 := by omega
      have r1 : str (tagTo k j) ++ (⟨#[47]⟩ : ByteArray) = str (tagTo k j ++ [47]) := by rw [str_cat_r]
      have r2 : str (tagTo k j) ++ (⟨#[62]⟩ : ByteArray) = str (tagTo k j ++ [62]) := by rw [str_cat_r]
      have r3 : str (tagTo k j ++ [47]) ++ (⟨#[62]⟩ : ByteArray) = str (tagTo k j ++ [47, 62]) := by rw [str_cat_r]; congr 1; simp
      have s5 : (str (tagTo k j ++ [47])).size = (tagTo k j).length + 1 := by rw [str_size, List.length_append]; rfl
      have m2 : ¬ 9223372036854775807 < (tagTo k j).length + 1 + 1 := by omega
      clear HE hjl
      cases hself : k.self
      · rw [hself] at HF c3
        clear hself
        go_wp2
        go_ret
        exact ⟨by rw [← HF.out]; rfl, HB0.out.trans (HB.out.mono HB0.out.size)⟩
      · rw [hself] at HF c3
        clear hself
        go_wp2
        go_ret
        exact ⟨by rw [← HF.out]; rfl, HB0.out.trans (HB.out.mono HB0.out.size)⟩
end Go.Proofs.YtiodaahncadodaaGreatDoor
/- The contracts of token.Tag and of the reference's Tag, at tokens of any kind. -/
namespace Go.Proofs.YtiodaahncadodaaGreatDoor
open Go.RowKit
/-- A token's text, of any kind. -/
def tagI (kk : Int) (kn : List UInt8) (ka : List Pr) (ks : Bool) (kx : List UInt8) : List UInt8 := if kk = 1 then Tk.tagText ⟨1, kn, ka, ks, kx⟩ else if kk = 2 then Tk.tagText ⟨2, kn, ka, ks, kx⟩ else if kk = 3 then Tk.tagText ⟨3, kn, ka, ks, kx⟩ else []
theorem Bears.kind {k : Tk.Tok} (h : Bears k) (m : Nat) : Bears ⟨m, k.name, k.attrs, k.self, k.text⟩ := ⟨h.ats, h.all, h.each, h.text, h.name⟩
set_option maxHeartbeats 2000000 in
set_option maxRecDepth 100000 in
theorem RTagI_any (kk : Int) (kn : List UInt8) (ka : List Pr) (ks : Bool) (kx : List UInt8) (v : Value) (w : World) (hv : ReadsPairs w v ka) (hz : Bears ⟨0, kn, ka, ks, kx⟩) :
    Calls Tryz.prog 71 #[tokI kk kn v ks kx] w fun e w' => e = .returned (.string (str (tagI kk kn ka ks kx))) ∧ Below w.heap.size w w' := by
  unfold tagI
  by_cases h1 : kk = 1
  · subst h1
    rw [if_pos rfl]
    exact RstartT_any ⟨1, kn, ka, ks, kx⟩ rfl v w hv (hz.kind 1)
  rw [if_neg h1]
  have n1 : (kk == 1) = false := beq_eq_false_iff_ne.2 h1
  have hb0 : Below w.heap.size w (w.alloc (.cells (kCells kk kn v ks kx) 48)) := (Below.refl _ w).alloc (Nat.le_refl _) _
  by_cases h2 : kk = 2
  · subst h2
    rw [if_pos rfl]
    have HX : Hid (Tk.tagText ⟨2, kn, ka, ks, kx⟩ = 60 :: 47 :: (kn ++ [62])) := rfl
    have hsn := str_size kn
    have hn := hz.name
    simp only at hn
    obtain ⟨x1, hx1⟩ : ∃ x, x = 60 :: 47 :: kn := ⟨_, rfl⟩
    have q1 : (⟨#[60, 47]⟩ : ByteArray) ++ str kn = str x1 := by rw [hx1, str_cat_l]; rfl
    have q2 : str x1 ++ (⟨#[62]⟩ : ByteArray) = str (x1 ++ [62]) := by rw [str_cat_r]
    have l1 : x1.length = kn.length + 2 := by rw [hx1]; rfl
    have s1 := str_size x1
    have m1 : ¬ 9223372036854775807 < 2 + kn.length := by omega
    have m2 : ¬ 9223372036854775807 < x1.length + 1 := by omega
    have HY : Hid (x1 ++ [62] = 60 :: 47 :: (kn ++ [62])) := by show _ = _; rw [hx1]; rfl
    clear hz hv hx1 l1 h1
    generalize x1 ++ [62] = x2 at *
    go_enter Tryz.func71, Tryz.ntmps71
    go_wp2
    go_ret
    exact ⟨by rw [HX.out, HY.out]; rfl, hb0⟩
  rw [if_neg h2]
  have n2 : (kk == 2) = false := beq_eq_false_iff_ne.2 h2
  by_cases h3 : kk = 3
  · subst h3
    rw [if_pos rfl]
    have HX : Hid (Tk.tagText ⟨3, kn, ka, ks, kx⟩ = Rf.enc false kx) := rfl
    have hE := fun W => REncode_any kx false W hz.text
    clear hz hv h1 h2
    go_enter Tryz.func71, Tryz.ntmps71
    go_wp2_with (go_at_call 104; refine (hE _).mono ?_; rintro e w1 ⟨rfl, hw⟩; rw [hw]; clear hw)
    go_ret
    exact ⟨by rw [HX.out]; rfl, hb0⟩
  rw [if_neg h3]
  have n3 : (kk == 3) = false := beq_eq_false_iff_ne.2 h3
  clear h1 h2 h3 hz hv
  go_enter Tryz.func71, Tryz.ntmps71
  go_wp2
  go_ret
  exact ⟨rfl, hb0⟩
end Go.Proofs.YtiodaahncadodaaGreatDoor
