/- The contracts of package url's Parse and Tail. -/
import Derived.Test.YtlkhjloeonbjaaaGreatDoorVPlain
namespace Go.Proofs.YtlkhjloeonbjaaaGreatDoor
open Go.RowKit
theorem zeroP : (Tryz.prog.info? 43).map (fun i => (i.zero, i.size)) = some (some (.agg (pCells [] Url.zero)), 9) := by kernel_rfl
theorem zeroR : (Tryz.prog.info? 41).map (fun i => (i.zero, i.size)) = some (some (.agg #[.string (str [])]), 1) := by kernel_rfl
theorem ret_U2 {fn : Func} {p q : Tmp} {Q : Ending → World → Prop} {a : Act} {w : World} {b : Nat} {u : Url.U} {x : Value} (hr : fn.results = #[.cell p 25, .tmp q]) (hd : a.defers = []) (hp : a.tmps.getD p undef = .pointer (some ⟨b, 0, none⟩)) (hx : a.tmps.getD q undef = x) (h : UAt w b u) (hQ : Q (.returned (.tuple #[uVal u, x])) w) :
    bodyPost Tryz.prog fn Q .ret a w := by
  refine bodyPost_ret (v := .tuple #[uVal u, x]) ?_ hd hQ
  rw [results_cell_tmp hr, hp, hx]
  simp [asAddr, Result.andThen, load_U h]
theorem setRow_U {w : World} {b : Nat} {u v : Url.U} (h : UAt w b u) : UAt (w.setRow b (uCells v)) b v := setRow_new h
theorem whole_len (l : List UInt8) : (Url.clean l).length ≤ l.length := Url.clean_len l
theorem schR_len (c : List UInt8) : (Url.schR c).length ≤ c.length := by
  unfold Url.schR
  rw [List.length_drop]
  have := Url.rest_len [58] c
  omega
theorem placeR_len (r : List UInt8) : (Url.placeR r).length ≤ r.length := by
  unfold Url.placeR
  have h1 := Url.rest_len [47, 92, 63, 35] (Url.unsl r)
  have h2 : (Url.unsl r).length ≤ r.length := (List.dropWhile_sublist _).length_le
  omega
theorem path_len (l : List UInt8) : (Url.path l).length ≤ 6 * l.length + 2 := by
  have := Url.kept_size l
  unfold Url.path
  rw [List.length_cons]
  omega
theorem behind_len (t : List UInt8) : (Url.behind t).length ≤ t.length := by
  have h1 := Url.rest_len [63, 35] t
  have h2 := Url.rest_len [35] ((Url.rest [63, 35] t).drop 1)
  rw [List.length_drop] at h2
  unfold Url.behind
  split <;> omega
theorem tail_fits {u : Url.U} {t : List UInt8} (h1 : u.sch.length ≤ 100000000) (h2 : u.host.length ≤ 100000000) (h3 : -9223372036854775808 ≤ u.port) (h4 : u.port ≤ 9223372036854775807) (hz : t.length ≤ 10000000) : Fits (Url.tail u t) := by
  have p1 := path_len (Url.upto [63, 35] t)
  have p2 := Url.upto_len [63, 35] t
  have q1 := Url.rest_len [63, 35] t
  have q2 := Url.upto_len [35] ((Url.rest [63, 35] t).drop 1)
  rw [List.length_drop] at q2
  have q3 := Pct.mark_len Url.freeQ (Url.upto [35] ((Url.rest [63, 35] t).drop 1))
  have f1 := behind_len t
  have f2 := Pct.mark_len Url.freeF ((Url.behind t).drop 1)
  rw [List.length_drop] at f2
  refine ⟨h1, h2, ?_, ?_, ?_, h3, h4⟩
  · show (Url.path (Url.upto [63, 35] t)).length ≤ _
    omega
  · show (if Url.hasB 63 (Url.rest [63, 35] t) = true then Pct.mark Url.freeQ (Url.upto [35] ((Url.rest [63, 35] t).drop 1)) else []).length ≤ _
    split
    · omega
    · simp
  · show (if Url.hasB 35 (Url.behind t) = true then Pct.mark Url.freeF ((Url.behind t).drop 1) else []).length ≤ _
    split
    · omega
    · simp
theorem host_len (l : List UInt8) : (Url.host l).length ≤ l.length := by
  unfold Url.host
  split
  · exact hostT_len l
  · simp
theorem port_bd (s d : List UInt8) : Url.portE d = 0 → 0 ≤ Url.port s d ∧ Url.port s d ≤ 65535 := by
  intro h
  unfold Url.portE at h
  unfold Url.port
  by_cases hd : d = []
  · rw [if_pos hd]; omega
  · rw [if_neg hd]
    have hn : Asc.numErr d 65535 = 0 := by
      by_cases hn : Asc.numErr d 65535 = 0
      · exact hn
      · rw [if_neg (fun h => h.elim hd hn)] at h
        omega
    have hrb := Asc.read_back d 65535 (by decide) hn
    split
    · omega
    · exact ⟨hrb.1, hrb.2.1⟩
theorem sch_len (c : List UInt8) : (Url.sch c).length ≤ c.length := by
  unfold Url.sch
  rw [lower_len']
  exact Url.upto_len _ _
theorem nameT_len (r : List UInt8) : (Url.nameT r).length ≤ r.length := by
  unfold Url.nameT Url.place
  have h1 := Url.upto_len [58] (Url.upto [47, 92, 63, 35] (Url.unsl r))
  have h2 := Url.upto_len [47, 92, 63, 35] (Url.unsl r)
  have h3 : (Url.unsl r).length ≤ r.length := (List.dropWhile_sublist _).length_le
  omega
theorem placeE_port (r : List UInt8) (h : Url.placeE r = 0) : Url.portE (Url.portT r) = 0 := by
  unfold Url.placeE at h
  split at h
  · omega
  · split at h
    · omega
    · split at h
      · rename_i h1; exact absurd h h1
      · exact h
theorem whole_fits (c : List UInt8) (hz : c.length ≤ 10000000) (hp : Url.placeE (Url.schR c) = 0) : Fits (Url.whole c) := by
  have h1 := sch_len c
  have h2 := schR_len c
  have h3 := host_len (Url.nameT (Url.schR c))
  have h4 := nameT_len (Url.schR c)
  have h5 := port_bd (Url.sch c) _ (placeE_port _ hp)
  have h6 := placeR_len (Url.schR c)
  refine tail_fits ?_ ?_ ?_ ?_ (by omega)
  · show (Url.sch c).length ≤ _
    omega
  · show (Url.host (Url.nameT (Url.schR c))).length ≤ _
    omega
  · show _ ≤ Url.port (Url.sch c) (Url.portT (Url.schR c))
    omega
  · show Url.port (Url.sch c) (Url.portT (Url.schR c)) ≤ _
    omega
theorem parse_err {l : List UInt8} (h : ¬ Url.perr l = 0) : Url.parse l = Url.zero := if_neg h
theorem parse_yes {l : List UInt8} (h : Url.perr l = 0) : Url.parse l = Url.whole (Url.clean l) := if_pos h
set_option maxHeartbeats 2000000 in
set_option maxRecDepth 100000 in
theorem Parse_any (l : List UInt8) (w : World) (hE : Env w) (hz : l.length ≤ 10000000) :
    Calls Tryz.prog 11 #[.string (str l)] w fun e w' => e = .returned (.tuple #[uVal (Url.parse l), .int .i64 (Url.perr l)]) ∧ Below w.heap.size w w' := by
  have hzu := (zero_of_info zeroURL).1
  have hzp := (zero_of_info zeroP).1
  have hzr := (zero_of_info zeroR).1
  have hcl := Url.clean_len l
  have hb0 : Below w.heap.size w (w.alloc (.cells (uCells Url.zero) 25)) := (Below.refl _ w).alloc (Nat.le_refl _) _
  have hE0 := hE.below hb0
  have hU0 : UAt (w.alloc (.cells (uCells Url.zero) 25)) w.heap.size Url.zero := heap_alloc_last _ _
  unfold uVal at hzu
  unfold pCells at hzp
  have HPE : Hid (Url.perr l = if 2048 < (Url.clean l).length then 5 else if Url.schE (Url.clean l) ≠ 0 then Url.schE (Url.clean l) else if Url.placeE (Url.schR (Url.clean l)) ≠ 0 then Url.placeE (Url.schR (Url.clean l)) else if 2048 < (Url.str (Url.whole (Url.clean l))).length then 5 else 0) := rfl
  have HPY : Hid (Url.perr l = 0 → Url.parse l = Url.whole (Url.clean l)) := parse_yes
  have HPN : Hid (¬ Url.perr l = 0 → Url.parse l = Url.zero) := parse_err
  have cleanc : ∀ W : World, Env W → Calls Tryz.prog 17 #[.string (str l)] W fun e w' => e = .returned (.string (str (Url.clean l))) ∧ Below W.heap.size W w' := fun W h => Clean_any l W h (by omega)
  generalize Url.clean l = c at hcl HPE HPY cleanc
  generalize Url.perr l = pe at HPE HPY HPN ⊢
  generalize Url.parse l = pu at HPY HPN ⊢
  have hsz := str_size c
  go_enter Tryz.func11, Tryz.ntmps11
  go_upto_region 2 with (go_at_call 17; refine (cleanc _ hE0).mono ?_; rintro e w1 ⟨rfl, hb1⟩)
  have hU1 := hU0.below hb1
  have hb1' := bel hb0 hb1
  have hE1 := hE0.below hb1
  clear hb0 hE0 hU0 hb1 cleanc
  have hn1 := hb1'.size
  by_cases hlong : 2048 < c.length
  · have HE : Hid (pe = 5) := HPE.out.trans (if_pos hlong)
    have hl2 : (2048 : Int) < (c.length : Int) := by omega
    clear hlong
    go_wp2_with (refine wpList_store_U _ _ rfl rfl w.heap.size Url.zero Url.zero rfl rfl hU1 ?_)
    refine ret_U2 (u := Url.zero) rfl rfl rfl rfl (setRow_U hU1) ⟨?_, below_setRow hb1' (Nat.le_refl _) _⟩
    rw [HPN.out (by rw [HE.out]; decide), HE.out]
    rfl
  · have HE : Hid _ := HPE.out.trans (if_neg hlong)
    have hl2 : ¬ (2048 : Int) < (c.length : Int) := by omega
    clear HPE
    go_upto_region 5 with fail
    have hp2 : IsP (w1.alloc (.cells (pCells c Url.zero) 43)) w1.heap.size c Url.zero := heap_alloc_last _ _
    have hb2 : Below w1.heap.size w1 (w1.alloc (.cells (pCells c Url.zero) 43)) := (Below.refl _ w1).alloc (Nat.le_refl _) _
    unfold pCells at hp2 hb2
    generalize w1.alloc (.cells #[.string (str c), .string (str Url.zero.sch), .string (str Url.zero.host), .int .i64 Url.zero.port, .string (str Url.zero.path), .string (str Url.zero.query), .string (str Url.zero.frag), .bool Url.zero.hq, .bool Url.zero.hf] 43) = w2 at hp2 hb2 ⊢
    have hG : ∀ W : World, Below w1.heap.size w1 W → Env W := fun W h => hE1.below h
    have hUG : ∀ W : World, Below w1.heap.size w1 W → UAt W w.heap.size Url.zero := fun W h => hU1.below h
    have hBG : ∀ W : World, Below w1.heap.size w1 W → Below w.heap.size w W := fun W h => bel hb1' h
    clear hU1 hb1' hE1
    generalize w1.heap.size = b at hp2 hb2 hG hUG hBG hn1 ⊢
    have call1 := readScheme_any c Url.zero b w2 hp2 (by omega)
    have hrl := schR_len c
    by_cases hs : Url.schE c = 0
    · have HE2 : Hid _ := HE.out.trans (if_neg (fun h => h hs))
      rw [hs] at call1
      clear hs HE
      go_upto_region 8 with (go_at_call 26; refine call1.mono ?_; rintro e w3 ⟨rfl, hp3, hb3⟩)
      replace hp3 := hp3 trivial
      replace hb3 := hb2.trans hb3
      clear call1 hp2 hb2
      have call2 := readPlace_any (Url.schR c) { Url.zero with sch := Url.sch c } b w3 hp3 (hG _ hb3) rfl (by omega) (fun _ W h => hG W (hb3.trans h))
      have hpl := placeR_len (Url.schR c)
      by_cases hs : Url.placeE (Url.schR c) = 0
      · have HE3 : Hid _ := HE2.out.trans (if_neg (fun h => h hs))
        have HFit := whole_fits c (by omega) hs
        rw [hs] at call2
        clear hs HE2
        go_upto_region 11 with (go_at_call 27; refine call2.mono ?_; rintro e w4 ⟨rfl, hp4, hb4⟩)
        replace hp4 := hp4 trivial
        replace hb4 := hb3.trans hb4
        clear call2 hp3 hb3
        have call3 := readTail_any (Url.placeR (Url.schR c)) _ b w4 hp4 (hG _ hb4) rfl rfl rfl rfl (by omega) (fun _ W h => hG W (hb4.trans h))
        go_upto_region 12 with (go_at_call 28; refine call3.mono ?_; rintro e w5 ⟨rfl, ⟨t5, hp5⟩, hb5⟩)
        replace hb5 := hb4.trans hb5
        have hp5 : IsP w5 b t5 (Url.whole c) := hp5
        clear call3 hp4 hb4
        have call4 := String_any (Url.whole c) w5 (hG _ hb5) HFit
        generalize Url.whole c = u at hp5 HE3 HPY HFit call4
        have hs5 := str_size (Url.str u)
        have hp5lt := hp5.lt
        by_cases hs : 2048 < (Url.str u).length
        · have HE4 : Hid (pe = 5) := HE3.out.trans (if_pos hs)
          have hs2 : (2048 : Int) < ((Url.str u).length : Int) := by omega
          clear hs
          go_wp2_with (first
            | (refine wpList_load_P _ rfl rfl b t5 u rfl hp5 ?_)
            | (go_at_call 22; refine call4.mono ?_; rintro e w6 ⟨rfl, hb6⟩; have hb6' := hb5.trans (belowP hb6 hp5lt))
            | (refine wpList_store_U _ _ rfl rfl w.heap.size Url.zero Url.zero rfl rfl (hUG _ hb6') ?_))
          refine ret_U2 (u := Url.zero) rfl rfl rfl rfl (setRow_U (hUG _ hb6')) ⟨?_, below_setRow (hBG _ hb6') (Nat.le_refl _) _⟩
          rw [HPN.out (by rw [HE4.out]; decide), HE4.out]
          rfl
        · have HE4 : Hid (pe = 0) := HE3.out.trans (if_neg hs)
          have hs2 : ¬ (2048 : Int) < ((Url.str u).length : Int) := by omega
          clear hs
          go_wp2_with (first
            | (refine wpList_load_P _ rfl rfl b t5 u rfl hp5 ?_)
            | (go_at_call 22; refine call4.mono ?_; rintro e w6 ⟨rfl, hb6⟩; have hb6' := hb5.trans (belowP hb6 hp5lt); have hp6 := hp5.below hb6)
            | (refine wpList_load_P _ rfl rfl b t5 u rfl hp6 ?_)
            | (refine wpList_store_U _ _ rfl rfl w.heap.size u Url.zero rfl rfl (hUG _ hb6') ?_))
          refine ret_U2 (u := u) rfl rfl rfl rfl (setRow_U (hUG _ hb6')) ⟨?_, below_setRow (hBG _ hb6') (Nat.le_refl _) _⟩
          rw [HPY.out HE4.out, HE4.out]
          rfl
      · have HE3 : Hid (pe = Url.placeE (Url.schR c)) := HE2.out.trans (if_pos hs)
        have HS : Hid (¬ Url.placeE (Url.schR c) = 0) := hs
        have hs2 : (Url.placeE (Url.schR c) != 0) = true := by rw [bne_iff_ne]; exact hs
        clear hs HE2
        go_wp2_with (first
          | (go_at_call 27; refine call2.mono ?_; rintro e w4 ⟨rfl, hp4, hb4⟩; have hb4' := hb3.trans hb4; clear hp4)
          | (refine wpList_store_U _ _ rfl rfl w.heap.size Url.zero Url.zero rfl rfl (hUG _ hb4') ?_))
        refine ret_U2 (u := Url.zero) rfl rfl rfl rfl (setRow_U (hUG _ hb4')) ⟨?_, below_setRow (hBG _ hb4') (Nat.le_refl _) _⟩
        rw [HPN.out (by rw [HE3.out]; exact HS.out), HE3.out]
        rfl
    · have HE2 : Hid (pe = Url.schE c) := HE.out.trans (if_pos hs)
      have HS : Hid (¬ Url.schE c = 0) := hs
      have hs2 : (Url.schE c != 0) = true := by rw [bne_iff_ne]; exact hs
      clear hs HE
      go_wp2_with (first
        | (go_at_call 26; refine call1.mono ?_; rintro e w3 ⟨rfl, hp3, hb3⟩; have hb3' := hb2.trans hb3; clear hp3)
        | (refine wpList_store_U _ _ rfl rfl w.heap.size Url.zero Url.zero rfl rfl (hUG _ hb3') ?_))
      refine ret_U2 (u := Url.zero) rfl rfl rfl rfl (setRow_U (hUG _ hb3')) ⟨?_, below_setRow (hBG _ hb3') (Nat.le_refl _) _⟩
      rw [HPN.out (by rw [HE2.out]; exact HS.out), HE2.out]
      rfl
set_option maxHeartbeats 2000000 in
set_option maxRecDepth 100000 in
theorem Tail_any (u : Url.U) (l : List UInt8) (w : World) (hE : Env w) (hz : l.length ≤ 10000000) :
    Calls Tryz.prog 13 #[uVal u, .string (str l)] w fun e w' => e = .returned (uVal (Url.tail u l)) ∧ Below w.heap.size w w' := by
  have hzu := (zero_of_info zeroURL).1
  have hzp := (zero_of_info zeroP).1
  have hzr := (zero_of_info zeroR).1
  have hb0 : Below w.heap.size w ((w.alloc (.cells (uCells u) 25)).alloc (.cells (uCells Url.zero) 25)) := ((Below.refl _ w).alloc (Nat.le_refl _) _).alloc (by simp) _
  have hU0 : UAt ((w.alloc (.cells (uCells u) 25)).alloc (.cells (uCells Url.zero) 25)) (w.heap.size + 1) Url.zero := alloc_two _ _ _
  have plc : ∀ W : World, Calls Tryz.prog 34 #[uVal u] W fun e w' => e = .returned (uVal (placeU u)) ∧ Below W.heap.size W w' := fun W => place_any u W
  unfold uVal at hzu
  unfold pCells at hzp
  unfold uVal uCells at plc
  have hE0 := hE.below hb0
  obtain ⟨v, hv⟩ : ∃ v, Url.tail u l = v := ⟨_, rfl⟩
  have HT : Hid (Url.tail (placeU u) l = v) := hv
  rw [hv]
  clear hv
  unfold uVal
  unfold uCells at hzu hb0 hU0 hE0 ⊢
  go_enter Tryz.func13, Tryz.ntmps13
  go_wp2_with (first
    | (go_at_call 34; refine (plc _).mono ?_; rintro e w1 ⟨rfl, hb1⟩)
    | fail)
  have hU1 : UAt w1 (w.heap.size + 1) Url.zero := UAt.below hU0 hb1
  have hb1' := bel hb0 hb1
  have hE1 := hE0.below hb1
  have hl1 := (Array.getElem?_eq_some_iff.1 hU1).1
  have hp2 : IsP (w1.alloc (.cells (pCells l (placeU u)) 43)) w1.heap.size l (placeU u) := heap_alloc_last _ _
  have hb2 : Below w1.heap.size w1 (w1.alloc (.cells (pCells l (placeU u)) 43)) := (Below.refl _ w1).alloc (Nat.le_refl _) _
  unfold pCells at hp2 hb2
  generalize w1.alloc (.cells #[.string (str l), .string (str (placeU u).sch), .string (str (placeU u).host), .int .i64 (placeU u).port, .string (str (placeU u).path), .string (str (placeU u).query), .string (str (placeU u).frag), .bool (placeU u).hq, .bool (placeU u).hf] 43) = w2 at hp2 hb2 ⊢
  have call3 := readTail_any l (placeU u) w1.heap.size w2 hp2 (hE1.below hb2) rfl rfl rfl rfl (by omega) (fun _ W h => hE1.below (hb2.trans h))
  have hUG : ∀ W : World, Below w1.heap.size w1 W → UAt W (w.heap.size + 1) Url.zero := fun W h => hU1.below h
  have hBG : ∀ W : World, Below w1.heap.size w1 W → Below w.heap.size w W := fun W h => bel hb1' h
  clear hU0 hU1 hb0 hb1 hE0 hE1 hE hb1'
  generalize w1.heap.size = b at hp2 hb2 call3 hUG hBG hl1 ⊢
  go_at_call 28
  refine call3.mono ?_
  rintro e w3 ⟨rfl, ⟨t3, hp3⟩, hb3⟩
  replace hb3 := hb2.trans hb3
  clear call3 hp2 hb2
  have hp3 : IsP w3 b t3 v := by rw [← HT.out]; exact hp3
  go_wp2_with (first
    | (refine wpList_load_P _ rfl rfl b t3 v rfl hp3 ?_)
    | (refine wpList_store_U _ _ rfl rfl (w.heap.size + 1) v Url.zero rfl rfl (hUG _ hb3) ?_))
  exact ret_U (u := v) rfl rfl rfl (setRow_U (hUG _ hb3)) ⟨rfl, below_setRow (hBG _ hb3) (by omega) _⟩
end Go.Proofs.YtlkhjloeonbjaaaGreatDoor
