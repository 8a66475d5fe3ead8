/- The walk of the law TokenBack, out of the contracts. -/
import Derived.Test.YtagceinccibnjaaGreatDoorKTkX
set_option linter.unusedVariables false
set_option linter.unusedSimpArgs false
namespace Go.Proofs.YtagceinccibnjaaGreatDoor.tokenBack
open Go.RowKit
set_option maxHeartbeats 4000000 in
set_option maxRecDepth 100000 in
theorem walk (a0 : ByteArray) (w : World) (h0 : a0.size ≤ 140737488351232) (hT : EnvT w) :
    Calls Tryz.prog 7 #[.string a0] w fun e w' => e = .returned (.bool true) ∧ Below w.heap.size w w' := by
  have HT : Hid (EnvT w) := hT
  clear hT
  obtain ⟨l, rfl⟩ : ∃ l, a0 = str l := ⟨_, (str_self a0).symm⟩
  have hL := long12_any l
  by_cases hl : 1500 < l.length ∧ l.length ≤ 65536
  · rw [longT_yes hl] at hL
    clear hl
    go_enter Tryz.func7, Tryz.ntmps7
    go_wp2_with (first
      | (go_at_call 9; refine (hL _).mono ?_; rintro e w1 ⟨rfl, hw⟩; rw [hw]; clear hw)
      | (go_at_call 10; refine (alive12_any _ HT.out).mono ?_; rintro e w2 ⟨rfl, hb2⟩))
    go_ret
    exact ⟨rfl, hb2⟩
  · rw [longT_no hl] at hL
    have hA := All_any l w HT.out
    by_cases h65 : 65536 < l.length
    · rw [allR_long l h65] at hA
      clear hl h65
      go_enter Tryz.func7, Tryz.ntmps7
      go_wp2_with (first
        | (go_at_call 9; refine (hL _).mono ?_; rintro e w1 ⟨rfl, hw⟩; rw [hw]; clear hw)
        | (go_at_call 11; refine hA.mono ?_; rintro e w1 ⟨ad, ln, cp, rfl, hK, hb1⟩; obtain ⟨a1, c1, e1⟩ := hK.form; cases e1; have HB1 := hideQ hb1; clear hK hb1)
        | (go_at_call 10; refine (alive12_any _ (HT.out.below HB1.out)).mono ?_; rintro e w2 ⟨rfl, hb2⟩))
      go_ret
      exact ⟨rfl, bel HB1.out hb2⟩
    · have hs : l.length ≤ 1500 := by omega
      obtain ⟨hR, hkl, hcl⟩ := allR_short l hs
      rw [hR] at hA
      have hfine := hideQ (Tk.all_fine (Tk.clean l))
      have hsize := hideQ (fun k hk => (Tk.all_size (Tk.clean l) k hk).mono hcl)
      generalize Tk.all (Tk.clean l) = ks at *
      clear hl h65 hs hR hcl
      go_enter Tryz.func7, Tryz.ntmps7
      go_wp2_with (first
        | (go_at_call 9; refine (hL _).mono ?_; rintro e w1 ⟨rfl, hw⟩; rw [hw]; clear hw)
        | (go_at_call 11; refine hA.mono ?_; rintro e w1 ⟨ad, ln, cp, rfl, hK, hb1⟩; obtain ⟨a1, c1, e1⟩ := hK.form; cases e1; have HK := hideQ hK; have HB1 := hideQ hb1; clear hK hb1))
      clear hL hA
      go_loopw [28] (fun i wr => ∃ j : Nat, i = .int .i64 j ∧ j ≤ ks.length ∧ Below w1.heap.size w1 wr) (fun i _ => ks.length - (intOf i).toNat)
      case atStart => exact ⟨0, rfl, Nat.zero_le _, Below.refl _ _⟩
      case round =>
        obtain ⟨j, rfl, hj, hB⟩ := hrel
        have HB := hideQ hB
        clear hB
        have HE := hideQ ((HT.out.below HB1.out).below HB.out)
        by_cases hjl : j < ks.length
        · have hat : ks[j]? = some ks[j] := List.getElem?_eq_getElem hjl
          have hmem := List.getElem_mem hjl
          have hf := hfine.out _ hmem
          have hbr := bears_of 13500 (by decide) _ hf (hsize.out _ hmem)
          have hback := Tk.fine_back _ hf
          obtain ⟨g, ua, ul, uc, rfl, hg, hc, r0, o0⟩ := (HK.out.below HB.out).range hat
          have hTagL : (Tk.tagText ks[j]).length ≤ 1000000 := Nat.le_trans (Tk.tagText_len 13500 _ hf (hsize.out _ hmem)) (by decide)
          have hkind : ks[j].kind = 1 ∨ ks[j].kind = 2 ∨ ks[j].kind = 3 ∨ ks[j].kind = 4 ∨ ks[j].kind = 5 := by
            rcases hf with h | h | h | h
            · exact .inl h.1
            · exact .inr (.inl h.1)
            · exact .inr (.inr (.inl h.1))
            · rcases h.1 with h | h
              · exact .inr (.inr (.inr (.inl h)))
              · exact .inr (.inr (.inr (.inr h)))
          clear hmem hf hat
          generalize ks[j] = k at *
          have or0 := o0.reads
          have HR := hideQ r0
          have hb5 : Below wr.heap.size wr (wr.alloc (.cells (kCells k.kind k.name (.slice ua ul uc) k.self k.text) 37)) := (Below.refl _ _).alloc (Nat.le_refl _) _
          have T5 : KAt (wr.alloc (.cells (kCells k.kind k.name (.slice ua ul uc) k.self k.text) 37)) wr.heap.size (kCells k.kind k.name (.slice ua ul uc) k.self k.text) := heap_new wr _
          have HT5 := hideQ T5
          have OR5 := hideQ (or0.below hb5)
          have HTag := hideQ (fun W h => Tag_any k (.slice ua ul uc) W h hbr)
          have HB5 := hideQ (bel HB.out hb5)
          have HE5 := hideQ (HE.out.below hb5)
          have HO := hideQ o0
          have hal := hbr.ats
          clear r0 o0 T5 or0 hb5 hbr
          rcases hkind with hk1 | hk1 | hk1 | hk1 | hk1
          · have hb1 := hback.1 (by omega)
            have q1 : ((k.kind : Int) == 1) = true := by rw [hk1]; rfl
            have HN := hideQ (fun W hE => NextT_any (Tk.tagText k) W hE hTagL)
            rw [hb1] at HN
            clear hback hb1 hTagL hk1
            generalize hx : Tk.tagText k = x at *
            clear hx
            have hsx := str_size x
            go_wp2_with (first
              | (refine wpList_load_Tg (by rfl) _ rfl g (j * 5) rfl _ _ _ _ _ HR.out ?_)
              | (refine wpList_load_K _ rfl rfl wr.heap.size _ _ _ _ _ rfl HT5.out ?_)
              | (go_at_call 20; refine (HTag.out _ OR5.out).mono ?_; rintro e w6 ⟨rfl, hb6⟩; have T6 := HT5.out.step hb6; have c60 := Lib.cell_of_heap T6 0; have HT6 := hideQ T6; have HB6 := hideQ (bel HB5.out hb6); have HE6 := hideQ (HE5.out.below hb6); have OR6 := hideQ (OR5.out.below hb6); clear T6 hb6))
            go_at_call 17
            refine (HN.out _ HE6.out).mono ?_
            rintro e w7 ⟨ad, ln, cq, rfl, o7, hb7⟩
            have hb8 : Below w7.heap.size w7 (w7.alloc (.cells (kCells k.kind k.name (.slice ad ln cq) k.self k.text) 37)) := (Below.refl _ _).alloc (Nat.le_refl _) _
            have T8 := hideQ (HT6.out.step (bel hb7 hb8))
            have U8 : Hid (KAt (w7.alloc (.cells (kCells k.kind k.name (.slice ad ln cq) k.self k.text) 37)) w7.heap.size (kCells k.kind k.name (.slice ad ln cq) k.self k.text)) := heap_new w7 _
            have OR8 := hideQ (OR6.out.below (bel hb7 hb8))
            have OU8 := hideQ ((OwnsPairs.reads o7).below hb8)
            have HB8 := hideQ (bel HB6.out (bel hb7 hb8))
            have HS := hideQ (SameT_any k.kind k.kind k.name k.name k.attrs k.attrs k.self k.self k.text k.text _ _ _ OR8.out OU8.out hal hal)
            rw [sameK_self] at HS
            clear HN o7 hb7 hb8 c60 HTag
            go_wp2_with (first
              | (refine wpList_load_K _ rfl rfl wr.heap.size _ _ _ _ _ rfl T8.out ?_)
              | (refine wpList_load_K _ rfl rfl w7.heap.size _ _ _ _ _ rfl U8.out ?_)
              | (go_at_call 23; refine HS.out.mono ?_; rintro e w9 ⟨rfl, hb9⟩; have HB9 := hideQ (bel HB8.out hb9); clear hb9))
            go_roundw
            case rel => exact ⟨j + 1, by go_num, by omega, HB9.out⟩
            case measure => simp [intOf]; omega
          · have hb1 := hback.1 (by omega)
            have q1 : ((k.kind : Int) == 1) = false := by rw [hk1]; rfl
            have q2 : ((k.kind : Int) == 2) = true := by rw [hk1]; rfl
            have HN := hideQ (fun W hE => NextT_any (Tk.tagText k) W hE hTagL)
            rw [hb1] at HN
            clear hback hb1 hTagL hk1
            generalize hx : Tk.tagText k = x at *
            clear hx
            have hsx := str_size x
            go_wp2_with (first
              | (refine wpList_load_Tg (by rfl) _ rfl g (j * 5) rfl _ _ _ _ _ HR.out ?_)
              | (refine wpList_load_K _ rfl rfl wr.heap.size _ _ _ _ _ rfl HT5.out ?_)
              | (go_at_call 20; refine (HTag.out _ OR5.out).mono ?_; rintro e w6 ⟨rfl, hb6⟩; have T6 := HT5.out.step hb6; have c60 := Lib.cell_of_heap T6 0; have HT6 := hideQ T6; have HB6 := hideQ (bel HB5.out hb6); have HE6 := hideQ (HE5.out.below hb6); have OR6 := hideQ (OR5.out.below hb6); clear T6 hb6))
            go_at_call 17
            refine (HN.out _ HE6.out).mono ?_
            rintro e w7 ⟨ad, ln, cq, rfl, o7, hb7⟩
            have hb8 : Below w7.heap.size w7 (w7.alloc (.cells (kCells k.kind k.name (.slice ad ln cq) k.self k.text) 37)) := (Below.refl _ _).alloc (Nat.le_refl _) _
            have T8 := hideQ (HT6.out.step (bel hb7 hb8))
            have U8 : Hid (KAt (w7.alloc (.cells (kCells k.kind k.name (.slice ad ln cq) k.self k.text) 37)) w7.heap.size (kCells k.kind k.name (.slice ad ln cq) k.self k.text)) := heap_new w7 _
            have OR8 := hideQ (OR6.out.below (bel hb7 hb8))
            have OU8 := hideQ ((OwnsPairs.reads o7).below hb8)
            have HB8 := hideQ (bel HB6.out (bel hb7 hb8))
            have HS := hideQ (SameT_any k.kind k.kind k.name k.name k.attrs k.attrs k.self k.self k.text k.text _ _ _ OR8.out OU8.out hal hal)
            rw [sameK_self] at HS
            clear HN o7 hb7 hb8 c60 HTag
            go_wp2_with (first
              | (refine wpList_load_K _ rfl rfl wr.heap.size _ _ _ _ _ rfl T8.out ?_)
              | (refine wpList_load_K _ rfl rfl w7.heap.size _ _ _ _ _ rfl U8.out ?_)
              | (go_at_call 23; refine HS.out.mono ?_; rintro e w9 ⟨rfl, hb9⟩; have HB9 := hideQ (bel HB8.out hb9); clear hb9))
            go_roundw
            case rel => exact ⟨j + 1, by go_num, by omega, HB9.out⟩
            case measure => simp [intOf]; omega
          · have hb1 := hback.1 (by omega)
            have q1 : ((k.kind : Int) == 1) = false := by rw [hk1]; rfl
            have q2 : ((k.kind : Int) == 2) = false := by rw [hk1]; rfl
            have q3 : ((k.kind : Int) == 3) = true := by rw [hk1]; rfl
            have HN := hideQ (fun W hE => NextT_any (Tk.tagText k) W hE hTagL)
            rw [hb1] at HN
            clear hback hb1 hTagL hk1
            generalize hx : Tk.tagText k = x at *
            clear hx
            have hsx := str_size x
            go_wp2_with (first
              | (refine wpList_load_Tg (by rfl) _ rfl g (j * 5) rfl _ _ _ _ _ HR.out ?_)
              | (refine wpList_load_K _ rfl rfl wr.heap.size _ _ _ _ _ rfl HT5.out ?_)
              | (go_at_call 20; refine (HTag.out _ OR5.out).mono ?_; rintro e w6 ⟨rfl, hb6⟩; have T6 := HT5.out.step hb6; have c60 := Lib.cell_of_heap T6 0; have HT6 := hideQ T6; have HB6 := hideQ (bel HB5.out hb6); have HE6 := hideQ (HE5.out.below hb6); have OR6 := hideQ (OR5.out.below hb6); clear T6 hb6))
            go_at_call 17
            refine (HN.out _ HE6.out).mono ?_
            rintro e w7 ⟨ad, ln, cq, rfl, o7, hb7⟩
            have hb8 : Below w7.heap.size w7 (w7.alloc (.cells (kCells k.kind k.name (.slice ad ln cq) k.self k.text) 37)) := (Below.refl _ _).alloc (Nat.le_refl _) _
            have T8 := hideQ (HT6.out.step (bel hb7 hb8))
            have U8 : Hid (KAt (w7.alloc (.cells (kCells k.kind k.name (.slice ad ln cq) k.self k.text) 37)) w7.heap.size (kCells k.kind k.name (.slice ad ln cq) k.self k.text)) := heap_new w7 _
            have OR8 := hideQ (OR6.out.below (bel hb7 hb8))
            have OU8 := hideQ ((OwnsPairs.reads o7).below hb8)
            have HB8 := hideQ (bel HB6.out (bel hb7 hb8))
            have HS := hideQ (SameT_any k.kind k.kind k.name k.name k.attrs k.attrs k.self k.self k.text k.text _ _ _ OR8.out OU8.out hal hal)
            rw [sameK_self] at HS
            clear HN o7 hb7 hb8 c60 HTag
            go_wp2_with (first
              | (refine wpList_load_K _ rfl rfl wr.heap.size _ _ _ _ _ rfl T8.out ?_)
              | (refine wpList_load_K _ rfl rfl w7.heap.size _ _ _ _ _ rfl U8.out ?_)
              | (go_at_call 23; refine HS.out.mono ?_; rintro e w9 ⟨rfl, hb9⟩; have HB9 := hideQ (bel HB8.out hb9); clear hb9))
            go_roundw
            case rel => exact ⟨j + 1, by go_num, by omega, HB9.out⟩
            case measure => simp [intOf]; omega
          · have hb1 := hback.2 (by omega)
            have q1 : ((k.kind : Int) == 1) = false := by rw [hk1]; rfl
            have q2 : ((k.kind : Int) == 2) = false := by rw [hk1]; rfl
            have q3 : ((k.kind : Int) == 3) = false := by rw [hk1]; rfl
            rw [hb1] at HTag
            have hne : ((str ([] : List UInt8)).toList.isEmpty) = true := by rw [str_list]; rfl
            clear hback hb1 hTagL hk1
            go_wp2_with (first
              | (refine wpList_load_Tg (by rfl) _ rfl g (j * 5) rfl _ _ _ _ _ HR.out ?_)
              | (refine wpList_load_K _ rfl rfl wr.heap.size _ _ _ _ _ rfl HT5.out ?_)
              | (go_at_call 20; refine (HTag.out _ OR5.out).mono ?_; rintro e w6 ⟨rfl, hb6⟩; have T6 := HT5.out.step hb6; have c60 := Lib.cell_of_heap T6 0; have HB6 := hideQ (bel HB5.out hb6); clear T6 hb6))
            go_roundw
            case rel => exact ⟨j + 1, by go_num, by omega, HB6.out⟩
            case measure => simp [intOf]; omega
          · have hb1 := hback.2 (by omega)
            have q1 : ((k.kind : Int) == 1) = false := by rw [hk1]; rfl
            have q2 : ((k.kind : Int) == 2) = false := by rw [hk1]; rfl
            have q3 : ((k.kind : Int) == 3) = false := by rw [hk1]; rfl
            rw [hb1] at HTag
            have hne : ((str ([] : List UInt8)).toList.isEmpty) = true := by rw [str_list]; rfl
            clear hback hb1 hTagL hk1
            go_wp2_with (first
              | (refine wpList_load_Tg (by rfl) _ rfl g (j * 5) rfl _ _ _ _ _ HR.out ?_)
              | (refine wpList_load_K _ rfl rfl wr.heap.size _ _ _ _ _ rfl HT5.out ?_)
              | (go_at_call 20; refine (HTag.out _ OR5.out).mono ?_; rintro e w6 ⟨rfl, hb6⟩; have T6 := HT5.out.step hb6; have c60 := Lib.cell_of_heap T6 0; have HB6 := hideQ (bel HB5.out hb6); clear T6 hb6))
            go_roundw
            case rel => exact ⟨j + 1, by go_num, by omega, HB6.out⟩
            case measure => simp [intOf]; omega
        · go_wp2_with (go_at_call 10; refine (alive12_any _ HE.out).mono ?_; rintro e w9 ⟨rfl, hb9⟩)
          go_ret
          exact ⟨rfl, bel (bel HB1.out HB.out) hb9⟩
end Go.Proofs.YtagceinccibnjaaGreatDoor.tokenBack
