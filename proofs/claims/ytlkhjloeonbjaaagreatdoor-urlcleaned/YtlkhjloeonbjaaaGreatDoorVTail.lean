/- The contract of package url's readTail. -/
import Derived.Test.YtlkhjloeonbjaaaGreatDoorVPath
namespace Go.Proofs.YtlkhjloeonbjaaaGreatDoor
open Go.RowKit
theorem took_yes (x : UInt8) (t : List UInt8) (u : Url.U) (b : Nat) (w : World) (hp : IsP w b t u) (h : Url.hasB x t = true) :
    Calls Tryz.prog 57 #[.pointer (some ⟨b, 0, none⟩), .string ⟨#[x]⟩] w fun r w' => r = .returned (.bool true) ∧ IsP w' b (t.drop 1) u ∧ Below b w w' := by
  have := took_any x t u b w hp
  rw [h, if_pos rfl] at this
  exact this
theorem took_no (x : UInt8) (t : List UInt8) (u : Url.U) (b : Nat) (w : World) (hp : IsP w b t u) (h : Url.hasB x t = false) :
    Calls Tryz.prog 57 #[.pointer (some ⟨b, 0, none⟩), .string ⟨#[x]⟩] w fun r w' => r = .returned (.bool false) ∧ IsP w' b t u ∧ Below b w w' := by
  have := took_any x t u b w hp
  rw [h, if_neg (by decide)] at this
  exact this
set_option maxHeartbeats 1000000 in
set_option maxRecDepth 100000 in
theorem readTail_any (t : List UInt8) (u : Url.U) (b : Nat) (w : World) (hp : IsP w b t u) (hE : Env w) (hq : u.query = []) (hf : u.frag = []) (h1 : u.hq = false) (h2 : u.hf = false) (hz : t.length ≤ 100000000) (hG : Env w → ∀ w', Below b w w' → Env w') :
    Calls Tryz.prog 28 #[.pointer (some ⟨b, 0, none⟩)] w fun e w' => e = .returned (.tuple #[]) ∧ (∃ t', IsP w' b t' (Url.tail u t)) ∧ Below b w w' := by
  have hul := Url.upto_len [63, 35] t
  have hrl := Url.rest_len [63, 35] t
  have up1 : ∀ W : World, IsP W b t u → Calls Tryz.prog 56 #[.pointer (some ⟨b, 0, none⟩), .string ⟨#[63, 35]⟩] W _ := fun W h => upTo_any [63, 35] t u b W h (by decide) (by decide) (by decide) (by omega)
  obtain ⟨us, uh, up, upa, uq, uf, uhq, uhf⟩ := u
  simp only at hq hf h1 h2
  subst hq hf h1 h2
  have HT : Hid (Url.tail ⟨us, uh, up, upa, [], [], false, false⟩ t = { sch := us, host := uh, port := up, path := Url.path (Url.upto [63, 35] t), query := if Url.hasB 63 (Url.rest [63, 35] t) = true then Pct.mark Url.freeQ (Url.upto [35] ((Url.rest [63, 35] t).drop 1)) else [], frag := if Url.hasB 35 (Url.behind t) = true then Pct.mark Url.freeF ((Url.behind t).drop 1) else [], hq := Url.hasB 63 (Url.rest [63, 35] t), hf := Url.hasB 35 (Url.behind t) }) := rfl
  have HB : Hid (Url.behind t = if Url.hasB 63 (Url.rest [63, 35] t) = true then Url.rest [35] ((Url.rest [63, 35] t).drop 1) else Url.rest [63, 35] t) := rfl
  generalize Url.rest [63, 35] t = r at hrl up1 HT HB
  generalize Url.upto [63, 35] t = a at hul up1 HT
  generalize Url.behind t = bh at HT HB
  cases h63 : Url.hasB 63 r
  · rw [h63] at HT HB
    have hbh : bh = r := HB.out
    subst hbh
    clear HB
    have hfl : (bh.drop 1).length ≤ t.length := by rw [List.length_drop]; omega
    obtain ⟨f, hfd⟩ : ∃ f, bh.drop 1 = f := ⟨_, rfl⟩
    rw [hfd] at HT hfl
    have mkf : ∀ W : World, Calls Tryz.prog 48 #[.string (str f), .string ⟨#[33, 36, 37, 38, 40, 41, 42, 43, 44, 47, 58, 59, 61, 64, 91, 92, 93, 94, 124, 39, 35, 63, 123, 125]⟩] W _ := fun W => Mark_str _ Url.freeF W (by omega) (by decide)
    cases h35 : Url.hasB 35 bh
    · rw [h35] at HT
      simp only [Bool.false_eq_true, if_false] at HT
      go_enter Tryz.func28, Tryz.ntmps28
      go_wp2_with (first
        | (go_at_call 56; refine (up1 _ hp).mono ?_; rintro e w1 ⟨rfl, hp1, hb1⟩; have hE1 := hG hE w1 hb1)
        | (go_at_call 19; refine (Path_any a _ hE1 (by omega)).mono ?_; rintro e w2 ⟨rfl, hb2⟩; have hp2 := hp1.below hb2; have c2 : w2.cell? ⟨b, 4, none⟩ = some (.string (str upa)) := hp2.cell 4; have f2 := hp2.frozen 4; have hb3 := (hb1.trans (belowP hb2 hp1.lt)).setCell (p := ⟨b, 4, none⟩) (Nat.le_refl _) (.string (str (Url.path a))); have hp3 := hp2.path (Url.path a)))
      clear c2 f2 hp1 hp2 hb1 hb2 hE1
      generalize w2.setCell ⟨b, 4, none⟩ (.string (str (Url.path a))) = w3 at hp3 hb3 ⊢
      go_at_call 57
      refine (took_no 63 _ _ b w3 hp3 h63).mono ?_
      rintro e w4 ⟨rfl, hp4, hb4⟩
      replace hb4 := hb3.trans hb4
      clear hp3 hb3
      go_wp2_with fail
      go_at_call 57
      refine (took_no 35 _ _ b w4 hp4 h35).mono ?_
      rintro e w5 ⟨rfl, hp5, hb5⟩
      go_wp2
      go_end0
      exact ⟨rfl, ⟨_, by rw [HT.out]; exact hp5⟩, hb4.trans hb5⟩
    · rw [h35] at HT
      simp only [if_true, Bool.false_eq_true, if_false] at HT
      go_enter Tryz.func28, Tryz.ntmps28
      go_wp2_with (first
        | (go_at_call 56; refine (up1 _ hp).mono ?_; rintro e w1 ⟨rfl, hp1, hb1⟩; have hE1 := hG hE w1 hb1)
        | (go_at_call 19; refine (Path_any a _ hE1 (by omega)).mono ?_; rintro e w2 ⟨rfl, hb2⟩; have hp2 := hp1.below hb2; have c2 : w2.cell? ⟨b, 4, none⟩ = some (.string (str upa)) := hp2.cell 4; have f2 := hp2.frozen 4; have hb3 := (hb1.trans (belowP hb2 hp1.lt)).setCell (p := ⟨b, 4, none⟩) (Nat.le_refl _) (.string (str (Url.path a))); have hp3 := hp2.path (Url.path a)))
      clear c2 f2 hp1 hp2 hb1 hb2 hE1
      generalize w2.setCell ⟨b, 4, none⟩ (.string (str (Url.path a))) = w3 at hp3 hb3 ⊢
      go_at_call 57
      refine (took_no 63 _ _ b w3 hp3 h63).mono ?_
      rintro e w4 ⟨rfl, hp4, hb4⟩
      replace hb4 := hb3.trans hb4
      clear hp3 hb3
      go_wp2_with fail
      go_at_call 57
      refine (took_yes 35 _ _ b w4 hp4 h35).mono ?_
      rintro e w5 ⟨rfl, hp5, hb5⟩
      replace hb5 := hb4.trans hb5
      clear hp4 hb4
      rw [hfd] at hp5
      clear hfd
      have c5 : w5.cell? ⟨b, 0, none⟩ = some (.string (str f)) := hp5.cell 0
      have f5 := hp5.frozen 0
      go_wp2_with (first
        | (go_at_call 48; refine (mkf _).mono ?_; rintro e w6 ⟨rfl, hb6⟩; have hp6 := hp5.below hb6; have c6 : w6.cell? ⟨b, 6, none⟩ = some (.string (str [])) := hp6.cell 6; have f6 := hp6.frozen 6; have c68 : w6.cell? ⟨b, 8, none⟩ = some (.bool false) := hp6.cell 8; have f68 := hp6.frozen 8; have c60 : w6.cell? ⟨b, 0, none⟩ = some (.string (str f)) := hp6.cell 0; have f60 := hp6.frozen 0))
      go_end0
      have hpe := ((hp6.frag (Pct.mark Url.freeF f)).hf true).text []
      rw [← HT.out] at hpe
      exact ⟨rfl, ⟨[], hpe⟩, (((hb5.trans (belowP hb6 hp5.lt)).setCell (p := ⟨b, 6, none⟩) (Nat.le_refl _) _).setCell (p := ⟨b, 8, none⟩) (Nat.le_refl _) _).setCell (p := ⟨b, 0, none⟩) (Nat.le_refl _) _⟩
  · rw [h63] at HT HB
    have hbh : bh = Url.rest [35] (r.drop 1) := HB.out
    clear HB
    have hd1 : (r.drop 1).length ≤ t.length := by rw [List.length_drop]; omega
    have hq1 := Url.upto_len [35] (r.drop 1)
    have hq2 := Url.rest_len [35] (r.drop 1)
    have up2 : ∀ (W : World) (v : Url.U), IsP W b (r.drop 1) v → Calls Tryz.prog 56 #[.pointer (some ⟨b, 0, none⟩), .string ⟨#[35]⟩] W _ := fun W v h => upTo_any [35] (r.drop 1) v b W h (by decide) (by decide) (by decide) (by omega)
    rw [← hbh] at hq2
    have hbl : bh.length ≤ t.length := by omega
    rw [← hbh] at up2
    generalize Url.upto [35] (r.drop 1) = q at HT hq1 up2
    clear hbh
    have mkq : ∀ W : World, Calls Tryz.prog 48 #[.string (str q), .string ⟨#[33, 36, 37, 38, 40, 41, 42, 43, 44, 47, 58, 59, 61, 64, 91, 92, 93, 94, 124, 63, 96, 123, 125]⟩] W _ := fun W => Mark_str _ Url.freeQ W (by omega) (by decide)
    have hfl : (bh.drop 1).length ≤ t.length := by rw [List.length_drop]; omega
    obtain ⟨f, hfd⟩ : ∃ f, bh.drop 1 = f := ⟨_, rfl⟩
    rw [hfd] at HT hfl
    have mkf : ∀ W : World, Calls Tryz.prog 48 #[.string (str f), .string ⟨#[33, 36, 37, 38, 40, 41, 42, 43, 44, 47, 58, 59, 61, 64, 91, 92, 93, 94, 124, 39, 35, 63, 123, 125]⟩] W _ := fun W => Mark_str _ Url.freeF W (by omega) (by decide)
    cases h35 : Url.hasB 35 bh
    · rw [h35] at HT
      simp only [if_true, Bool.false_eq_true, if_false] at HT
      go_enter Tryz.func28, Tryz.ntmps28
      go_wp2_with (first
        | (go_at_call 56; refine (up1 _ hp).mono ?_; rintro e w1 ⟨rfl, hp1, hb1⟩; have hE1 := hG hE w1 hb1)
        | (go_at_call 19; refine (Path_any a _ hE1 (by omega)).mono ?_; rintro e w2 ⟨rfl, hb2⟩; have hp2 := hp1.below hb2; have c2 : w2.cell? ⟨b, 4, none⟩ = some (.string (str upa)) := hp2.cell 4; have f2 := hp2.frozen 4; have hb3 := (hb1.trans (belowP hb2 hp1.lt)).setCell (p := ⟨b, 4, none⟩) (Nat.le_refl _) (.string (str (Url.path a))); have hp3 := hp2.path (Url.path a)))
      clear c2 f2 hp1 hp2 hb1 hb2 hE1
      generalize w2.setCell ⟨b, 4, none⟩ (.string (str (Url.path a))) = w3 at hp3 hb3 ⊢
      go_at_call 57
      refine (took_yes 63 _ _ b w3 hp3 h63).mono ?_
      rintro e w4 ⟨rfl, hp4, hb4⟩
      replace hb4 := hb3.trans hb4
      clear hp3 hb3
      go_wp2_with (first
        | (go_at_call 56; refine (up2 _ _ hp4).mono ?_; rintro e w5 ⟨rfl, hp5, hb5⟩; have hb5' := hb4.trans hb5)
        | (go_at_call 48; refine (mkq _).mono ?_; rintro e w6 ⟨rfl, hb6⟩; have hp6 := hp5.below hb6; have c6 : w6.cell? ⟨b, 5, none⟩ = some (.string (str [])) := hp6.cell 5; have f6 := hp6.frozen 5; have c67 : w6.cell? ⟨b, 7, none⟩ = some (.bool false) := hp6.cell 7; have f67 := hp6.frozen 7; have hp7 := (hp6.query (Pct.mark Url.freeQ q)).hq true; have hb7 := ((hb5'.trans (belowP hb6 hp5.lt)).setCell (p := ⟨b, 5, none⟩) (Nat.le_refl _) (.string (str (Pct.mark Url.freeQ q)))).setCell (p := ⟨b, 7, none⟩) (Nat.le_refl _) (.bool true)))
      clear c6 f6 c67 f67 hp6 hp5 hp4 hb6 hb5 hb4 hb5'
      generalize (w6.setCell ⟨b, 5, none⟩ (.string (str (Pct.mark Url.freeQ q)))).setCell ⟨b, 7, none⟩ (.bool true) = w8 at hp7 hb7 ⊢
      go_at_call 57
      refine (took_no 35 _ _ b w8 hp7 h35).mono ?_
      rintro e w5 ⟨rfl, hp5, hb5⟩
      go_wp2
      go_end0
      exact ⟨rfl, ⟨_, by rw [HT.out]; exact hp5⟩, hb7.trans hb5⟩
    · rw [h35] at HT
      simp only [if_true] at HT
      go_enter Tryz.func28, Tryz.ntmps28
      go_wp2_with (first
        | (go_at_call 56; refine (up1 _ hp).mono ?_; rintro e w1 ⟨rfl, hp1, hb1⟩; have hE1 := hG hE w1 hb1)
        | (go_at_call 19; refine (Path_any a _ hE1 (by omega)).mono ?_; rintro e w2 ⟨rfl, hb2⟩; have hp2 := hp1.below hb2; have c2 : w2.cell? ⟨b, 4, none⟩ = some (.string (str upa)) := hp2.cell 4; have f2 := hp2.frozen 4; have hb3 := (hb1.trans (belowP hb2 hp1.lt)).setCell (p := ⟨b, 4, none⟩) (Nat.le_refl _) (.string (str (Url.path a))); have hp3 := hp2.path (Url.path a)))
      clear c2 f2 hp1 hp2 hb1 hb2 hE1
      generalize w2.setCell ⟨b, 4, none⟩ (.string (str (Url.path a))) = w3 at hp3 hb3 ⊢
      go_at_call 57
      refine (took_yes 63 _ _ b w3 hp3 h63).mono ?_
      rintro e w4 ⟨rfl, hp4, hb4⟩
      replace hb4 := hb3.trans hb4
      clear hp3 hb3
      go_wp2_with (first
        | (go_at_call 56; refine (up2 _ _ hp4).mono ?_; rintro e w5 ⟨rfl, hp5, hb5⟩; have hb5' := hb4.trans hb5)
        | (go_at_call 48; refine (mkq _).mono ?_; rintro e w6 ⟨rfl, hb6⟩; have hp6 := hp5.below hb6; have c6 : w6.cell? ⟨b, 5, none⟩ = some (.string (str [])) := hp6.cell 5; have f6 := hp6.frozen 5; have c67 : w6.cell? ⟨b, 7, none⟩ = some (.bool false) := hp6.cell 7; have f67 := hp6.frozen 7; have hp7 := (hp6.query (Pct.mark Url.freeQ q)).hq true; have hb7 := ((hb5'.trans (belowP hb6 hp5.lt)).setCell (p := ⟨b, 5, none⟩) (Nat.le_refl _) (.string (str (Pct.mark Url.freeQ q)))).setCell (p := ⟨b, 7, none⟩) (Nat.le_refl _) (.bool true)))
      clear c6 f6 c67 f67 hp6 hp5 hp4 hb6 hb5 hb4 hb5'
      generalize (w6.setCell ⟨b, 5, none⟩ (.string (str (Pct.mark Url.freeQ q)))).setCell ⟨b, 7, none⟩ (.bool true) = w8 at hp7 hb7 ⊢
      go_at_call 57
      refine (took_yes 35 _ _ b w8 hp7 h35).mono ?_
      rintro e w5 ⟨rfl, hp5, hb5⟩
      replace hb5 := hb7.trans hb5
      clear hp7 hb7
      rw [hfd] at hp5
      clear hfd
      have c5 : w5.cell? ⟨b, 0, none⟩ = some (.string (str f)) := hp5.cell 0
      have f5 := hp5.frozen 0
      go_wp2_with (first
        | (go_at_call 48; refine (mkf _).mono ?_; rintro e w6 ⟨rfl, hb6⟩; have hp6 := hp5.below hb6; have c6 : w6.cell? ⟨b, 6, none⟩ = some (.string (str [])) := hp6.cell 6; have f6 := hp6.frozen 6; have c68 : w6.cell? ⟨b, 8, none⟩ = some (.bool false) := hp6.cell 8; have f68 := hp6.frozen 8; have c60 : w6.cell? ⟨b, 0, none⟩ = some (.string (str f)) := hp6.cell 0; have f60 := hp6.frozen 0))
      go_end0
      have hpe := ((hp6.frag (Pct.mark Url.freeF f)).hf true).text []
      rw [← HT.out] at hpe
      exact ⟨rfl, ⟨[], hpe⟩, (((hb5.trans (belowP hb6 hp5.lt)).setCell (p := ⟨b, 6, none⟩) (Nat.le_refl _) _).setCell (p := ⟨b, 8, none⟩) (Nat.le_refl _) _).setCell (p := ⟨b, 0, none⟩) (Nat.le_refl _) _⟩
end Go.Proofs.YtlkhjloeonbjaaaGreatDoor
