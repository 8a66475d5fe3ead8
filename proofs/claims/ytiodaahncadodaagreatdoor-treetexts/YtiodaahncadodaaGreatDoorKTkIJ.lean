/- Texts laid as one. -/
import Derived.Test.YtiodaahncadodaaGreatDoorKTkH
import Derived.Deep.Cut
import Derived.Deep.RegionWith
import Derived.Deep.RegionHeld3
/- The contract of a reader's next. -/
set_option linter.unusedVariables false
set_option linter.unusedSimpArgs false
namespace Go.Proofs.YtiodaahncadodaaGreatDoor
open Go.RowKit
theorem TokPost.back {b : Nat} {a : List UInt8} {w W w' : World} {x : Tk.Tok × List UInt8} {e : Ending} (h : TokPost b a W x e w') (hk : Kept b w W) (hs : w.heap.size < W.heap.size) : ∃ ad ln cp, e = .returned (tokV x.1 (.slice ad ln cp)) ∧ OwnsA w' (w.heap.size + 1) (.slice ad ln cp) x.1.attrs ∧ Tr b x.2 a w' ∧ Kept b w w' ∧ Kept b W w' := by
  obtain ⟨ad, ln, cp, h1, h2, h3, h4⟩ := h
  exact ⟨ad, ln, cp, h1, h2.mono hs, h3, hk.trans h4, h4⟩
theorem tagAt_one (s : List UInt8) (h : tagAt [60] s = true) : ∃ l, s = 60 :: l ∧ Tk.atLetter l = true := by
  unfold tagAt at h
  rw [Bool.and_eq_true] at h
  obtain ⟨r, hr⟩ := List.isPrefixOf_iff_prefix.1 h.1
  subst hr
  exact ⟨r, rfl, h.2⟩
theorem tagAt_two (s : List UInt8) (h : tagAt [60, 47] s = true) : ∃ l, s = 60 :: 47 :: l ∧ Tk.atLetter l = true := by
  unfold tagAt at h
  rw [Bool.and_eq_true] at h
  obtain ⟨r, hr⟩ := List.isPrefixOf_iff_prefix.1 h.1
  subst hr
  exact ⟨r, rfl, h.2⟩
theorem mark_form (s : List UInt8) (h : Tk.isTag s = true) (h1 : tagAt [60] s = false) : ∃ d t, s = 60 :: d :: t ∧ (d = 47 ∨ d = 33 ∨ d = 63) := by
  rw [isTag_form, h1, Bool.false_or, Bool.or_eq_true, Bool.or_eq_true] at h
  rcases h with (h | h) | h
  · obtain ⟨r, hr⟩ := List.isPrefixOf_iff_prefix.1 h
    exact ⟨47, r, hr.symm, .inl rfl⟩
  · obtain ⟨r, hr⟩ := List.isPrefixOf_iff_prefix.1 h
    exact ⟨33, r, hr.symm, .inr (.inl rfl)⟩
  · obtain ⟨r, hr⟩ := List.isPrefixOf_iff_prefix.1 h
    exact ⟨63, r, hr.symm, .inr (.inr rfl)⟩
theorem dash_form (s : List UInt8) (h : [60, 33, 45, 45].isPrefixOf s = true) : ∃ t, s = 60 :: 33 :: 45 :: 45 :: t := by
  obtain ⟨r, hr⟩ := List.isPrefixOf_iff_prefix.1 h
  exact ⟨r, hr.symm⟩
set_option maxHeartbeats 1000000 in
set_option maxRecDepth 100000 in
theorem nextT_any {b : Nat} {s a : List UInt8} {w : World} (h : Tr b s a w) (hs : s ≠ []) (ha : RawA a) :
    Calls Tryz.prog 52 #[.pointer (some ⟨b, 0, none⟩)] w (TokPost b (nextA a s) w (nextP a s)) := by
  have hz := (zero_of_info zeroK).1
  have hbw := h.lt
  have hlen := h.len
  have c1 : (w.alloc (.cells kCells0 56)).cell? ⟨b, 1, none⟩ = some (.string (str a)) := (h.step ((Below.refl _ w).alloc (Nat.le_refl _) (.cells kCells0 56))).c1
  have f1 : (w.alloc (.cells kCells0 56)).frozen? ⟨b, 1, none⟩ = false := (h.step ((Below.refl _ w).alloc (Nat.le_refl _) (.cells kCells0 56))).free 1
  have h1 : Tr b s [] ((w.setCell ⟨b, 1, none⟩ (.string { data := #[] })).alloc (.cells kCells0 56)) := (h.setA []).step ((Below.refl _ _).alloc (Nat.le_refl _) _)
  have hk1 : Kept b w ((w.setCell ⟨b, 1, none⟩ (.string { data := #[] })).alloc (.cells kCells0 56)) := (Kept.set b 1 w _).trans (Kept.of ((Below.refl _ _).alloc (Nat.le_refl _) _))
  have ha1 : KAt ((w.setCell ⟨b, 1, none⟩ (.string { data := #[] })).alloc (.cells kCells0 56)) w.heap.size kCells0 := by
    have h2 := heap_new (w.setCell ⟨b, 1, none⟩ (.string { data := #[] })) (.cells kCells0 56)
    rw [show (w.setCell ⟨b, 1, none⟩ (.string { data := #[] })).heap.size = w.heap.size from by simp [World.setCell]] at h2
    exact h2
  have c0 := h1.c0
  have HSz : Hid (∀ W, EnvT W → Calls Tryz.prog 83 #[.string (str a), .string (str s)] W fun e w' => e = .returned (.int .i64 ((if a = [] then 0 else Tk.ends a s : Nat) : Int)) ∧ Below W.heap.size W w') := by
    intro W hE
    rcases ha with rfl | hr
    · refine (ownSize_none s W).mono ?_
      rintro e w' ⟨rfl, rfl⟩
      exact ⟨rfl, Below.refl _ _⟩
    · have hl := raw_low a hr
      rw [if_neg hl.2.2]
      exact ownSize_any a s W hE hl.1 hl.2.2 (by omega) hlen
  go_enter Tryz.func52, Tryz.ntmps52
  go_wp2_with fail
  generalize (w.setCell ⟨b, 1, none⟩ (.string { data := #[] })).alloc (.cells kCells0 56) = W1 at *
  go_at_call 83
  refine (HSz.out _ h1.env).mono ?_
  rintro e w2 ⟨rfl, hb2⟩
  have h2 := h1.step hb2
  have ha2 := ha1.step hb2
  have hk2 := hk1.trans (Kept.of hb2)
  have hlt2 := ha2.lt
  clear h1 ha1 hk1 hb2 c0 HSz
  have c0 := h2.c0
  have hsz := str_size s
  by_cases hc : a = [] ∨ Tk.ends a s = 0
  · have e0 : (if a = [] then 0 else Tk.ends a s : Nat) = 0 := by
      rcases hc with e | e
      · rw [if_pos e]
      · rw [e]; split <;> rfl
    have HP : Hid (nextP a s = nxL s ∧ nextA a s = nxA (nxL s).1) := ⟨if_pos hc, if_pos hc⟩
    rw [e0]
    clear e0 hc ha
    have HT1 := hideT (isTag_any [60] s)
    have HT2 := hideT (isTag_any [60, 47] s)
    have HTk := hideT (fun W (h : Tr b s [] W) => took_any [60, 33, 45, 45] h)
    have HBg := hideT (begins_any s)
    cases hx1 : tagAt [60] s
    · rw [hx1] at HT1
      cases hx2 : tagAt [60, 47] s
      · rw [hx2] at HT2
        cases hx3 : [60, 33, 45, 45].isPrefixOf s
        · rw [hx3] at HTk
          simp only [Bool.false_eq_true, if_false] at HTk
          cases hx4 : Tk.isTag s
          · rw [hx4] at HBg
            have hn := nx_plain s hs hx4
            have HC := hideT (fun W (h : Tr b s [] W) => plain_any h hs hx4)
            replace HP : Hid (nextP a s = (Tk.textTok (Rf.dec false (s.take (Tk.upto s))), s.drop (Tk.upto s)) ∧ nextA a s = []) := by
              refine ⟨HP.out.1.trans hn, ?_⟩
              rw [HP.out.2, hn]
              rfl
            clear hx1 hx2 hx3 hx4 hn
            unfold Tk.textTok at HC HP
            generalize Rf.dec false (s.take (Tk.upto s)) = y at *
            generalize s.drop (Tk.upto s) = r at *
            go_wp2_with fail
            go_at_call 85
            refine (HT1.out _).mono ?_
            rintro e w9 ⟨rfl, hw⟩
            rw [hw]
            clear hw
            go_wp2_with fail
            go_at_call 85
            refine (HT2.out _).mono ?_
            rintro e w9 ⟨rfl, hw⟩
            rw [hw]
            clear hw
            go_wp2_with fail
            go_at_call 88
            refine (HTk.out _ h2).mono ?_
            rintro e w9 ⟨rfl, h9, k9⟩
            have ha9 := ha2.kept k9 (by omega)
            have hk9 := hk2.trans k9
            have hlt9 := ha9.lt
            clear h2 ha2 hk2 hlt2 c0 k9
            have c0 := h9.c0
            go_wp2_with fail
            go_at_call 90
            refine (HBg.out _).mono ?_
            rintro e w10 ⟨rfl, hw⟩
            rw [hw]
            clear hw
            go_wp2_with fail
            go_at_call 92
            refine (HC.out _ h9).mono ?_
            rintro e w3 hq
            obtain ⟨ad, ln, cp, rfl, o3, h3, hk3, k3⟩ := hq.back hk9 hlt9
            have ha3 := ha9.kept k3 (by omega)
            clear hq h9 ha9 hk9 k3
            go_wp2_with (refine wpList_store_K _ _ rfl rfl w.heap.size _ rfl 3 (str []) (str y) false ad ln cp rfl rfl ha3 ?_)
            refine ret_K rfl rfl rfl (setRow_K ha3) ?_
            have k7 := kept_setRow w.heap.size w3 (kCells 3 [] (.slice ad ln cp) false y)
            unfold TokPost
            rw [HP.out.1, HP.out.2]
            exact ⟨ad, ln, cp, rfl, (OwnsPairs.kept o3 k7 (by omega)).mono (by omega), h3.other k7 hbw (Nat.le_of_lt ha3.lt), hk3.more k7 (Nat.le_refl _)⟩
          · rw [hx4] at HBg
            obtain ⟨d, t, hst, hd⟩ := mark_form s hx4 hx1
            subst hst
            have hn := nx_mark d t hd hx2 hx3
            have HC := hideT (fun W (h : Tr b (60 :: d :: t) [] W) => mark_any h (by rcases hd with rfl | rfl | rfl <;> decide))
            replace HP : Hid (nextP a (60 :: d :: t) = markP (60 :: d :: t) ∧ nextA a (60 :: d :: t) = []) := by
              refine ⟨HP.out.1.trans hn.1, ?_⟩
              rw [HP.out.2, hn.1]
              exact hn.2
            clear hx1 hx2 hx3 hx4 hn hd
            generalize markP (60 :: d :: t) = q at *
            obtain ⟨⟨kk, kn, ka, ks, kx⟩, r⟩ := q
            go_wp2_with fail
            go_at_call 85
            refine (HT1.out _).mono ?_
            rintro e w9 ⟨rfl, hw⟩
            rw [hw]
            clear hw
            go_wp2_with fail
            go_at_call 85
            refine (HT2.out _).mono ?_
            rintro e w9 ⟨rfl, hw⟩
            rw [hw]
            clear hw
            go_wp2_with fail
            go_at_call 88
            refine (HTk.out _ h2).mono ?_
            rintro e w9 ⟨rfl, h9, k9⟩
            have ha9 := ha2.kept k9 (by omega)
            have hk9 := hk2.trans k9
            have hlt9 := ha9.lt
            clear h2 ha2 hk2 hlt2 c0 k9
            have c0 := h9.c0
            go_wp2_with fail
            go_at_call 90
            refine (HBg.out _).mono ?_
            rintro e w10 ⟨rfl, hw⟩
            rw [hw]
            clear hw
            go_wp2_with fail
            go_at_call 91
            refine (HC.out _ h9).mono ?_
            rintro e w3 hq
            obtain ⟨ad, ln, cp, rfl, o3, h3, hk3, k3⟩ := hq.back hk9 hlt9
            have ha3 := ha9.kept k3 (by omega)
            clear hq h9 ha9 hk9 k3
            go_wp2_with (refine wpList_store_K _ _ rfl rfl w.heap.size _ rfl kk (str kn) (str kx) ks ad ln cp rfl rfl ha3 ?_)
            refine ret_K rfl rfl rfl (setRow_K ha3) ?_
            have k7 := kept_setRow w.heap.size w3 (kCells kk kn (.slice ad ln cp) ks kx)
            unfold TokPost
            rw [HP.out.1, HP.out.2]
            exact ⟨ad, ln, cp, rfl, (OwnsPairs.kept o3 k7 (by omega)).mono (by omega), h3.other k7 hbw (Nat.le_of_lt ha3.lt), hk3.more k7 (Nat.le_refl _)⟩
        · rw [hx3] at HTk
          simp only [if_true] at HTk
          obtain ⟨t, hst⟩ := dash_form s hx3
          subst hst
          have hn := nx_dash t
          have hTk : ∀ W, Tr b (60 :: 33 :: 45 :: 45 :: t) [] W → Calls Tryz.prog 88 #[.pointer (some ⟨b, 0, none⟩), .string (str [60, 33, 45, 45])] W fun e w' => e = .returned (.bool true) ∧ Tr b t [] w' ∧ Kept b W w' := HTk.out
          clear HTk
          have HTk := hideT hTk
          have hC : ∀ W, Tr b t [] W → Calls Tryz.prog 89 #[.pointer (some ⟨b, 0, none⟩), .string (str [45, 45, 62])] W fun e w' => e = .returned (.string (str (t.take (Tk.fd [45, 45, 62] t)))) ∧ Tr b (t.drop (Tk.fd [45, 45, 62] t + 3)) [] w' ∧ Kept b W w' := fun W h => past_any [45, 45, 62] (by simp) h
          have HC := hideT hC
          replace HP : Hid (nextP a (60 :: 33 :: 45 :: 45 :: t) = (⟨4, [], [], false, t.take (Tk.fd [45, 45, 62] t)⟩, t.drop (Tk.fd [45, 45, 62] t + 3)) ∧ nextA a (60 :: 33 :: 45 :: 45 :: t) = []) := by
            refine ⟨HP.out.1.trans hn, ?_⟩
            rw [HP.out.2, hn]
            rfl
          clear hx1 hx2 hx3 hn hTk hC
          generalize t.take (Tk.fd [45, 45, 62] t) = y at *
          generalize t.drop (Tk.fd [45, 45, 62] t + 3) = r at *
          go_wp2_with fail
          go_at_call 85
          refine (HT1.out _).mono ?_
          rintro e w9 ⟨rfl, hw⟩
          rw [hw]
          clear hw
          go_wp2_with fail
          go_at_call 85
          refine (HT2.out _).mono ?_
          rintro e w9 ⟨rfl, hw⟩
          rw [hw]
          clear hw
          go_wp2_with fail
          go_at_call 88
          refine (HTk.out _ h2).mono ?_
          rintro e w9 ⟨rfl, h9, k9⟩
          have ha9 := ha2.kept k9 (by omega)
          have hk9 := hk2.trans k9
          have hlt9 := ha9.lt
          clear h2 ha2 hk2 hlt2 c0 k9
          have c0 := h9.c0
          go_wp2_with fail
          go_at_call 89
          refine (HC.out _ h9).mono ?_
          rintro e w3 ⟨rfl, h3, k3⟩
          have ha3 := ha9.kept k3 (by omega)
          have hk3 := hk9.trans k3
          clear h9 ha9 hk9 k3
          go_wp2_with (refine wpList_store_K _ _ rfl rfl w.heap.size _ rfl 4 ByteArray.empty (str y) false none 0 0 rfl rfl ha3 ?_)
          refine ret_K rfl rfl rfl (setRow_K ha3) ?_
          have k7 := kept_setRow w.heap.size w3 (kCells 4 [] (.slice none 0 0) false y)
          unfold TokPost
          rw [HP.out.1, HP.out.2]
          exact ⟨none, 0, 0, rfl, OwnsPairs.nil _ _ _, h3.other k7 hbw (Nat.le_of_lt ha3.lt), hk3.more k7 (Nat.le_refl _)⟩
      · rw [hx2] at HT2
        obtain ⟨l, hst, hl⟩ := tagAt_two s hx2
        subst hst
        have hn := nx_end l hl
        have HC := hideT (fun W (h : Tr b (60 :: 47 :: l) [] W) => end_any h)
        replace HP : Hid (nextP a (60 :: 47 :: l) = endP (tagP l) ∧ nextA a (60 :: 47 :: l) = []) := by
          refine ⟨HP.out.1.trans hn.1, ?_⟩
          rw [HP.out.2, hn.1]
          exact hn.2
        clear hx1 hx2 hn hl HTk HBg
        generalize endP (tagP l) = q at *
        obtain ⟨⟨kk, kn, ka, ks, kx⟩, r⟩ := q
        go_wp2_with fail
        go_at_call 85
        refine (HT1.out _).mono ?_
        rintro e w9 ⟨rfl, hw⟩
        rw [hw]
        clear hw
        go_wp2_with fail
        go_at_call 85
        refine (HT2.out _).mono ?_
        rintro e w9 ⟨rfl, hw⟩
        rw [hw]
        clear hw
        go_wp2_with fail
        go_at_call 87
        refine (HC.out _ h2).mono ?_
        rintro e w3 hq
        obtain ⟨ad, ln, cp, rfl, o3, h3, hk3, k3⟩ := hq.back hk2 hlt2
        have ha3 := ha2.kept k3 (by omega)
        clear hq h2 ha2 hk2 k3
        go_wp2_with (refine wpList_store_K _ _ rfl rfl w.heap.size _ rfl kk (str kn) (str kx) ks ad ln cp rfl rfl ha3 ?_)
        refine ret_K rfl rfl rfl (setRow_K ha3) ?_
        have k7 := kept_setRow w.heap.size w3 (kCells kk kn (.slice ad ln cp) ks kx)
        unfold TokPost
        rw [HP.out.1, HP.out.2]
        exact ⟨ad, ln, cp, rfl, (OwnsPairs.kept o3 k7 (by omega)).mono (by omega), h3.other k7 hbw (Nat.le_of_lt ha3.lt), hk3.more k7 (Nat.le_refl _)⟩
    · rw [hx1] at HT1
      obtain ⟨l, hst, hl⟩ := tagAt_one s hx1
      subst hst
      have hn := nx_start l hl
      have HC := hideT (fun W (h : Tr b (60 :: l) [] W) => start_any h)
      replace HP : Hid (nextP a (60 :: l) = tagP l ∧ nextA a (60 :: l) = aheadP (tagP l).1 []) := by
        refine ⟨HP.out.1.trans hn.1, ?_⟩
        rw [HP.out.2, hn.1]
        exact hn.2
      clear hx1 hn hl HT2 HTk HBg
      generalize tagP l = q at *
      obtain ⟨⟨kk, kn, ka, ks, kx⟩, r⟩ := q
      go_wp2_with fail
      go_at_call 85
      refine (HT1.out _).mono ?_
      rintro e w9 ⟨rfl, hw⟩
      rw [hw]
      clear hw
      go_wp2_with fail
      go_at_call 86
      refine (HC.out _ h2).mono ?_
      rintro e w3 hq
      obtain ⟨ad, ln, cp, rfl, o3, h3, hk3, k3⟩ := hq.back hk2 hlt2
      have ha3 := ha2.kept k3 (by omega)
      clear hq h2 ha2 hk2 k3
      go_wp2_with (refine wpList_store_K _ _ rfl rfl w.heap.size _ rfl kk (str kn) (str kx) ks ad ln cp rfl rfl ha3 ?_)
      refine ret_K rfl rfl rfl (setRow_K ha3) ?_
      have k7 := kept_setRow w.heap.size w3 (kCells kk kn (.slice ad ln cp) ks kx)
      unfold TokPost
      rw [HP.out.1, HP.out.2]
      exact ⟨ad, ln, cp, rfl, (OwnsPairs.kept o3 k7 (by omega)).mono (by omega), h3.other k7 hbw (Nat.le_of_lt ha3.lt), hk3.more k7 (Nat.le_refl _)⟩
  · have e0 : (if a = [] then 0 else Tk.ends a s : Nat) = Tk.ends a s := if_neg fun e => hc (.inl e)
    have hpos : 0 < Tk.ends a s := Nat.pos_of_ne_zero fun e => hc (.inr e)
    have HP : Hid (nextP a s = ownP a s ∧ nextA a s = []) := ⟨if_neg hc, if_neg hc⟩
    have HO := hideT (fun W (h : Tr b s [] W) => own_any (n := a) (Tk.ends a s) h (Tk.ends_le a s))
    have HX : Hid (ownP a s = (Tk.textTok (decT a (s.take (Tk.ends a s))), s.drop (Tk.ends a s))) := rfl
    have hle := Tk.ends_le a s
    rw [e0]
    clear e0 hc ha
    generalize Tk.ends a s = n at *
    generalize decT a (s.take n) = y at *
    generalize s.drop n = r at *
    have hgt : (0 : Int) < (n : Int) := by omega
    go_wp2_with fail
    go_at_call 84
    refine (HO.out _ h2).mono ?_
    rintro e w3 hq
    obtain ⟨ad, ln, cp, rfl, o3, h3, hk3, k3⟩ := hq.back hk2 hlt2
    have ha3 := ha2.kept k3 (by omega)
    clear hq h2 ha2 hk2 k3 HO
    go_wp2_with (refine wpList_store_K _ _ rfl rfl w.heap.size _ rfl 3 (str []) (str y) false ad ln cp rfl rfl ha3 ?_)
    refine ret_K rfl rfl rfl (setRow_K ha3) ?_
    have k7 := kept_setRow w.heap.size w3 (kCells 3 [] (.slice ad ln cp) false y)
    unfold TokPost
    rw [HP.out.1, HP.out.2, HX.out]
    exact ⟨ad, ln, cp, rfl, (OwnsPairs.kept o3 k7 (by omega)).mono (by omega), h3.other k7 hbw (Nat.le_of_lt ha3.lt), hk3.more k7 (Nat.le_refl _)⟩
end Go.Proofs.YtiodaahncadodaaGreatDoor
/- The contract of token.Next. -/
namespace Go.Proofs.YtiodaahncadodaaGreatDoor
open Go.RowKit
/-- What Next has done. -/
def NextPost (w : World) (k : Tk.Tok) (n : Nat) (e : Ending) (w' : World) : Prop :=
  ∃ ad ln cp, e = .returned (.tuple #[tokV k (.slice ad ln cp), .int .i64 n]) ∧ OwnsA w' w.heap.size (.slice ad ln cp) k.attrs ∧ Below w.heap.size w w'
theorem zeroR12 : (Tryz.prog.info? 96).map (fun i => (i.zero, i.size)) = some (some (.agg #[.string ByteArray.empty, .string ByteArray.empty]), 2) := by kernel_rfl
theorem results_two {fn : Func} {p q : Tmp} {ty : TypeId} (h : fn.results = #[.cell p ty, .tmp q]) (tmps : Array Value) (P : Program) (w : World) (a : Addr) (x : Value) (hp : tmps.getD p undef = .pointer (some a)) (hl : (loadVar ty a).run P w = .ok x w) :
    (results fn tmps).run P w = .ok (.tuple #[x, tmps.getD q undef]) w := by
  have hp2 : tmps[p]?.getD undef = .pointer (some a) := by rw [← hp]; simp
  simp only [results, h]
  simp [Sem.run_bind, Result.andThen, asAddr, hp2, hl]
theorem takeH12 {md : Region.Mode} {ops : Array Oper} {Q : Exit → Act → World → Prop} {S : World → Prop} {fuel : Nat} {listed : Array Bool} {a : Act} {w : World} (i d : Nat) (v : Value) {oi : Oper} (hi : ops[i]? = some oi) (hd : oi.dst = some d)
    (hs : Region.noSelect ops = true) (hf : Region.free md ops listed i = true) (hr : (Region.ready md ops listed).contains i = true)
    (hQ : ∀ c a w, Q (.panic c) (a.put (some d) v) w → Q (.panic c) a w) (hy : YieldsIf Tryz.prog ops S oi v a) (hS : S w)
    (h : wpAnyH Tryz.prog md ops Q S fuel (listed.setIfInBounds i true) (a.put (some d) v) w) : wpAnyH Tryz.prog md ops Q S (fuel + 1) listed a w :=
  wpAnyH_take hi hs hf hr (by rw [hd]; exact hQ) hy hS (by rw [hd]; exact h)
end Go.Proofs.YtiodaahncadodaaGreatDoor
