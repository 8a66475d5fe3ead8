/- The walk of the law SumTurned, out of the contracts. -/
import Derived.Test.YtfjgmejobldjoaaSumArgs
import Derived.Test.YtfjgmejobldjoaaSumG
import Derived.Deep.RegionWith
import Derived.Deep.CutBlock
set_option linter.unusedVariables false
set_option linter.unusedSimpArgs false
namespace Go.Proofs.Ytfjgmejobldjoaa.sumTurned
open Go.RowKit
theorem place (d : Int) (n : Nat) (h : 0 < n) (hn : n ≤ 1000000000) : ∃ k : Nat, k < n ∧ (d.tmod n + n).tmod n = (k : Int) := by
  have h1 := Int.tmod_lt_of_pos d (b := (n : Int)) (by omega)
  have h2 := Int.lt_tmod_of_pos d (b := (n : Int)) (by omega)
  have h3 := Int.tmod_nonneg (n : Int) (a := d.tmod n + n) (by omega)
  have h4 := Int.tmod_lt_of_pos (d.tmod n + n) (b := (n : Int)) (by omega)
  exact ⟨((d.tmod n + n).tmod n).toNat, by omega, by omega⟩
theorem owns_pos {w : World} {B : Nat} {v : Value} {l : List UInt8} (h : OwnsBytes w B v l) (hl : 0 < l.length) : ∃ g cap, v = .slice (some ⟨g, 0, none⟩) l.length cap ∧ w.ownsRow B 5 1 (.slice (some ⟨g, 0, none⟩) l.length cap) l.length (cellsB l) := by
  have h0 := h
  rcases h.2 with ⟨_, hz⟩ | ⟨g, cap, cur, rfl, _⟩
  · omega
  · exact ⟨g, cap, rfl, h0⟩
theorem bel1 {W : World} {o : Obj} : Below W.heap.size W (W.alloc o).drew := ((Below.refl _ W).alloc (Nat.le_refl _) _).drew
theorem bel2 {W : World} {o o' : Obj} : Below W.heap.size W ((W.alloc o).alloc o').drew := (((Below.refl _ W).alloc (Nat.le_refl _) _).alloc (by simp) _).drew
theorem rbs1 {W : World} {x : Value} {l : List UInt8} (h : RB W x l) (e : TypeId) : RBs (W.alloc (.cells #[x] e)).drew (.slice (some ⟨W.heap.size, 0, none⟩) 1 1) [l] := RBs.below (RBs.one W x l h e) (Below.refl _ _).drew
theorem rbs2 {W : World} {x : Value} {l : List UInt8} (h : RB W x l) (e : TypeId) (o : Obj) : RBs ((W.alloc (.cells #[x] e)).alloc o).drew (.slice (some ⟨W.heap.size, 0, none⟩) 1 1) [l] := RBs.below (RBs.one W x l h e) bel1
theorem rbs3 {W : World} {x : Value} {l : List UInt8} (h : RB W x l) (e : TypeId) (o : Obj) : RBs ((W.alloc o).alloc (.cells #[x] e)).drew (.slice (some ⟨W.heap.size + 1, 0, none⟩) 1 1) [l] := by
  have := rbs1 (W := W.alloc o) (ReadsCells.below h ((Below.refl _ W).alloc (Nat.le_refl _) _)) e
  rw [size_alloc] at this
  exact this
theorem bound (d : Int) (n : Nat) (h : 0 < n) : -(n : Int) < d.tmod n ∧ d.tmod n < n :=
  ⟨Int.lt_tmod_of_pos d (b := (n : Int)) (by omega), Int.tmod_lt_of_pos d (b := (n : Int)) (by omega)⟩
set_option maxHeartbeats 8000000 in
set_option maxRecDepth 100000 in
theorem walk (v0 : Value) (l : List UInt8) (d t : Int) (w : World) (h0 : ArgB w v0 l) (hd : (Lit.int .i64 d).wf = true) (ht : (Lit.int .u8 t).wf = true) :
    Calls Try.prog 5 #[v0, .int .i64 d, .int .u8 t] w fun e w' => e = .returned (.bool true) ∧ Below w.heap.size w w' := by
  obtain ⟨hv, hl⟩ := h0
  obtain ⟨c, hc⟩ : ∃ c : UInt8, t = (c.toNat : Int) := by
    have hb : 0 ≤ t ∧ t ≤ 255 := by
      simp only [Lit.wf, Bool.and_eq_true, decide_eq_true_eq] at ht
      exact ht
    exact ⟨UInt8.ofNat t.toNat, by simp; omega⟩
  subst hc
  clear ht hd
  obtain ⟨ad, cp, rfl⟩ := RB.form hv
  have cl := long_any l _ w hv hl
  by_cases h3 : 3000 < l.length
  · have hb : decide (3000 < l.length) = true := decide_eq_true h3
    rw [hb] at cl
    clear hb
    go_enter Try.func5, Try.ntmps5
    go_wp2_with (first
      | (go_at_call 6; refine cl.mono ?_; rintro e w2 ⟨rfl, he⟩; replace he := he.symm; subst he)
      | (go_at_call 7; refine (alive8_any _).mono ?_; rintro e w3 ⟨rfl, hB⟩))
    go_ret
    exact ⟨rfl, hB⟩
  have hb : decide (3000 < l.length) = false := decide_eq_false h3
  rw [hb] at cl
  clear hb
  by_cases h4 : l.length = 0
  · obtain rfl := List.eq_nil_of_length_eq_zero h4
    simp only [List.length_nil] at cl ⊢
    clear hv hl h3 h4
    go_enter Try.func5, Try.ntmps5
    go_wp2_with (first
      | (go_at_call 6; refine cl.mono ?_; rintro e w2 ⟨rfl, he⟩; replace he := he.symm; subst he)
      | (go_at_call 7; refine (alive8_any _).mono ?_; rintro e w3 ⟨rfl, hB⟩))
    go_ret
    exact ⟨rfl, hB⟩
  obtain ⟨k, hk, hkk⟩ := place d l.length (by omega) (by omega)
  obtain ⟨hk1, hk2⟩ := bound d l.length (by omega)
  have hz : l.length ≤ 1000000000 := by omega
  have hz' : (l.set k c).length ≤ 1000000000 := by simp; omega
  obtain ⟨_, hcp, b, o, rfl, hcell⟩ := RB.at hv hk
  have HV : Hid (RB w (.slice (some ⟨b, o, none⟩) l.length cp) l) := hv
  have ca := fun W (h : RB W (.slice (some ⟨b, o, none⟩) l.length cp) l) => Add_any 0#32 0#64 l _ W h hz
  rw [again32] at ca
  have ca2 := fun W v (h : RB W v (l.set k c)) => Add_any 0#32 0#64 (l.set k c) v W h hz'
  rw [again32] at ca2
  have cm := fun W => SMark_any (Sm.crcL F l ^^^ F) (Sm.markL G l ^^^ G) W
  have cm2 := fun W => SMark_any (Sm.crcL F (l.set k c) ^^^ F) (Sm.markL G (l.set k c) ^^^ G) W
  rw [back64] at cm cm2
  have E1 : Hid ((Sm.crcL F l ^^^ F = Sm.crcL F (l.set k c) ^^^ F) ↔ l[k] = c) := ⟨fun h => (Sm.crc_set l k c F hk).1 (by have := congrArg (· ^^^ F) h; simpa only [back32] using this), fun h => by rw [(Sm.crc_set l k c F hk).2 h]⟩
  have E2 : Hid ((Sm.markL G l = Sm.markL G (l.set k c)) ↔ l[k] = c) := Sm.mark_set l k c G hk
  go_enter Try.func5, Try.ntmps5
  go_wp2_with (first
    | (go_at_call 6; refine cl.mono ?_; rintro e w2 ⟨rfl, he⟩; replace he := he.symm; subst he)
    | (at_builtin; refine wpList_append_RB rfl _ _ rfl w.heap.size _ [] rfl (OwnsBytes.nil _ _) _ l rfl HV.out (by simpa using hz) (Nat.le_refl _) ?_; intro v' w3 hO hG; obtain ⟨g, cap, hv', hOw⟩ := owns_pos hO (by simp; omega); subst hv'; rw [List.nil_append] at hOw; obtain ⟨old, hcell3⟩ : ∃ old, w3.cell? ⟨g, k, none⟩ = some old := ⟨_, (hOw.cellAt k (by omega)).trans (cellsB_at _ k hk)⟩; have hfr := hOw.frozenAt k; have hst := hOw.stored k (.int .u8 (c.toNat : Int)); have hcl := World.ownsRow.lt hOw))
  have hB4 : Below w.heap.size w (w3.setCell ⟨g, k, none⟩ (.int .u8 (c.toNat : Int))) := ((Below.refl _ w).grown hG (Nat.le_refl _) (fun q hq => by cases hq)).grown hst.2 ((Below.refl _ w).grown hG (Nat.le_refl _) (fun q hq => by cases hq)).size (fun q hq => by cases hq; exact (hcl g rfl).1)
  have hRc : RB (w3.setCell ⟨g, k, none⟩ (.int .u8 (c.toNat : Int))) (.slice (some ⟨g, 0, none⟩) l.length cap) (l.set k c) := by
    have := hst.1
    rw [cellsB_set] at this
    refine OwnsBytes.reads (B := w.heap.size) ?_
    unfold OwnsBytes
    rw [List.length_set]
    exact this
  generalize w3.setCell ⟨g, k, none⟩ (.int .u8 (c.toNat : Int)) = w4 at *
  have HC : Hid (RB w4 (.slice (some ⟨g, 0, none⟩) l.length cap) (l.set k c)) := hRc
  clear hRc hst hcl hfr hcell3 hOw hO hG cl
  obtain ⟨c1, HX1⟩ : ∃ c1, Hid (Sm.crcL F l ^^^ F = c1) := ⟨_, rfl⟩
  obtain ⟨c2, HX2⟩ : ∃ c2, Hid (Sm.crcL F (l.set k c) ^^^ F = c2) := ⟨_, rfl⟩
  rw [HX1.out] at ca cm E1
  rw [HX2.out] at ca2 cm2 E1
  generalize Sm.markL G l ^^^ G = m1 at *
  generalize Sm.markL G (l.set k c) ^^^ G = m2 at *
  generalize Sm.markL G l = n1 at *
  generalize Sm.markL G (l.set k c) = n2 at *
  clear hkk hk1 hk2 hcp
  have CA : Hid _ := ca
  have CA2 : Hid _ := ca2
  have CM : Hid _ := cm
  have CM2 : Hid _ := cm2
  clear ca ca2 cm cm2
  refine (New_any _).mono ?_
  rintro e w5 ⟨rfl, hB5⟩
  have hB5' := bel hB4 hB5
  dsimp only
  go_wp2_with (go_at_call 9; fail)
  refine (CA.out _ (ReadsCells.below HV.out hB5')).mono ?_
  rintro e w6 ⟨rfl, hB6⟩
  have hB6' := bel hB5' hB6
  dsimp only
  go_wp2_with (go_at_call 8; fail)
  refine (New_any _).mono ?_
  rintro e w7 ⟨rfl, hB7⟩
  have hB7' := bel hB6' hB7
  dsimp only
  go_wp2_with (go_at_call 9; fail)
  refine (CA2.out _ _ (ReadsCells.below HC.out (bel (bel hB5 hB6) hB7))).mono ?_
  rintro e w8 ⟨rfl, hB8⟩
  have hB8' := bel hB7' hB8
  have hB9 : Below w.heap.size w ((w8.alloc (.cells #[.int .u32 (c1.toNat : Int), .int .u64 (m1.toNat : Int)] 28)).alloc (.cells #[.int .u32 (c2.toNat : Int), .int .u64 (m2.toNat : Int)] 28)) := (hB8'.alloc hB8'.size _).alloc (by have := hB8'.size; simp; omega) _
  have hb9 : Below w8.heap.size w8 ((w8.alloc (.cells #[.int .u32 (c1.toNat : Int), .int .u64 (m1.toNat : Int)] 28)).alloc (.cells #[.int .u32 (c2.toNat : Int), .int .u64 (m2.toNat : Int)] 28)) := ((Below.refl _ w8).alloc (Nat.le_refl _) _).alloc (by simp) _
  have hcell9 := (hB9.cell (p := ⟨b, o + k, none⟩) (cell_lt hcell)).trans hcell
  have hS1 : SAt ((w8.alloc (.cells #[.int .u32 (c1.toNat : Int), .int .u64 (m1.toNat : Int)] 28)).alloc (.cells #[.int .u32 (c2.toNat : Int), .int .u64 (m2.toNat : Int)] 28)) w8.heap.size (.int .u32 (c1.toNat : Int)) (.int .u64 (m1.toNat : Int)) := SAt.below (heap_new w8 _) ((Below.refl _ _).alloc (Nat.le_refl _) _)
  have hS2 : SAt ((w8.alloc (.cells #[.int .u32 (c1.toNat : Int), .int .u64 (m1.toNat : Int)] 28)).alloc (.cells #[.int .u32 (c2.toNat : Int), .int .u64 (m2.toNat : Int)] 28)) (w8.heap.size + 1) (.int .u32 (c2.toNat : Int)) (.int .u64 (m2.toNat : Int)) := by
    have := heap_new (w8.alloc (.cells #[.int .u32 (c1.toNat : Int), .int .u64 (m1.toNat : Int)] 28)) (.cells #[.int .u32 (c2.toNat : Int), .int .u64 (m2.toNat : Int)] 28)
    rw [size_alloc] at this
    exact this
  have HR1 : Hid (RB ((w8.alloc (.cells #[.int .u32 (c1.toNat : Int), .int .u64 (m1.toNat : Int)] 28)).alloc (.cells #[.int .u32 (c2.toNat : Int), .int .u64 (m2.toNat : Int)] 28)) (.slice (some ⟨b, o, none⟩) l.length cp) l) := ReadsCells.below HV.out hB9
  have HR2 : Hid (RB ((w8.alloc (.cells #[.int .u32 (c1.toNat : Int), .int .u64 (m1.toNat : Int)] 28)).alloc (.cells #[.int .u32 (c2.toNat : Int), .int .u64 (m2.toNat : Int)] 28)) (.slice (some ⟨g, 0, none⟩) l.length cap) (l.set k c)) := ReadsCells.below HC.out (bel (bel (bel (bel hB5 hB6) hB7) hB8) hb9)
  -- THE END BY PROGRAM
  clear HV HC CA CA2 hB5 hB5' hB6 hB6' hB7 hB7' hB8 hB8' hb9 hB4 hv hcell
  rcases Classical.em (l[k] = c) with he | he
  · obtain rfl := E1.out.2 he
    obtain rfl := E2.out.2 he
    have hs : ((l[k].toNat : Int) == (c.toNat : Int)) = true := by rw [he]; simp
    clear E1 E2
    generalize l[k].toNat = y at *
    clear he
    dsimp only
    go_upto_region 8 with fail
    generalize ((w8.alloc (.cells #[.int .u32 (c1.toNat : Int), .int .u64 (m1.toNat : Int)] 28)).alloc (.cells #[.int .u32 (c1.toNat : Int), .int .u64 (m2.toNat : Int)] 28)) = W9 at *
    generalize w8.heap.size = z at *
    clear hcell9
    have D1 : Hid (∀ W, Below W9.heap.size W9 W → ∀ v, RBs W v [l] → Calls Try.prog 16 #[v] W fun e w' => e = .returned (.int .u32 (c1.toNat : Int)) ∧ Below W.heap.size W w') := fun W hW v hv => by
      have := Crc_any [l] v W hv (by simp) (by simpa using hz)
      rw [List.flatten_singleton, HX1.out] at this
      exact this
    have D2 : Hid (∀ W, Below W9.heap.size W9 W → ∀ v, RBs W v [l.set k c] → Calls Try.prog 16 #[v] W fun e w' => e = .returned (.int .u32 (c1.toNat : Int)) ∧ Below W.heap.size W w') := fun W hW v hv => by
      have := Crc_any [l.set k c] v W hv (by simp) (by simpa using hz')
      rw [List.flatten_singleton, HX2.out] at this
      exact this
    clear HX1 HX2 hz hz' hl h3 h4 hk
    obtain ⟨S, hT⟩ : ∃ S : World → Prop, ∀ W, S W ↔ Below W9.heap.size W9 W := ⟨_, fun _ => Iff.rfl⟩
    have step : ∀ W W', S W → Below W.heap.size W W' → S W' := fun W W' h hb => (hT W').2 (bel ((hT W).1 h) hb)
    refine wp_region_held_drew (S := S) (by kernel_rfl) ((hT _).2 (Below.refl _ _).drew) (fun hS => ?_)
    generalize World.drew W9 = wd at hS ⊢
    refine takeH 0 47 (.slice (some ⟨b, o, none⟩) l.length cp) rfl rfl (by kernel_rfl) (by kernel_rfl) (by kernel_rfl) (fun _ _ _ h => h) (Or.inl ⟨by kernel_rfl, fun W _ => by go_simp⟩) hS ?_
    simp only [Act.put, List.setIfInBounds_toArray, List.set_cons_zero, List.set_cons_succ]
    refine takeH 3 50 (.slice (some ⟨g, 0, none⟩) l.length cap) rfl rfl (by kernel_rfl) (by kernel_rfl) (by kernel_rfl) (fun _ _ _ h => h) (Or.inl ⟨by kernel_rfl, fun W _ => by go_simp⟩) hS ?_
    simp only [Act.put, List.setIfInBounds_toArray, List.set_cons_zero, List.set_cons_succ]
    refine takeH 7 54 (.bool true) rfl rfl (by kernel_rfl) (by kernel_rfl) (by kernel_rfl) (fun _ _ _ h => h) (Or.inl ⟨by kernel_rfl, fun W _ => by go_simp⟩) hS ?_
    simp only [Act.put, List.setIfInBounds_toArray, List.set_cons_zero, List.set_cons_succ]
    refine wpAnyH_ready (rs := [1, 4]) (by kernel_rfl) (by simp) ?_
    refine AllReadyH.cons rfl (fun K hK => ?_) (AllReadyH.cons rfl (fun K hK => ?_) AllReadyH.nil)
    · go_simp
      have h1 : RBs (wd.alloc (.cells #[.slice (some ⟨b, o, none⟩) l.length cp] 22)) (.slice (some ⟨wd.heap.size, 0, none⟩) 1 1) [l] := RBs.one wd _ _ (ReadsCells.below HR1.out ((hT _).1 hS)) _
      have hY : Below wd.heap.size wd (wd.alloc (.cells #[.slice (some ⟨b, o, none⟩) l.length cp] 22)) := (Below.refl _ _).alloc (Nat.le_refl _) _
      refine hK.out _ _ (step _ _ hS hY) (fun hS => ?_)
      clear hK K hY
      generalize wd.alloc (.cells #[.slice (some ⟨b, o, none⟩) l.length cp] 22) = x1 at *
      generalize wd.heap.size = b48 at *
      refine wpAnyH_ready (rs := [2, 4]) (by kernel_rfl) (by simp) ?_
      refine AllReadyH.cons rfl (fun K hK => ?_) (AllReadyH.cons rfl (fun K hK => ?_) AllReadyH.nil)
      · go_simp
        refine (D1.out _ ((hT _).1 hS) _ h1).mono ?_
        rintro e x2 ⟨rfl, hY⟩
        refine hK.out _ _ (step _ _ hS hY) (fun hS => ?_)
        clear hK K
        replace h1 := h1.below hY
        clear hY
        refine wpAnyH_ready (rs := [4]) (by kernel_rfl) (by simp) ?_
        refine AllReadyH.cons rfl (fun K hK => ?_) AllReadyH.nil
        go_simp
        have h4 : RBs (x2.alloc (.cells #[.slice (some ⟨g, 0, none⟩) l.length cap] 22)) (.slice (some ⟨x2.heap.size, 0, none⟩) 1 1) [l.set k c] := RBs.one x2 _ _ (ReadsCells.below HR2.out ((hT _).1 hS)) _
        have hY : Below x2.heap.size x2 (x2.alloc (.cells #[.slice (some ⟨g, 0, none⟩) l.length cap] 22)) := (Below.refl _ _).alloc (Nat.le_refl _) _
        replace h1 := h1.below hY
        refine hK.out _ _ (step _ _ hS hY) (fun hS => ?_)
        clear hK K hY
        generalize x2.alloc (.cells #[.slice (some ⟨g, 0, none⟩) l.length cap] 22) = x3 at *
        generalize x2.heap.size = b51 at *
        refine wpAnyH_ready (rs := [5]) (by kernel_rfl) (by simp) ?_
        refine AllReadyH.cons rfl (fun K hK => ?_) AllReadyH.nil
        go_simp
        refine (D2.out _ ((hT _).1 hS) _ h4).mono ?_
        rintro e x4 ⟨rfl, hY⟩
        refine hK.out _ _ (step _ _ hS hY) (fun hS => ?_)
        clear hK K
        replace h1 := h1.below hY
        replace h4 := h4.below hY
        clear hY
        refine takeH 6 53 (.bool true) rfl rfl (by kernel_rfl) (by kernel_rfl) (by kernel_rfl) (fun _ _ _ h => h) (Or.inl ⟨by kernel_rfl, fun W _ => by go_simp⟩) hS ?_
        simp only [Act.put, List.setIfInBounds_toArray, List.set_cons_zero, List.set_cons_succ]
        refine takeH 8 55 (.bool true) rfl rfl (by kernel_rfl) (by kernel_rfl) (by kernel_rfl) (fun _ _ _ h => h) (Or.inl ⟨by kernel_rfl, fun W _ => by go_simp⟩) hS ?_
        simp only [Act.put, List.setIfInBounds_toArray, List.set_cons_zero, List.set_cons_succ]
        refine takeH 9 56 (.bool true) rfl rfl (by kernel_rfl) (by kernel_rfl) (by kernel_rfl) (fun _ _ _ h => h) (Or.inl ⟨by kernel_rfl, fun W _ => by go_simp⟩) hS ?_
        simp only [Act.put, List.setIfInBounds_toArray, List.set_cons_zero, List.set_cons_succ]
        refine takeH 10 57 (sv (c1) (m1)) rfl rfl (by kernel_rfl) (by kernel_rfl) (by kernel_rfl) (fun _ _ _ h => h) (hy_load_S (Operand.tmp 8) rfl (by kernel_rfl) (z) _ _ (by kernel_rfl) (fun W h => SAt.below hS1 ((hT W).1 h))) hS ?_
        simp only [Act.put, List.setIfInBounds_toArray, List.set_cons_zero, List.set_cons_succ]
        refine takeH 12 59 (sv (c1) (m2)) rfl rfl (by kernel_rfl) (by kernel_rfl) (by kernel_rfl) (fun _ _ _ h => h) (hy_load_S (Operand.tmp 9) rfl (by kernel_rfl) (z + 1) _ _ (by kernel_rfl) (fun W h => SAt.below hS2 ((hT W).1 h))) hS ?_
        simp only [Act.put, List.setIfInBounds_toArray, List.set_cons_zero, List.set_cons_succ]
        refine takeH 15 62 (.bool true) rfl rfl (by kernel_rfl) (by kernel_rfl) (by kernel_rfl) (fun _ _ _ h => h) (Or.inl ⟨by kernel_rfl, fun W _ => by go_simp⟩) hS ?_
        simp only [Act.put, List.setIfInBounds_toArray, List.set_cons_zero, List.set_cons_succ]
        refine wpAnyH_ready (rs := [11]) (by kernel_rfl) (by simp) ?_
        refine AllReadyH.cons rfl (fun K hK => ?_) AllReadyH.nil
        go_simp
        refine (CM.out _).mono ?_
        rintro e y1 ⟨rfl, hY⟩
        refine hK.out _ _ (step _ _ hS hY) (fun hS => ?_)
        clear hK K
        clear hY
        refine wpAnyH_ready (rs := [13]) (by kernel_rfl) (by simp) ?_
        refine AllReadyH.cons rfl (fun K hK => ?_) AllReadyH.nil
        go_simp
        refine (CM2.out _).mono ?_
        rintro e y2 ⟨rfl, hY⟩
        refine hK.out _ _ (step _ _ hS hY) (fun hS => ?_)
        clear hK K
        clear hY
        refine takeH 14 61 (.bool true) rfl rfl (by kernel_rfl) (by kernel_rfl) (by kernel_rfl) (fun _ _ _ h => h) (Or.inl ⟨by kernel_rfl, fun W _ => by go_simp⟩) hS ?_
        simp only [Act.put, List.setIfInBounds_toArray, List.set_cons_zero, List.set_cons_succ]
        refine takeH 16 63 (.bool true) rfl rfl (by kernel_rfl) (by kernel_rfl) (by kernel_rfl) (fun _ _ _ h => h) (Or.inl ⟨by kernel_rfl, fun W _ => by go_simp⟩) hS ?_
        simp only [Act.put, List.setIfInBounds_toArray, List.set_cons_zero, List.set_cons_succ]
        refine takeH 17 64 (.bool true) rfl rfl (by kernel_rfl) (by kernel_rfl) (by kernel_rfl) (fun _ _ _ h => h) (Or.inl ⟨by kernel_rfl, fun W _ => by go_simp⟩) hS ?_
        simp only [Act.put, List.setIfInBounds_toArray, List.set_cons_zero, List.set_cons_succ]
        refine takeH 18 65 (.bool true) rfl rfl (by kernel_rfl) (by kernel_rfl) (by kernel_rfl) (fun _ _ _ h => h) (Or.inl ⟨by kernel_rfl, fun W _ => by go_simp⟩) hS ?_
        simp only [Act.put, List.setIfInBounds_toArray, List.set_cons_zero, List.set_cons_succ]
        refine wpAnyH_ready (rs := [19]) (by kernel_rfl) (by simp) ?_
        refine AllReadyH.cons rfl (fun K hK => ?_) AllReadyH.nil
        go_simp
        refine (alive8_any _).mono ?_
        rintro e y3 ⟨rfl, hY⟩
        refine hK.out _ _ (step _ _ hS hY) (fun hS => ?_)
        clear hK K
        clear hY
        refine takeH 20 67 (.bool true) rfl rfl (by kernel_rfl) (by kernel_rfl) (by kernel_rfl) (fun _ _ _ h => h) (Or.inl ⟨by kernel_rfl, fun W _ => by go_simp⟩) hS ?_
        simp only [Act.put, List.setIfInBounds_toArray, List.set_cons_zero, List.set_cons_succ]
        refine takeH 21 6 (.bool true) rfl rfl (by kernel_rfl) (by kernel_rfl) (by kernel_rfl) (fun _ _ _ h => h) (Or.inl ⟨by kernel_rfl, fun W _ => by go_simp⟩) hS ?_
        simp only [Act.put, List.setIfInBounds_toArray, List.set_cons_zero, List.set_cons_succ]
        refine wpAnyH_done (by kernel_rfl) ?_ _
        have hfin := bel hB9 ((hT _).1 hS)
        go_wp2
        go_ret
        exact ⟨rfl, hfin⟩
      · go_simp
        have h4 : RBs (x1.alloc (.cells #[.slice (some ⟨g, 0, none⟩) l.length cap] 22)) (.slice (some ⟨x1.heap.size, 0, none⟩) 1 1) [l.set k c] := RBs.one x1 _ _ (ReadsCells.below HR2.out ((hT _).1 hS)) _
        have hY : Below x1.heap.size x1 (x1.alloc (.cells #[.slice (some ⟨g, 0, none⟩) l.length cap] 22)) := (Below.refl _ _).alloc (Nat.le_refl _) _
        replace h1 := h1.below hY
        refine hK.out _ _ (step _ _ hS hY) (fun hS => ?_)
        clear hK K hY
        generalize x1.alloc (.cells #[.slice (some ⟨g, 0, none⟩) l.length cap] 22) = x5 at *
        generalize x1.heap.size = b51 at *
        refine wpAnyH_ready (rs := [2]) (by kernel_rfl) (by simp) ?_
        refine AllReadyH.cons rfl (fun K hK => ?_) AllReadyH.nil
        go_simp
        refine (D1.out _ ((hT _).1 hS) _ h1).mono ?_
        rintro e x6 ⟨rfl, hY⟩
        refine hK.out _ _ (step _ _ hS hY) (fun hS => ?_)
        clear hK K
        replace h1 := h1.below hY
        replace h4 := h4.below hY
        clear hY
        refine wpAnyH_ready (rs := [5]) (by kernel_rfl) (by simp) ?_
        refine AllReadyH.cons rfl (fun K hK => ?_) AllReadyH.nil
        go_simp
        refine (D2.out _ ((hT _).1 hS) _ h4).mono ?_
        rintro e x7 ⟨rfl, hY⟩
        refine hK.out _ _ (step _ _ hS hY) (fun hS => ?_)
        clear hK K
        replace h1 := h1.below hY
        replace h4 := h4.below hY
        clear hY
        refine takeH 6 53 (.bool true) rfl rfl (by kernel_rfl) (by kernel_rfl) (by kernel_rfl) (fun _ _ _ h => h) (Or.inl ⟨by kernel_rfl, fun W _ => by go_simp⟩) hS ?_
        simp only [Act.put, List.setIfInBounds_toArray, List.set_cons_zero, List.set_cons_succ]
        refine takeH 8 55 (.bool true) rfl rfl (by kernel_rfl) (by kernel_rfl) (by kernel_rfl) (fun _ _ _ h => h) (Or.inl ⟨by kernel_rfl, fun W _ => by go_simp⟩) hS ?_
        simp only [Act.put, List.setIfInBounds_toArray, List.set_cons_zero, List.set_cons_succ]
        refine takeH 9 56 (.bool true) rfl rfl (by kernel_rfl) (by kernel_rfl) (by kernel_rfl) (fun _ _ _ h => h) (Or.inl ⟨by kernel_rfl, fun W _ => by go_simp⟩) hS ?_
        simp only [Act.put, List.setIfInBounds_toArray, List.set_cons_zero, List.set_cons_succ]
        refine takeH 10 57 (sv (c1) (m1)) rfl rfl (by kernel_rfl) (by kernel_rfl) (by kernel_rfl) (fun _ _ _ h => h) (hy_load_S (Operand.tmp 8) rfl (by kernel_rfl) (z) _ _ (by kernel_rfl) (fun W h => SAt.below hS1 ((hT W).1 h))) hS ?_
        simp only [Act.put, List.setIfInBounds_toArray, List.set_cons_zero, List.set_cons_succ]
        refine takeH 12 59 (sv (c1) (m2)) rfl rfl (by kernel_rfl) (by kernel_rfl) (by kernel_rfl) (fun _ _ _ h => h) (hy_load_S (Operand.tmp 9) rfl (by kernel_rfl) (z + 1) _ _ (by kernel_rfl) (fun W h => SAt.below hS2 ((hT W).1 h))) hS ?_
        simp only [Act.put, List.setIfInBounds_toArray, List.set_cons_zero, List.set_cons_succ]
        refine takeH 15 62 (.bool true) rfl rfl (by kernel_rfl) (by kernel_rfl) (by kernel_rfl) (fun _ _ _ h => h) (Or.inl ⟨by kernel_rfl, fun W _ => by go_simp⟩) hS ?_
        simp only [Act.put, List.setIfInBounds_toArray, List.set_cons_zero, List.set_cons_succ]
        refine wpAnyH_ready (rs := [11]) (by kernel_rfl) (by simp) ?_
        refine AllReadyH.cons rfl (fun K hK => ?_) AllReadyH.nil
        go_simp
        refine (CM.out _).mono ?_
        rintro e y1 ⟨rfl, hY⟩
        refine hK.out _ _ (step _ _ hS hY) (fun hS => ?_)
        clear hK K
        clear hY
        refine wpAnyH_ready (rs := [13]) (by kernel_rfl) (by simp) ?_
        refine AllReadyH.cons rfl (fun K hK => ?_) AllReadyH.nil
        go_simp
        refine (CM2.out _).mono ?_
        rintro e y2 ⟨rfl, hY⟩
        refine hK.out _ _ (step _ _ hS hY) (fun hS => ?_)
        clear hK K
        clear hY
        refine takeH 14 61 (.bool true) rfl rfl (by kernel_rfl) (by kernel_rfl) (by kernel_rfl) (fun _ _ _ h => h) (Or.inl ⟨by kernel_rfl, fun W _ => by go_simp⟩) hS ?_
        simp only [Act.put, List.setIfInBounds_toArray, List.set_cons_zero, List.set_cons_succ]
        refine takeH 16 63 (.bool true) rfl rfl (by kernel_rfl) (by kernel_rfl) (by kernel_rfl) (fun _ _ _ h => h) (Or.inl ⟨by kernel_rfl, fun W _ => by go_simp⟩) hS ?_
        simp only [Act.put, List.setIfInBounds_toArray, List.set_cons_zero, List.set_cons_succ]
        refine takeH 17 64 (.bool true) rfl rfl (by kernel_rfl) (by kernel_rfl) (by kernel_rfl) (fun _ _ _ h => h) (Or.inl ⟨by kernel_rfl, fun W _ => by go_simp⟩) hS ?_
        simp only [Act.put, List.setIfInBounds_toArray, List.set_cons_zero, List.set_cons_succ]
        refine takeH 18 65 (.bool true) rfl rfl (by kernel_rfl) (by kernel_rfl) (by kernel_rfl) (fun _ _ _ h => h) (Or.inl ⟨by kernel_rfl, fun W _ => by go_simp⟩) hS ?_
        simp only [Act.put, List.setIfInBounds_toArray, List.set_cons_zero, List.set_cons_succ]
        refine wpAnyH_ready (rs := [19]) (by kernel_rfl) (by simp) ?_
        refine AllReadyH.cons rfl (fun K hK => ?_) AllReadyH.nil
        go_simp
        refine (alive8_any _).mono ?_
        rintro e y3 ⟨rfl, hY⟩
        refine hK.out _ _ (step _ _ hS hY) (fun hS => ?_)
        clear hK K
        clear hY
        refine takeH 20 67 (.bool true) rfl rfl (by kernel_rfl) (by kernel_rfl) (by kernel_rfl) (fun _ _ _ h => h) (Or.inl ⟨by kernel_rfl, fun W _ => by go_simp⟩) hS ?_
        simp only [Act.put, List.setIfInBounds_toArray, List.set_cons_zero, List.set_cons_succ]
        refine takeH 21 6 (.bool true) rfl rfl (by kernel_rfl) (by kernel_rfl) (by kernel_rfl) (fun _ _ _ h => h) (Or.inl ⟨by kernel_rfl, fun W _ => by go_simp⟩) hS ?_
        simp only [Act.put, List.setIfInBounds_toArray, List.set_cons_zero, List.set_cons_succ]
        refine wpAnyH_done (by kernel_rfl) ?_ _
        have hfin := bel hB9 ((hT _).1 hS)
        go_wp2
        go_ret
        exact ⟨rfl, hfin⟩
    · go_simp
      have h4 : RBs (wd.alloc (.cells #[.slice (some ⟨g, 0, none⟩) l.length cap] 22)) (.slice (some ⟨wd.heap.size, 0, none⟩) 1 1) [l.set k c] := RBs.one wd _ _ (ReadsCells.below HR2.out ((hT _).1 hS)) _
      have hY : Below wd.heap.size wd (wd.alloc (.cells #[.slice (some ⟨g, 0, none⟩) l.length cap] 22)) := (Below.refl _ _).alloc (Nat.le_refl _) _
      refine hK.out _ _ (step _ _ hS hY) (fun hS => ?_)
      clear hK K hY
      generalize wd.alloc (.cells #[.slice (some ⟨g, 0, none⟩) l.length cap] 22) = x8 at *
      generalize wd.heap.size = b51 at *
      refine wpAnyH_ready (rs := [1]) (by kernel_rfl) (by simp) ?_
      refine AllReadyH.cons rfl (fun K hK => ?_) AllReadyH.nil
      go_simp
      have h1 : RBs (x8.alloc (.cells #[.slice (some ⟨b, o, none⟩) l.length cp] 22)) (.slice (some ⟨x8.heap.size, 0, none⟩) 1 1) [l] := RBs.one x8 _ _ (ReadsCells.below HR1.out ((hT _).1 hS)) _
      have hY : Below x8.heap.size x8 (x8.alloc (.cells #[.slice (some ⟨b, o, none⟩) l.length cp] 22)) := (Below.refl _ _).alloc (Nat.le_refl _) _
      replace h4 := h4.below hY
      refine hK.out _ _ (step _ _ hS hY) (fun hS => ?_)
      clear hK K hY
      generalize x8.alloc (.cells #[.slice (some ⟨b, o, none⟩) l.length cp] 22) = x9 at *
      generalize x8.heap.size = b48 at *
      refine wpAnyH_ready (rs := [2]) (by kernel_rfl) (by simp) ?_
      refine AllReadyH.cons rfl (fun K hK => ?_) AllReadyH.nil
      go_simp
      refine (D1.out _ ((hT _).1 hS) _ h1).mono ?_
      rintro e x10 ⟨rfl, hY⟩
      refine hK.out _ _ (step _ _ hS hY) (fun hS => ?_)
      clear hK K
      replace h1 := h1.below hY
      replace h4 := h4.below hY
      clear hY
      refine wpAnyH_ready (rs := [5]) (by kernel_rfl) (by simp) ?_
      refine AllReadyH.cons rfl (fun K hK => ?_) AllReadyH.nil
      go_simp
      refine (D2.out _ ((hT _).1 hS) _ h4).mono ?_
      rintro e x11 ⟨rfl, hY⟩
      refine hK.out _ _ (step _ _ hS hY) (fun hS => ?_)
      clear hK K
      replace h1 := h1.below hY
      replace h4 := h4.below hY
      clear hY
      refine takeH 6 53 (.bool true) rfl rfl (by kernel_rfl) (by kernel_rfl) (by kernel_rfl) (fun _ _ _ h => h) (Or.inl ⟨by kernel_rfl, fun W _ => by go_simp⟩) hS ?_
      simp only [Act.put, List.setIfInBounds_toArray, List.set_cons_zero, List.set_cons_succ]
      refine takeH 8 55 (.bool true) rfl rfl (by kernel_rfl) (by kernel_rfl) (by kernel_rfl) (fun _ _ _ h => h) (Or.inl ⟨by kernel_rfl, fun W _ => by go_simp⟩) hS ?_
      simp only [Act.put, List.setIfInBounds_toArray, List.set_cons_zero, List.set_cons_succ]
      refine takeH 9 56 (.bool true) rfl rfl (by kernel_rfl) (by kernel_rfl) (by kernel_rfl) (fun _ _ _ h => h) (Or.inl ⟨by kernel_rfl, fun W _ => by go_simp⟩) hS ?_
      simp only [Act.put, List.setIfInBounds_toArray, List.set_cons_zero, List.set_cons_succ]
      refine takeH 10 57 (sv (c1) (m1)) rfl rfl (by kernel_rfl) (by kernel_rfl) (by kernel_rfl) (fun _ _ _ h => h) (hy_load_S (Operand.tmp 8) rfl (by kernel_rfl) (z) _ _ (by kernel_rfl) (fun W h => SAt.below hS1 ((hT W).1 h))) hS ?_
      simp only [Act.put, List.setIfInBounds_toArray, List.set_cons_zero, List.set_cons_succ]
      refine takeH 12 59 (sv (c1) (m2)) rfl rfl (by kernel_rfl) (by kernel_rfl) (by kernel_rfl) (fun _ _ _ h => h) (hy_load_S (Operand.tmp 9) rfl (by kernel_rfl) (z + 1) _ _ (by kernel_rfl) (fun W h => SAt.below hS2 ((hT W).1 h))) hS ?_
      simp only [Act.put, List.setIfInBounds_toArray, List.set_cons_zero, List.set_cons_succ]
      refine takeH 15 62 (.bool true) rfl rfl (by kernel_rfl) (by kernel_rfl) (by kernel_rfl) (fun _ _ _ h => h) (Or.inl ⟨by kernel_rfl, fun W _ => by go_simp⟩) hS ?_
      simp only [Act.put, List.setIfInBounds_toArray, List.set_cons_zero, List.set_cons_succ]
      refine wpAnyH_ready (rs := [11]) (by kernel_rfl) (by simp) ?_
      refine AllReadyH.cons rfl (fun K hK => ?_) AllReadyH.nil
      go_simp
      refine (CM.out _).mono ?_
      rintro e y1 ⟨rfl, hY⟩
      refine hK.out _ _ (step _ _ hS hY) (fun hS => ?_)
      clear hK K
      clear hY
      refine wpAnyH_ready (rs := [13]) (by kernel_rfl) (by simp) ?_
      refine AllReadyH.cons rfl (fun K hK => ?_) AllReadyH.nil
      go_simp
      refine (CM2.out _).mono ?_
      rintro e y2 ⟨rfl, hY⟩
      refine hK.out _ _ (step _ _ hS hY) (fun hS => ?_)
      clear hK K
      clear hY
      refine takeH 14 61 (.bool true) rfl rfl (by kernel_rfl) (by kernel_rfl) (by kernel_rfl) (fun _ _ _ h => h) (Or.inl ⟨by kernel_rfl, fun W _ => by go_simp⟩) hS ?_
      simp only [Act.put, List.setIfInBounds_toArray, List.set_cons_zero, List.set_cons_succ]
      refine takeH 16 63 (.bool true) rfl rfl (by kernel_rfl) (by kernel_rfl) (by kernel_rfl) (fun _ _ _ h => h) (Or.inl ⟨by kernel_rfl, fun W _ => by go_simp⟩) hS ?_
      simp only [Act.put, List.setIfInBounds_toArray, List.set_cons_zero, List.set_cons_succ]
      refine takeH 17 64 (.bool true) rfl rfl (by kernel_rfl) (by kernel_rfl) (by kernel_rfl) (fun _ _ _ h => h) (Or.inl ⟨by kernel_rfl, fun W _ => by go_simp⟩) hS ?_
      simp only [Act.put, List.setIfInBounds_toArray, List.set_cons_zero, List.set_cons_succ]
      refine takeH 18 65 (.bool true) rfl rfl (by kernel_rfl) (by kernel_rfl) (by kernel_rfl) (fun _ _ _ h => h) (Or.inl ⟨by kernel_rfl, fun W _ => by go_simp⟩) hS ?_
      simp only [Act.put, List.setIfInBounds_toArray, List.set_cons_zero, List.set_cons_succ]
      refine wpAnyH_ready (rs := [19]) (by kernel_rfl) (by simp) ?_
      refine AllReadyH.cons rfl (fun K hK => ?_) AllReadyH.nil
      go_simp
      refine (alive8_any _).mono ?_
      rintro e y3 ⟨rfl, hY⟩
      refine hK.out _ _ (step _ _ hS hY) (fun hS => ?_)
      clear hK K
      clear hY
      refine takeH 20 67 (.bool true) rfl rfl (by kernel_rfl) (by kernel_rfl) (by kernel_rfl) (fun _ _ _ h => h) (Or.inl ⟨by kernel_rfl, fun W _ => by go_simp⟩) hS ?_
      simp only [Act.put, List.setIfInBounds_toArray, List.set_cons_zero, List.set_cons_succ]
      refine takeH 21 6 (.bool true) rfl rfl (by kernel_rfl) (by kernel_rfl) (by kernel_rfl) (fun _ _ _ h => h) (Or.inl ⟨by kernel_rfl, fun W _ => by go_simp⟩) hS ?_
      simp only [Act.put, List.setIfInBounds_toArray, List.set_cons_zero, List.set_cons_succ]
      refine wpAnyH_done (by kernel_rfl) ?_ _
      have hfin := bel hB9 ((hT _).1 hS)
      go_wp2
      go_ret
      exact ⟨rfl, hfin⟩
  · have hs : ((l[k].toNat : Int) == (c.toNat : Int)) = false := by
      have : ¬ l[k].toNat = c.toNat := fun h => he (UInt8.toNat_inj.mp h)
      simp; omega
    have hs1 : ((c1.toNat : Int) == (c2.toNat : Int)) = false := by
      have : ¬ c1.toNat = c2.toNat := fun h => he (E1.out.1 (BitVec.eq_of_toNat_eq h))
      simp; omega
    have hs2 : ((n1.toNat : Int) == (n2.toNat : Int)) = false := by
      have : ¬ n1.toNat = n2.toNat := fun h => he (E2.out.1 (BitVec.eq_of_toNat_eq h))
      simp; omega
    clear E1 E2
    generalize l[k].toNat = y at *
    clear he
    dsimp only
    go_upto_region 8 with fail
    generalize ((w8.alloc (.cells #[.int .u32 (c1.toNat : Int), .int .u64 (m1.toNat : Int)] 28)).alloc (.cells #[.int .u32 (c2.toNat : Int), .int .u64 (m2.toNat : Int)] 28)) = W9 at *
    generalize w8.heap.size = z at *
    clear hcell9
    have D1 : Hid (∀ W, Below W9.heap.size W9 W → ∀ v, RBs W v [l] → Calls Try.prog 16 #[v] W fun e w' => e = .returned (.int .u32 (c1.toNat : Int)) ∧ Below W.heap.size W w') := fun W hW v hv => by
      have := Crc_any [l] v W hv (by simp) (by simpa using hz)
      rw [List.flatten_singleton, HX1.out] at this
      exact this
    have D2 : Hid (∀ W, Below W9.heap.size W9 W → ∀ v, RBs W v [l.set k c] → Calls Try.prog 16 #[v] W fun e w' => e = .returned (.int .u32 (c2.toNat : Int)) ∧ Below W.heap.size W w') := fun W hW v hv => by
      have := Crc_any [l.set k c] v W hv (by simp) (by simpa using hz')
      rw [List.flatten_singleton, HX2.out] at this
      exact this
    clear HX1 HX2 hz hz' hl h3 h4 hk
    obtain ⟨S, hT⟩ : ∃ S : World → Prop, ∀ W, S W ↔ Below W9.heap.size W9 W := ⟨_, fun _ => Iff.rfl⟩
    have step : ∀ W W', S W → Below W.heap.size W W' → S W' := fun W W' h hb => (hT W').2 (bel ((hT W).1 h) hb)
    refine wp_region_held_drew (S := S) (by kernel_rfl) ((hT _).2 (Below.refl _ _).drew) (fun hS => ?_)
    generalize World.drew W9 = wd at hS ⊢
    refine takeH 0 47 (.slice (some ⟨b, o, none⟩) l.length cp) rfl rfl (by kernel_rfl) (by kernel_rfl) (by kernel_rfl) (fun _ _ _ h => h) (Or.inl ⟨by kernel_rfl, fun W _ => by go_simp⟩) hS ?_
    simp only [Act.put, List.setIfInBounds_toArray, List.set_cons_zero, List.set_cons_succ]
    refine takeH 3 50 (.slice (some ⟨g, 0, none⟩) l.length cap) rfl rfl (by kernel_rfl) (by kernel_rfl) (by kernel_rfl) (fun _ _ _ h => h) (Or.inl ⟨by kernel_rfl, fun W _ => by go_simp⟩) hS ?_
    simp only [Act.put, List.setIfInBounds_toArray, List.set_cons_zero, List.set_cons_succ]
    refine takeH 7 54 (.bool false) rfl rfl (by kernel_rfl) (by kernel_rfl) (by kernel_rfl) (fun _ _ _ h => h) (Or.inl ⟨by kernel_rfl, fun W _ => by go_simp⟩) hS ?_
    simp only [Act.put, List.setIfInBounds_toArray, List.set_cons_zero, List.set_cons_succ]
    refine wpAnyH_ready (rs := [1, 4]) (by kernel_rfl) (by simp) ?_
    refine AllReadyH.cons rfl (fun K hK => ?_) (AllReadyH.cons rfl (fun K hK => ?_) AllReadyH.nil)
    · go_simp
      have h1 : RBs (wd.alloc (.cells #[.slice (some ⟨b, o, none⟩) l.length cp] 22)) (.slice (some ⟨wd.heap.size, 0, none⟩) 1 1) [l] := RBs.one wd _ _ (ReadsCells.below HR1.out ((hT _).1 hS)) _
      have hY : Below wd.heap.size wd (wd.alloc (.cells #[.slice (some ⟨b, o, none⟩) l.length cp] 22)) := (Below.refl _ _).alloc (Nat.le_refl _) _
      refine hK.out _ _ (step _ _ hS hY) (fun hS => ?_)
      clear hK K hY
      generalize wd.alloc (.cells #[.slice (some ⟨b, o, none⟩) l.length cp] 22) = x12 at *
      generalize wd.heap.size = b48 at *
      refine wpAnyH_ready (rs := [2, 4]) (by kernel_rfl) (by simp) ?_
      refine AllReadyH.cons rfl (fun K hK => ?_) (AllReadyH.cons rfl (fun K hK => ?_) AllReadyH.nil)
      · go_simp
        refine (D1.out _ ((hT _).1 hS) _ h1).mono ?_
        rintro e x13 ⟨rfl, hY⟩
        refine hK.out _ _ (step _ _ hS hY) (fun hS => ?_)
        clear hK K
        replace h1 := h1.below hY
        clear hY
        refine wpAnyH_ready (rs := [4]) (by kernel_rfl) (by simp) ?_
        refine AllReadyH.cons rfl (fun K hK => ?_) AllReadyH.nil
        go_simp
        have h4 : RBs (x13.alloc (.cells #[.slice (some ⟨g, 0, none⟩) l.length cap] 22)) (.slice (some ⟨x13.heap.size, 0, none⟩) 1 1) [l.set k c] := RBs.one x13 _ _ (ReadsCells.below HR2.out ((hT _).1 hS)) _
        have hY : Below x13.heap.size x13 (x13.alloc (.cells #[.slice (some ⟨g, 0, none⟩) l.length cap] 22)) := (Below.refl _ _).alloc (Nat.le_refl _) _
        replace h1 := h1.below hY
        refine hK.out _ _ (step _ _ hS hY) (fun hS => ?_)
        clear hK K hY
        generalize x13.alloc (.cells #[.slice (some ⟨g, 0, none⟩) l.length cap] 22) = x14 at *
        generalize x13.heap.size = b51 at *
        refine wpAnyH_ready (rs := [5]) (by kernel_rfl) (by simp) ?_
        refine AllReadyH.cons rfl (fun K hK => ?_) AllReadyH.nil
        go_simp
        refine (D2.out _ ((hT _).1 hS) _ h4).mono ?_
        rintro e x15 ⟨rfl, hY⟩
        refine hK.out _ _ (step _ _ hS hY) (fun hS => ?_)
        clear hK K
        replace h1 := h1.below hY
        replace h4 := h4.below hY
        clear hY
        refine takeH 6 53 (.bool false) rfl rfl (by kernel_rfl) (by kernel_rfl) (by kernel_rfl) (fun _ _ _ h => h) (Or.inl ⟨by kernel_rfl, fun W _ => by go_simp⟩) hS ?_
        simp only [Act.put, List.setIfInBounds_toArray, List.set_cons_zero, List.set_cons_succ]
        refine takeH 8 55 (.bool true) rfl rfl (by kernel_rfl) (by kernel_rfl) (by kernel_rfl) (fun _ _ _ h => h) (Or.inl ⟨by kernel_rfl, fun W _ => by go_simp⟩) hS ?_
        simp only [Act.put, List.setIfInBounds_toArray, List.set_cons_zero, List.set_cons_succ]
        refine takeH 9 56 (.bool true) rfl rfl (by kernel_rfl) (by kernel_rfl) (by kernel_rfl) (fun _ _ _ h => h) (Or.inl ⟨by kernel_rfl, fun W _ => by go_simp⟩) hS ?_
        simp only [Act.put, List.setIfInBounds_toArray, List.set_cons_zero, List.set_cons_succ]
        refine takeH 10 57 (sv (c1) (m1)) rfl rfl (by kernel_rfl) (by kernel_rfl) (by kernel_rfl) (fun _ _ _ h => h) (hy_load_S (Operand.tmp 8) rfl (by kernel_rfl) (z) _ _ (by kernel_rfl) (fun W h => SAt.below hS1 ((hT W).1 h))) hS ?_
        simp only [Act.put, List.setIfInBounds_toArray, List.set_cons_zero, List.set_cons_succ]
        refine takeH 12 59 (sv (c2) (m2)) rfl rfl (by kernel_rfl) (by kernel_rfl) (by kernel_rfl) (fun _ _ _ h => h) (hy_load_S (Operand.tmp 9) rfl (by kernel_rfl) (z + 1) _ _ (by kernel_rfl) (fun W h => SAt.below hS2 ((hT W).1 h))) hS ?_
        simp only [Act.put, List.setIfInBounds_toArray, List.set_cons_zero, List.set_cons_succ]
        refine takeH 15 62 (.bool false) rfl rfl (by kernel_rfl) (by kernel_rfl) (by kernel_rfl) (fun _ _ _ h => h) (Or.inl ⟨by kernel_rfl, fun W _ => by go_simp⟩) hS ?_
        simp only [Act.put, List.setIfInBounds_toArray, List.set_cons_zero, List.set_cons_succ]
        refine wpAnyH_ready (rs := [11]) (by kernel_rfl) (by simp) ?_
        refine AllReadyH.cons rfl (fun K hK => ?_) AllReadyH.nil
        go_simp
        refine (CM.out _).mono ?_
        rintro e y1 ⟨rfl, hY⟩
        refine hK.out _ _ (step _ _ hS hY) (fun hS => ?_)
        clear hK K
        clear hY
        refine wpAnyH_ready (rs := [13]) (by kernel_rfl) (by simp) ?_
        refine AllReadyH.cons rfl (fun K hK => ?_) AllReadyH.nil
        go_simp
        refine (CM2.out _).mono ?_
        rintro e y2 ⟨rfl, hY⟩
        refine hK.out _ _ (step _ _ hS hY) (fun hS => ?_)
        clear hK K
        clear hY
        refine takeH 14 61 (.bool false) rfl rfl (by kernel_rfl) (by kernel_rfl) (by kernel_rfl) (fun _ _ _ h => h) (Or.inl ⟨by kernel_rfl, fun W _ => by go_simp⟩) hS ?_
        simp only [Act.put, List.setIfInBounds_toArray, List.set_cons_zero, List.set_cons_succ]
        refine takeH 16 63 (.bool true) rfl rfl (by kernel_rfl) (by kernel_rfl) (by kernel_rfl) (fun _ _ _ h => h) (Or.inl ⟨by kernel_rfl, fun W _ => by go_simp⟩) hS ?_
        simp only [Act.put, List.setIfInBounds_toArray, List.set_cons_zero, List.set_cons_succ]
        refine takeH 17 64 (.bool true) rfl rfl (by kernel_rfl) (by kernel_rfl) (by kernel_rfl) (fun _ _ _ h => h) (Or.inl ⟨by kernel_rfl, fun W _ => by go_simp⟩) hS ?_
        simp only [Act.put, List.setIfInBounds_toArray, List.set_cons_zero, List.set_cons_succ]
        refine takeH 18 65 (.bool true) rfl rfl (by kernel_rfl) (by kernel_rfl) (by kernel_rfl) (fun _ _ _ h => h) (Or.inl ⟨by kernel_rfl, fun W _ => by go_simp⟩) hS ?_
        simp only [Act.put, List.setIfInBounds_toArray, List.set_cons_zero, List.set_cons_succ]
        refine wpAnyH_ready (rs := [19]) (by kernel_rfl) (by simp) ?_
        refine AllReadyH.cons rfl (fun K hK => ?_) AllReadyH.nil
        go_simp
        refine (alive8_any _).mono ?_
        rintro e y3 ⟨rfl, hY⟩
        refine hK.out _ _ (step _ _ hS hY) (fun hS => ?_)
        clear hK K
        clear hY
        refine takeH 20 67 (.bool true) rfl rfl (by kernel_rfl) (by kernel_rfl) (by kernel_rfl) (fun _ _ _ h => h) (Or.inl ⟨by kernel_rfl, fun W _ => by go_simp⟩) hS ?_
        simp only [Act.put, List.setIfInBounds_toArray, List.set_cons_zero, List.set_cons_succ]
        refine takeH 21 6 (.bool true) rfl rfl (by kernel_rfl) (by kernel_rfl) (by kernel_rfl) (fun _ _ _ h => h) (Or.inl ⟨by kernel_rfl, fun W _ => by go_simp⟩) hS ?_
        simp only [Act.put, List.setIfInBounds_toArray, List.set_cons_zero, List.set_cons_succ]
        refine wpAnyH_done (by kernel_rfl) ?_ _
        have hfin := bel hB9 ((hT _).1 hS)
        go_wp2
        go_ret
        exact ⟨rfl, hfin⟩
      · go_simp
        have h4 : RBs (x12.alloc (.cells #[.slice (some ⟨g, 0, none⟩) l.length cap] 22)) (.slice (some ⟨x12.heap.size, 0, none⟩) 1 1) [l.set k c] := RBs.one x12 _ _ (ReadsCells.below HR2.out ((hT _).1 hS)) _
        have hY : Below x12.heap.size x12 (x12.alloc (.cells #[.slice (some ⟨g, 0, none⟩) l.length cap] 22)) := (Below.refl _ _).alloc (Nat.le_refl _) _
        replace h1 := h1.below hY
        refine hK.out _ _ (step _ _ hS hY) (fun hS => ?_)
        clear hK K hY
        generalize x12.alloc (.cells #[.slice (some ⟨g, 0, none⟩) l.length cap] 22) = x16 at *
        generalize x12.heap.size = b51 at *
        refine wpAnyH_ready (rs := [2]) (by kernel_rfl) (by simp) ?_
        refine AllReadyH.cons rfl (fun K hK => ?_) AllReadyH.nil
        go_simp
        refine (D1.out _ ((hT _).1 hS) _ h1).mono ?_
        rintro e x17 ⟨rfl, hY⟩
        refine hK.out _ _ (step _ _ hS hY) (fun hS => ?_)
        clear hK K
        replace h1 := h1.below hY
        replace h4 := h4.below hY
        clear hY
        refine wpAnyH_ready (rs := [5]) (by kernel_rfl) (by simp) ?_
        refine AllReadyH.cons rfl (fun K hK => ?_) AllReadyH.nil
        go_simp
        refine (D2.out _ ((hT _).1 hS) _ h4).mono ?_
        rintro e x18 ⟨rfl, hY⟩
        refine hK.out _ _ (step _ _ hS hY) (fun hS => ?_)
        clear hK K
        replace h1 := h1.below hY
        replace h4 := h4.below hY
        clear hY
        refine takeH 6 53 (.bool false) rfl rfl (by kernel_rfl) (by kernel_rfl) (by kernel_rfl) (fun _ _ _ h => h) (Or.inl ⟨by kernel_rfl, fun W _ => by go_simp⟩) hS ?_
        simp only [Act.put, List.setIfInBounds_toArray, List.set_cons_zero, List.set_cons_succ]
        refine takeH 8 55 (.bool true) rfl rfl (by kernel_rfl) (by kernel_rfl) (by kernel_rfl) (fun _ _ _ h => h) (Or.inl ⟨by kernel_rfl, fun W _ => by go_simp⟩) hS ?_
        simp only [Act.put, List.setIfInBounds_toArray, List.set_cons_zero, List.set_cons_succ]
        refine takeH 9 56 (.bool true) rfl rfl (by kernel_rfl) (by kernel_rfl) (by kernel_rfl) (fun _ _ _ h => h) (Or.inl ⟨by kernel_rfl, fun W _ => by go_simp⟩) hS ?_
        simp only [Act.put, List.setIfInBounds_toArray, List.set_cons_zero, List.set_cons_succ]
        refine takeH 10 57 (sv (c1) (m1)) rfl rfl (by kernel_rfl) (by kernel_rfl) (by kernel_rfl) (fun _ _ _ h => h) (hy_load_S (Operand.tmp 8) rfl (by kernel_rfl) (z) _ _ (by kernel_rfl) (fun W h => SAt.below hS1 ((hT W).1 h))) hS ?_
        simp only [Act.put, List.setIfInBounds_toArray, List.set_cons_zero, List.set_cons_succ]
        refine takeH 12 59 (sv (c2) (m2)) rfl rfl (by kernel_rfl) (by kernel_rfl) (by kernel_rfl) (fun _ _ _ h => h) (hy_load_S (Operand.tmp 9) rfl (by kernel_rfl) (z + 1) _ _ (by kernel_rfl) (fun W h => SAt.below hS2 ((hT W).1 h))) hS ?_
        simp only [Act.put, List.setIfInBounds_toArray, List.set_cons_zero, List.set_cons_succ]
        refine takeH 15 62 (.bool false) rfl rfl (by kernel_rfl) (by kernel_rfl) (by kernel_rfl) (fun _ _ _ h => h) (Or.inl ⟨by kernel_rfl, fun W _ => by go_simp⟩) hS ?_
        simp only [Act.put, List.setIfInBounds_toArray, List.set_cons_zero, List.set_cons_succ]
        refine wpAnyH_ready (rs := [11]) (by kernel_rfl) (by simp) ?_
        refine AllReadyH.cons rfl (fun K hK => ?_) AllReadyH.nil
        go_simp
        refine (CM.out _).mono ?_
        rintro e y1 ⟨rfl, hY⟩
        refine hK.out _ _ (step _ _ hS hY) (fun hS => ?_)
        clear hK K
        clear hY
        refine wpAnyH_ready (rs := [13]) (by kernel_rfl) (by simp) ?_
        refine AllReadyH.cons rfl (fun K hK => ?_) AllReadyH.nil
        go_simp
        refine (CM2.out _).mono ?_
        rintro e y2 ⟨rfl, hY⟩
        refine hK.out _ _ (step _ _ hS hY) (fun hS => ?_)
        clear hK K
        clear hY
        refine takeH 14 61 (.bool false) rfl rfl (by kernel_rfl) (by kernel_rfl) (by kernel_rfl) (fun _ _ _ h => h) (Or.inl ⟨by kernel_rfl, fun W _ => by go_simp⟩) hS ?_
        simp only [Act.put, List.setIfInBounds_toArray, List.set_cons_zero, List.set_cons_succ]
        refine takeH 16 63 (.bool true) rfl rfl (by kernel_rfl) (by kernel_rfl) (by kernel_rfl) (fun _ _ _ h => h) (Or.inl ⟨by kernel_rfl, fun W _ => by go_simp⟩) hS ?_
        simp only [Act.put, List.setIfInBounds_toArray, List.set_cons_zero, List.set_cons_succ]
        refine takeH 17 64 (.bool true) rfl rfl (by kernel_rfl) (by kernel_rfl) (by kernel_rfl) (fun _ _ _ h => h) (Or.inl ⟨by kernel_rfl, fun W _ => by go_simp⟩) hS ?_
        simp only [Act.put, List.setIfInBounds_toArray, List.set_cons_zero, List.set_cons_succ]
        refine takeH 18 65 (.bool true) rfl rfl (by kernel_rfl) (by kernel_rfl) (by kernel_rfl) (fun _ _ _ h => h) (Or.inl ⟨by kernel_rfl, fun W _ => by go_simp⟩) hS ?_
        simp only [Act.put, List.setIfInBounds_toArray, List.set_cons_zero, List.set_cons_succ]
        refine wpAnyH_ready (rs := [19]) (by kernel_rfl) (by simp) ?_
        refine AllReadyH.cons rfl (fun K hK => ?_) AllReadyH.nil
        go_simp
        refine (alive8_any _).mono ?_
        rintro e y3 ⟨rfl, hY⟩
        refine hK.out _ _ (step _ _ hS hY) (fun hS => ?_)
        clear hK K
        clear hY
        refine takeH 20 67 (.bool true) rfl rfl (by kernel_rfl) (by kernel_rfl) (by kernel_rfl) (fun _ _ _ h => h) (Or.inl ⟨by kernel_rfl, fun W _ => by go_simp⟩) hS ?_
        simp only [Act.put, List.setIfInBounds_toArray, List.set_cons_zero, List.set_cons_succ]
        refine takeH 21 6 (.bool true) rfl rfl (by kernel_rfl) (by kernel_rfl) (by kernel_rfl) (fun _ _ _ h => h) (Or.inl ⟨by kernel_rfl, fun W _ => by go_simp⟩) hS ?_
        simp only [Act.put, List.setIfInBounds_toArray, List.set_cons_zero, List.set_cons_succ]
        refine wpAnyH_done (by kernel_rfl) ?_ _
        have hfin := bel hB9 ((hT _).1 hS)
        go_wp2
        go_ret
        exact ⟨rfl, hfin⟩
    · go_simp
      have h4 : RBs (wd.alloc (.cells #[.slice (some ⟨g, 0, none⟩) l.length cap] 22)) (.slice (some ⟨wd.heap.size, 0, none⟩) 1 1) [l.set k c] := RBs.one wd _ _ (ReadsCells.below HR2.out ((hT _).1 hS)) _
      have hY : Below wd.heap.size wd (wd.alloc (.cells #[.slice (some ⟨g, 0, none⟩) l.length cap] 22)) := (Below.refl _ _).alloc (Nat.le_refl _) _
      refine hK.out _ _ (step _ _ hS hY) (fun hS => ?_)
      clear hK K hY
      generalize wd.alloc (.cells #[.slice (some ⟨g, 0, none⟩) l.length cap] 22) = x19 at *
      generalize wd.heap.size = b51 at *
      refine wpAnyH_ready (rs := [1]) (by kernel_rfl) (by simp) ?_
      refine AllReadyH.cons rfl (fun K hK => ?_) AllReadyH.nil
      go_simp
      have h1 : RBs (x19.alloc (.cells #[.slice (some ⟨b, o, none⟩) l.length cp] 22)) (.slice (some ⟨x19.heap.size, 0, none⟩) 1 1) [l] := RBs.one x19 _ _ (ReadsCells.below HR1.out ((hT _).1 hS)) _
      have hY : Below x19.heap.size x19 (x19.alloc (.cells #[.slice (some ⟨b, o, none⟩) l.length cp] 22)) := (Below.refl _ _).alloc (Nat.le_refl _) _
      replace h4 := h4.below hY
      refine hK.out _ _ (step _ _ hS hY) (fun hS => ?_)
      clear hK K hY
      generalize x19.alloc (.cells #[.slice (some ⟨b, o, none⟩) l.length cp] 22) = x20 at *
      generalize x19.heap.size = b48 at *
      refine wpAnyH_ready (rs := [2]) (by kernel_rfl) (by simp) ?_
      refine AllReadyH.cons rfl (fun K hK => ?_) AllReadyH.nil
      go_simp
      refine (D1.out _ ((hT _).1 hS) _ h1).mono ?_
      rintro e x21 ⟨rfl, hY⟩
      refine hK.out _ _ (step _ _ hS hY) (fun hS => ?_)
      clear hK K
      replace h1 := h1.below hY
      replace h4 := h4.below hY
      clear hY
      refine wpAnyH_ready (rs := [5]) (by kernel_rfl) (by simp) ?_
      refine AllReadyH.cons rfl (fun K hK => ?_) AllReadyH.nil
      go_simp
      refine (D2.out _ ((hT _).1 hS) _ h4).mono ?_
      rintro e x22 ⟨rfl, hY⟩
      refine hK.out _ _ (step _ _ hS hY) (fun hS => ?_)
      clear hK K
      replace h1 := h1.below hY
      replace h4 := h4.below hY
      clear hY
      refine takeH 6 53 (.bool false) rfl rfl (by kernel_rfl) (by kernel_rfl) (by kernel_rfl) (fun _ _ _ h => h) (Or.inl ⟨by kernel_rfl, fun W _ => by go_simp⟩) hS ?_
      simp only [Act.put, List.setIfInBounds_toArray, List.set_cons_zero, List.set_cons_succ]
      refine takeH 8 55 (.bool true) rfl rfl (by kernel_rfl) (by kernel_rfl) (by kernel_rfl) (fun _ _ _ h => h) (Or.inl ⟨by kernel_rfl, fun W _ => by go_simp⟩) hS ?_
      simp only [Act.put, List.setIfInBounds_toArray, List.set_cons_zero, List.set_cons_succ]
      refine takeH 9 56 (.bool true) rfl rfl (by kernel_rfl) (by kernel_rfl) (by kernel_rfl) (fun _ _ _ h => h) (Or.inl ⟨by kernel_rfl, fun W _ => by go_simp⟩) hS ?_
      simp only [Act.put, List.setIfInBounds_toArray, List.set_cons_zero, List.set_cons_succ]
      refine takeH 10 57 (sv (c1) (m1)) rfl rfl (by kernel_rfl) (by kernel_rfl) (by kernel_rfl) (fun _ _ _ h => h) (hy_load_S (Operand.tmp 8) rfl (by kernel_rfl) (z) _ _ (by kernel_rfl) (fun W h => SAt.below hS1 ((hT W).1 h))) hS ?_
      simp only [Act.put, List.setIfInBounds_toArray, List.set_cons_zero, List.set_cons_succ]
      refine takeH 12 59 (sv (c2) (m2)) rfl rfl (by kernel_rfl) (by kernel_rfl) (by kernel_rfl) (fun _ _ _ h => h) (hy_load_S (Operand.tmp 9) rfl (by kernel_rfl) (z + 1) _ _ (by kernel_rfl) (fun W h => SAt.below hS2 ((hT W).1 h))) hS ?_
      simp only [Act.put, List.setIfInBounds_toArray, List.set_cons_zero, List.set_cons_succ]
      refine takeH 15 62 (.bool false) rfl rfl (by kernel_rfl) (by kernel_rfl) (by kernel_rfl) (fun _ _ _ h => h) (Or.inl ⟨by kernel_rfl, fun W _ => by go_simp⟩) hS ?_
      simp only [Act.put, List.setIfInBounds_toArray, List.set_cons_zero, List.set_cons_succ]
      refine wpAnyH_ready (rs := [11]) (by kernel_rfl) (by simp) ?_
      refine AllReadyH.cons rfl (fun K hK => ?_) AllReadyH.nil
      go_simp
      refine (CM.out _).mono ?_
      rintro e y1 ⟨rfl, hY⟩
      refine hK.out _ _ (step _ _ hS hY) (fun hS => ?_)
      clear hK K
      clear hY
      refine wpAnyH_ready (rs := [13]) (by kernel_rfl) (by simp) ?_
      refine AllReadyH.cons rfl (fun K hK => ?_) AllReadyH.nil
      go_simp
      refine (CM2.out _).mono ?_
      rintro e y2 ⟨rfl, hY⟩
      refine hK.out _ _ (step _ _ hS hY) (fun hS => ?_)
      clear hK K
      clear hY
      refine takeH 14 61 (.bool false) rfl rfl (by kernel_rfl) (by kernel_rfl) (by kernel_rfl) (fun _ _ _ h => h) (Or.inl ⟨by kernel_rfl, fun W _ => by go_simp⟩) hS ?_
      simp only [Act.put, List.setIfInBounds_toArray, List.set_cons_zero, List.set_cons_succ]
      refine takeH 16 63 (.bool true) rfl rfl (by kernel_rfl) (by kernel_rfl) (by kernel_rfl) (fun _ _ _ h => h) (Or.inl ⟨by kernel_rfl, fun W _ => by go_simp⟩) hS ?_
      simp only [Act.put, List.setIfInBounds_toArray, List.set_cons_zero, List.set_cons_succ]
      refine takeH 17 64 (.bool true) rfl rfl (by kernel_rfl) (by kernel_rfl) (by kernel_rfl) (fun _ _ _ h => h) (Or.inl ⟨by kernel_rfl, fun W _ => by go_simp⟩) hS ?_
      simp only [Act.put, List.setIfInBounds_toArray, List.set_cons_zero, List.set_cons_succ]
      refine takeH 18 65 (.bool true) rfl rfl (by kernel_rfl) (by kernel_rfl) (by kernel_rfl) (fun _ _ _ h => h) (Or.inl ⟨by kernel_rfl, fun W _ => by go_simp⟩) hS ?_
      simp only [Act.put, List.setIfInBounds_toArray, List.set_cons_zero, List.set_cons_succ]
      refine wpAnyH_ready (rs := [19]) (by kernel_rfl) (by simp) ?_
      refine AllReadyH.cons rfl (fun K hK => ?_) AllReadyH.nil
      go_simp
      refine (alive8_any _).mono ?_
      rintro e y3 ⟨rfl, hY⟩
      refine hK.out _ _ (step _ _ hS hY) (fun hS => ?_)
      clear hK K
      clear hY
      refine takeH 20 67 (.bool true) rfl rfl (by kernel_rfl) (by kernel_rfl) (by kernel_rfl) (fun _ _ _ h => h) (Or.inl ⟨by kernel_rfl, fun W _ => by go_simp⟩) hS ?_
      simp only [Act.put, List.setIfInBounds_toArray, List.set_cons_zero, List.set_cons_succ]
      refine takeH 21 6 (.bool true) rfl rfl (by kernel_rfl) (by kernel_rfl) (by kernel_rfl) (fun _ _ _ h => h) (Or.inl ⟨by kernel_rfl, fun W _ => by go_simp⟩) hS ?_
      simp only [Act.put, List.setIfInBounds_toArray, List.set_cons_zero, List.set_cons_succ]
      refine wpAnyH_done (by kernel_rfl) ?_ _
      have hfin := bel hB9 ((hT _).1 hS)
      go_wp2
      go_ret
      exact ⟨rfl, hfin⟩
end Go.Proofs.Ytfjgmejobldjoaa.sumTurned
