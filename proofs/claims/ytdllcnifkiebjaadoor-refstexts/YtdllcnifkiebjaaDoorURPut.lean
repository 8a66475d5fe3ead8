/- The contract of the reference's Put. -/
import Derived.Test.YtdllcnifkiebjaaDoorUROne
namespace Go.Proofs.YtdllcnifkiebjaaDoor
open Go.RowKit
theorem OwnsBytes.below {W W' : World} {B : Nat} {v : Value} {l : List UInt8} (h : OwnsBytes W B v l) (hb : Below W.heap.size W W') : OwnsBytes W' B v l := by
  refine ⟨h.1, ?_⟩
  rcases h.2 with h2 | ⟨g, cap, cur, h1, h2, h3, h4⟩
  · exact .inl h2
  · refine .inr ⟨g, cap, cur, h1, h2, ?_, h4⟩
    rw [hb.block g (Array.getElem?_eq_some_iff.1 h3).1]
    exact h3
theorem owns_src {w : World} {B : Nat} {v : Value} {l : List UInt8} (h : OwnsBytes w B v l) (hl : 1 ≤ l.length) :
    ∃ g cap, v = .slice (some ⟨g, 0, none⟩) l.length cap ∧ ∀ (j : Nat) u, (cellsB l)[j]? = some u → w.cell? ((⟨g, 0, none⟩ : Addr).add j) = some u := by
  have h0 := h
  rcases h.2 with ⟨rfl, hz⟩ | ⟨g, cap, cur, rfl, _, hg, hc, _, hcs, ht⟩
  · omega
  · refine ⟨g, cap, rfl, fun j u hj => ?_⟩
    have hlt : j < (cellsB l).length := (List.getElem?_eq_some_iff.1 hj).1
    rw [cellsB_length] at hlt
    have := World.ownsRow.cellAt (w := w) (base := B) (e := 5) (size := 1) (g := g) (cap := cap) (n := l.length) (xs := cellsB l) h0 j (by omega)
    rw [add_addr, Nat.zero_add, this, hj]
theorem owns_more {w : World} {B : Nat} {v : Value} {l m : List UInt8} (h : w.ownsRow B 5 1 v (l.length + m.length) (cellsB l ++ cellsB m)) : OwnsBytes w B v (l ++ m) := by
  unfold OwnsBytes
  rw [List.length_append]
  unfold cellsB at *
  rw [List.map_append]
  exact h
set_option maxHeartbeats 2000000 in
set_option maxRecDepth 100000 in
theorem RPut_any (v u : Value) (l : List UInt8) (cs : List Int) (w : World) (hz : l.length ≤ 1000000000) (hy : cs.length ≤ 1000000000) (hv : ReadsCells w v (cellsB l)) (hu : ReadsCells w u (cellsR cs)) :
    Calls Tryd.prog 23 #[v, u] w fun e w' => ∃ v', e = .returned v' ∧ OwnsBytes w' w.heap.size v' (l ++ puts cs) ∧ Below w.heap.size w w' := by
  obtain ⟨i0, hi, hz0, hz1, hz2⟩ := info_parts infoByte
  obtain ⟨ad, cp, rfl⟩ : ∃ ad cp, u = .slice ad cs.length cp := by
    rcases hu with ⟨a, c, rfl, h0⟩ | ⟨b, o, c, rfl, _, _⟩
    · exact ⟨a, c, by rw [← cellsR_length, h0]; rfl⟩
    · exact ⟨_, c, by rw [cellsR_length]⟩
  have HU : Hid (ReadsCells w (.slice ad cs.length cp) (cellsR cs)) := hu
  clear hu
  obtain ⟨ad2, c2, rfl⟩ : ∃ ad c, v = .slice ad l.length c := by
    rcases hv with ⟨a, c, rfl, h0⟩ | ⟨b, o, c, rfl, _, _⟩
    · exact ⟨a, c, by rw [← cellsB_length, h0]; rfl⟩
    · exact ⟨_, c, by rw [cellsB_length]⟩
  cases ad2 with
  | none =>
    have hl : l = [] := by
      rcases hv with ⟨a, c, h1, h0⟩ | ⟨b, o, c, h1, _, _⟩
      · exact List.eq_nil_of_length_eq_zero (by rw [← cellsB_length, h0]; rfl)
      · cases h1
    subst hl
    go_enter Tryd.func23, Tryd.ntmps23
    go_wp2
    go_loopw [5, 6] (fun x i wr => ∃ k : Nat, k ≤ cs.length ∧ i = .int .i64 k ∧ OwnsBytes wr w.heap.size x ([] ++ puts (cs.take k)) ∧ Below w.heap.size w wr) (fun _ i _ => cs.length - (intOf i).toNat)
    case atStart => exact ⟨0, Nat.zero_le _, rfl, OwnsBytes.nil _ _, Below.refl _ _⟩
    case round =>
      obtain ⟨k, hk, rfl, ho, hbw⟩ := hrel
      by_cases hlt : k < cs.length
      · obtain ⟨c, hc⟩ : ∃ c, cs[k]? = some c := ⟨_, List.getElem?_eq_getElem hlt⟩
        have hpl := puts_len (cs.take k)
        rw [List.length_take] at hpl
        obtain ⟨b, o, rfl, hcp, hcell⟩ : ∃ b o, ad = some ⟨b, o, none⟩ ∧ cs.length ≤ cp ∧ w.cell? ⟨b, o + k, none⟩ = some (.int .i32 c) := by
          rcases HU.out with ⟨a, c', h1, h0⟩ | ⟨b, o, c', h1, h2, h3⟩
          · have := congrArg List.length h0
            rw [cellsR_length, List.length_nil] at this
            omega
          · rw [cellsR_length] at h1 h2
            cases h1
            refine ⟨b, o, rfl, h2, h3 k _ ?_⟩
            unfold cellsR
            rw [List.getElem?_map, hc]
            rfl
        have hcell2 : wr.cell? ⟨b, o + k, none⟩ = some (.int .i32 c) := (hbw.cell (p := ⟨b, o + k, none⟩) (cell_lt hcell)).trans hcell
        have HC : Hid (cs[k]? = some c) := hc
        have hsz := hbw.size
        have he4 := Utf.enc_len c
        clear hc hcell
        go_wp2_with (first
          | (go_at_call 42; refine (one_any _ _).mono ?_; rintro e w2 ⟨v2, rfl, ho2, hb2⟩; obtain ⟨g2, cap2, rfl, hr2⟩ := owns_src ho2 he4.2; have ho3 := ho.below hb2; have hsz2 := hb2.size)
          | (at_builtin; refine wpList_append_own _ rfl _ _ 34 rfl w.heap.size 5 i0 (.int .u8 0) 1 1 Tryd.underlying34 hi hz0 hz1 hz2 rfl (by decide) _ _ _ rfl ho3 ⟨g2, 0, none⟩ _ cap2 (cellsB (Lib.encodeRune c)) rfl (by rw [cellsB_length, Nat.mul_one]) hr2 (one_cell _) (by rw [List.length_append]; unfold maxLen; omega) (by rw [List.length_append]; omega) (by omega) ?_; intro v3 w3 ho4 hg3 _))
        have hb3 : Below w.heap.size w w3 := (bel hbw hb2).grown hg3 (by omega) (fun k hk => (World.ownsRow.lt ho3 k hk).1)
        go_roundw
        case rel =>
          refine ⟨k + 1, by omega, by go_num, ?_, hb3⟩
          rw [puts_snoc cs k c HC.out, ← List.append_assoc]
          exact owns_more ho4
        case measure => simp [intOf]; omega
      · have hkk : k = cs.length := by omega
        have ho2 : Hid (OwnsBytes wr w.heap.size u5 ([] ++ puts cs)) := by
          have := ho
          rw [hkk, List.take_length] at this
          exact this
        go_wp2
        go_ret
        exact ⟨_, rfl, ho2.out, hbw⟩
  | some ad2 =>
    have hr : ∀ j u, (cellsB l)[j]? = some u → w.cell? (ad2.add j) = some u := by
      intro j u hj
      rcases hv with ⟨a, c, h1, h0⟩ | ⟨b, o, c, h1, _, h3⟩
      · rw [h0] at hj; simp at hj
      · rw [cellsB_length] at h1
        cases h1
        rw [add_addr]
        exact h3 j u hj
    clear hv
    have hnil : w.ownsRow w.heap.size 5 1 (.slice none 0 0) 0 [] := World.ownsRow_nil _ _ _ _
    go_enter Tryd.func23, Tryd.ntmps23
    go_wp2_with (at_builtin; refine wpList_append_own _ rfl _ _ 34 rfl w.heap.size 5 i0 (.int .u8 0) 1 1 Tryd.underlying34 hi hz0 hz1 hz2 rfl (by decide) _ _ _ rfl hnil ad2 l.length c2 (cellsB l) rfl (by rw [cellsB_length, Nat.mul_one]) hr (one_cell l) (by unfold maxLen; omega) (by omega) (Nat.le_refl _) ?_)
    intro v1 w1 ho1 hg1 _
    have hb1 : Below w.heap.size w w1 := (Below.refl _ w).grown hg1 (Nat.le_refl _) (fun k hk => by cases hk)
    have ho1' : OwnsBytes w1 w.heap.size v1 (l ++ puts (cs.take 0)) := by
      unfold OwnsBytes
      simpa [puts] using ho1
    go_wp2
    go_loopw [5, 6] (fun x i wr => ∃ k : Nat, k ≤ cs.length ∧ i = .int .i64 k ∧ OwnsBytes wr w.heap.size x (l ++ puts (cs.take k)) ∧ Below w.heap.size w wr) (fun _ i _ => cs.length - (intOf i).toNat)
    case atStart => exact ⟨0, Nat.zero_le _, rfl, ho1', hb1⟩
    case round =>
      obtain ⟨k, hk, rfl, ho, hbw⟩ := hrel
      by_cases hlt : k < cs.length
      · obtain ⟨c, hc⟩ : ∃ c, cs[k]? = some c := ⟨_, List.getElem?_eq_getElem hlt⟩
        have hpl := puts_len (cs.take k)
        rw [List.length_take] at hpl
        obtain ⟨b, o, rfl, hcp, hcell⟩ : ∃ b o, ad = some ⟨b, o, none⟩ ∧ cs.length ≤ cp ∧ w.cell? ⟨b, o + k, none⟩ = some (.int .i32 c) := by
          rcases HU.out with ⟨a, c', h1, h0⟩ | ⟨b, o, c', h1, h2, h3⟩
          · have := congrArg List.length h0
            rw [cellsR_length, List.length_nil] at this
            omega
          · rw [cellsR_length] at h1 h2
            cases h1
            refine ⟨b, o, rfl, h2, h3 k _ ?_⟩
            unfold cellsR
            rw [List.getElem?_map, hc]
            rfl
        have hcell2 : wr.cell? ⟨b, o + k, none⟩ = some (.int .i32 c) := (hbw.cell (p := ⟨b, o + k, none⟩) (cell_lt hcell)).trans hcell
        have HC : Hid (cs[k]? = some c) := hc
        have hsz := hbw.size
        have he4 := Utf.enc_len c
        clear hc hcell
        go_wp2_with (first
          | (go_at_call 42; refine (one_any _ _).mono ?_; rintro e w2 ⟨v2, rfl, ho2, hb2⟩; obtain ⟨g2, cap2, rfl, hr2⟩ := owns_src ho2 he4.2; have ho3 := ho.below hb2; have hsz2 := hb2.size)
          | (at_builtin; refine wpList_append_own _ rfl _ _ 34 rfl w.heap.size 5 i0 (.int .u8 0) 1 1 Tryd.underlying34 hi hz0 hz1 hz2 rfl (by decide) _ _ _ rfl ho3 ⟨g2, 0, none⟩ _ cap2 (cellsB (Lib.encodeRune c)) rfl (by rw [cellsB_length, Nat.mul_one]) hr2 (one_cell _) (by rw [List.length_append]; unfold maxLen; omega) (by rw [List.length_append]; omega) (by omega) ?_; intro v3 w3 ho4 hg3 _))
        have hb3 : Below w.heap.size w w3 := (bel hbw hb2).grown hg3 (by omega) (fun k hk => (World.ownsRow.lt ho3 k hk).1)
        go_roundw
        case rel =>
          refine ⟨k + 1, by omega, by go_num, ?_, hb3⟩
          rw [puts_snoc cs k c HC.out, ← List.append_assoc]
          exact owns_more ho4
        case measure => simp [intOf]; omega
      · have hkk : k = cs.length := by omega
        have ho2 : Hid (OwnsBytes wr w.heap.size u5 (l ++ puts cs)) := by
          have := ho
          rw [hkk, List.take_length] at this
          exact this
        go_wp2
        go_ret
        exact ⟨_, rfl, ho2.out, hbw⟩
end Go.Proofs.YtdllcnifkiebjaaDoor
