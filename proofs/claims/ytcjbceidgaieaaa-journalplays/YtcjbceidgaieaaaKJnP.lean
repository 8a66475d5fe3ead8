/- The document's frames: the contracts of its four, Frame, and Same. -/
import Derived.Test.YtcjbceidgaieaaaKJnAD
import Derived.BigQuiet
set_option linter.unusedVariables false
set_option linter.unusedSimpArgs false
namespace Go.Proofs.Ytcjbceidgaieaaa
open Go.RowKit
theorem own_four (w : World) (n : Nat) (hn : n < 4294967296) : OwnsBytes (w.alloc (.cells #[.int .u8 ((n : Int) / 16777216), .int .u8 ((n : Int) / 65536 % 256), .int .u8 ((n : Int) / 256 % 256), .int .u8 ((n : Int) % 256)] 5)) w.heap.size (.slice (some ⟨w.heap.size, 0, none⟩) 4 4) (Jn.four n) := by
  refine ⟨rfl, .inr ⟨w.heap.size, 4, _, rfl, Nat.le_refl _, heap_new w _, Nat.le_refl _, by decide, rfl, ?_⟩⟩
  rw [← four_cells n hn]
  rfl
set_option maxHeartbeats 2000000 in
set_option maxRecDepth 100000 in
theorem Rfour_any (n : Nat) (hn : n < 4294967296) (w : World) :
    Calls Try.prog 59 #[.int .u32 (n : Int)] w fun e w' => ∃ a c, e = .returned (.slice a 4 c) ∧ OwnsBytes w' w.heap.size (.slice a 4 c) (Jn.four n) ∧ Below w.heap.size w w' := by
  have h := own_four w n hn
  go_enter Try.func59, Try.ntmps59
  go_wp2
  go_ret
  exact ⟨_, _, rfl, h, alloc1 w _⟩
theorem wpList_append_B {w : World} {ops : Array Oper} {rest : List Oper} {o : Oper} {a : Act} {Q : Exit → Act → World → Prop} (hgd : o.guard = none) (s x : Operand)
    (ho : o.op = .call { callee := .builtin .append, args := #[s, x], argTypes := #[27, 27] }) (B : Nat) (hB : B ≤ w.heap.size) (v : Value) (l : List UInt8) (hs : a.eval s = v) (hown : OwnsBytes w B v l) (y : Value) (m : List UInt8) (hx : a.eval x = y) (hy : RB w y m) (hlen : l.length + m.length ≤ 1000000000)
    (h : ∀ L a' c' w', Hid (L = l ++ m) → OwnsBytes w' B (.slice a' L.length c') L → Below B w w' → wpList Try.prog ops Q rest (a.put o.dst (.slice a' L.length c')) w') : wpList Try.prog ops Q (o :: rest) a w :=
  wpList_append_RB hgd s x ho v l hs (hown.base (fun _ _ => Nat.zero_le _)) y m hx hy hlen (fun v' w' h1 h2 h3 => by
    have hb : ∀ k, v.ownBlock = some k → B ≤ k := fun k hk => (hown.lt hk).1
    have hg := Gr.of h2 h3
    obtain ⟨L, a', c', hL, rfl, ho⟩ := h1.gen
    refine h L a' c' w' hL (ho.base (fun k hk => ?_)) (hg.own.below hb hB)
    rcases hg.blk k hk with e | e
    · exact hb k e
    · omega)
set_option maxHeartbeats 2000000 in
set_option maxRecDepth 100000 in
theorem RFrame_no {w : World} {v : Value} {l : List UInt8} (hv : RB w v l) (hl : l.length ≤ maxLen) (h : ¬ Jn.isRec l) :
    Calls Try.prog 31 #[v] w fun e w' => e = .returned (.tuple #[.slice none 0 0, .int .i64 1]) ∧ w' = w := by
  obtain ⟨a, c, rfl⟩ := hv.form
  unfold maxLen at hl
  unfold Jn.isRec at h
  by_cases h1 : l.length < 1
  · clear h
    go_enter Try.func31, Try.ntmps31
    go_wp2
    go_ret2
    exact ⟨rfl, rfl⟩
  · have h2 : 16384 < l.length := by omega
    clear h
    go_enter Try.func31, Try.ntmps31
    go_wp2
    go_ret2
    exact ⟨rfl, rfl⟩
set_option maxHeartbeats 2000000 in
set_option maxRecDepth 100000 in
theorem RFrame_yes {w : World} {v : Value} {l : List UInt8} (hv : RB w v l) (h : Jn.isRec l) :
    Calls Try.prog 31 #[v] w fun e w' => ∃ a c, e = .returned (.tuple #[.slice a (8 + l.length) c, .int .i64 0]) ∧ OwnsBytes w' w.heap.size (.slice a (8 + l.length) c) (Jn.frame l) ∧ Below w.heap.size w w' := by
  obtain ⟨a, c, rfl⟩ := hv.form
  obtain ⟨h1, h2⟩ := h
  have HV := hide9 hv
  have C1 := Rfour_any l.length (by omega) w
  clear hv
  go_enter Try.func31, Try.ntmps31
  go_wp2_with (first
    | (go_at_call 59; refine C1.mono ?_; rintro e w1 ⟨a1, c1, rfl, ho1, hB1⟩; clear C1)
    | (refine wpList_append_B rfl (.const (.slice none 0 0)) (.tmp 18) rfl w1.heap.size (Nat.le_refl _) _ _ rfl (OwnsBytes.nil _ _) _ _ rfl ho1.reads (by rw [Jn.four_length]; decide) ?_; intro L2 a2 c2 w2 H2 ho2 hB2; have hl2 : L2.length ≤ 4 := (by rw [H2.out]; simp [Jn.four_length]))
    | (refine wpList_append_B rfl (.tmp 19) (.tmp 20) rfl w1.heap.size hB2.size _ _ rfl ho2 _ _ rfl (HV.out.below (bel hB1 hB2)) (by omega) ?_; intro L3 a3 c3 w3 H3 ho3 hB3; have hl3 : L3.length ≤ 4 + l.length := (by rw [H3.out, List.length_append]; omega); have hB13 := hB2.trans hB3; have ho13 := ho1.low9 hB13; have C3 := RCrc_any L3 _ w3 ho3.reads (by omega); rw [crc_of] at C3; have C4 := Rfour_any (Jn.crc L3) (Jn.crc_lt _) w3)
    | (go_at_call 60; refine C3.mono ?_; rintro e w4 ⟨rfl, he⟩; replace he := he.symm; subst he; clear C3)
    | (go_at_call 59; refine C4.mono ?_; rintro e w5 ⟨a5, c5, rfl, ho5, hB5⟩; clear C4)
    | (refine wpList_append_B rfl (.tmp 22) (.tmp 25) rfl w.heap.size (Nat.le_trans hB1.size (Nat.le_trans hB13.size hB5.size)) _ _ rfl (ho13.low9 hB5) _ _ rfl ho5.reads (by simp [Jn.four_length]) ?_; intro L6 a6 c6 w6 H6 ho6 hB6; have hl6 : L6.length ≤ 8 := (by rw [H6.out]; simp [Jn.four_length]); have hB16 := (bel (bel hB1 hB13) hB5).trans hB6)
    | (refine wpList_append_B rfl (.tmp 26) (.tmp 27) rfl w.heap.size hB16.size _ _ rfl ho6 _ _ rfl (HV.out.below hB16) (by omega) ?_; intro L7 a7 c7 w7 H7 ho7 hB7))
  go_ret2
  have e7 : L7 = Jn.frame l := by
    rw [H7.out, H6.out, H3.out, H2.out]
    simp [Jn.frame]
  subst e7
  rw [Jn.frame_length] at ho7 ⊢
  exact ⟨_, _, rfl, ho7, hB16.trans hB7⟩
theorem str_inj9 {l m : List UInt8} : str l = str m ↔ l = m := by
  constructor
  · intro h
    have := congrArg (fun b => b.data.toList) h
    simpa [str] using this
  · rintro rfl
    rfl
set_option maxHeartbeats 2000000 in
set_option maxRecDepth 100000 in
theorem Same_any {w : World} {v u : Value} {ls ms : List (List UInt8)} (hv : RBs w v ls) (hu : RBs w u ms) (hl : ls.length ≤ 1000000) (hm : ms.length ≤ 1000000) :
    Calls Try.prog 24 #[v, u] w fun e w' => e = .returned (.bool (decide (ls = ms))) ∧ Below w.heap.size w w' := by
  obtain ⟨va, vc, rfl⟩ := hv.form
  obtain ⟨ua, uc, rfl⟩ := hu.form
  by_cases hlen : ls.length = ms.length
  · rw [hlen] at hv ⊢
    have HLEN := hide9 hlen
    clear hlen hl
    have HV := hide9 hv
    have HU := hide9 hu
    clear hv hu
    go_enter Try.func24, Try.ntmps24
    go_wp2
    go_loopw [5] (fun i wr => ∃ j : Nat, j ≤ ms.length ∧ i = .int .i64 j ∧ Hid (ls.take j = ms.take j) ∧ Below w.heap.size w wr) (fun i _ => ms.length - (intOf i).toNat)
    case atStart => exact ⟨0, Nat.zero_le _, rfl, (rfl : ls.take 0 = ms.take 0), Below.refl _ _⟩
    case round =>
      obtain ⟨j, hj, rfl, HT, hB⟩ := hrel
      by_cases hltm : j < ms.length
      · have hlt : j < ls.length := by have := HLEN.out; omega
        obtain ⟨-, hc1, b1, o1, rfl, x1, hx1, hr1⟩ := (HV.out.below hB).at (List.getElem?_eq_getElem hlt)
        obtain ⟨-, hc2, b2, o2, rfl, x2, hx2, hr2⟩ := (HU.out.below hB).at (List.getElem?_eq_getElem hltm)
        have k1 := conv_RB hr1
        have k2 := conv_RB hr2
        obtain ⟨ya, yc, rfl⟩ := hr1.form
        obtain ⟨za, zc, rfl⟩ := hr2.form
        have K1 : ∀ n, (convert 27 9 (.slice ya ls[j].length yc)).run Try.prog (wr.drewN n) = .ok (.string (str ls[j])) (wr.drewN n) := fun n => conv_RB (hr1.below (below_drewN (Below.refl _ wr) n))
        have K2 : ∀ n, (convert 27 9 (.slice za ms[j].length zc)).run Try.prog (wr.drewN n) = .ok (.string (str ms[j])) (wr.drewN n) := fun n => conv_RB (hr2.below (below_drewN (Below.refl _ wr) n))
        have HX : Hid (ls.take (j + 1) = ls.take j ++ [ls[j]]) := List.take_succ_eq_append_getElem hlt
        have HY : Hid (ms.take (j + 1) = ms.take j ++ [ms[j]]) := List.take_succ_eq_append_getElem hltm
        have HG : Hid (ls = ms → ls[j] = ms[j]) := fun h => by subst h; rfl
        generalize ls[j] = x at *
        generalize ms[j] = y at *
        clear hr1 hr2 hlt
        by_cases hxy : x = y
        · subst hxy
          go_wp2
          go_quiet (fail)
          go_wp2
          have hB9 := below_drewN hB nq
          have HZ : Hid (ls.take (j + 1) = ms.take (j + 1)) := (by rw [HX.out, HY.out, HT.out] : ls.take (j + 1) = ms.take (j + 1))
          exact ⟨⟨j + 1, by omega, by go_num, HZ, hB9⟩, by simp [intOf]; omega⟩
        · have hs2 : ((str x).toList == (str y).toList) = false := by rw [str_list, str_list]; simpa using hxy
          have HE : Hid (decide (ls = ms) = false) := by
            show decide (ls = ms) = false
            exact decide_eq_false (fun h => hxy (HG.out h))
          go_wp2
          go_quiet (fail)
          go_wp2
          go_ret
          rw [HE.out]
          exact ⟨rfl, below_drewN hB nq⟩
      · have HE : Hid (decide (ls = ms) = true) := by
          show decide (ls = ms) = true
          have h1 := HT.out
          rw [List.take_of_length_le (by have := HLEN.out; omega), List.take_of_length_le (by omega)] at h1
          exact decide_eq_true h1
        go_wp2
        go_ret
        rw [HE.out]
        exact ⟨rfl, hB⟩
  · have HE : Hid (decide (ls = ms) = false) := by
      show decide (ls = ms) = false
      exact decide_eq_false (fun h => hlen (by rw [h]))
    clear hv hu
    go_enter Try.func24, Try.ntmps24
    go_wp2
    go_ret
    rw [HE.out]
    exact ⟨rfl, Below.refl _ _⟩
end Go.Proofs.Ytcjbceidgaieaaa
