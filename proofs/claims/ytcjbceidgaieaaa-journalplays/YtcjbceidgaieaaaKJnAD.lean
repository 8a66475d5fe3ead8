/- Texts laid as one. -/
import Derived.Test.YtcjbceidgaieaaaKDkAD
import Derived.Test.YtcjbceidgaieaaaKDkR2
import Derived.Test.YtcjbceidgaieaaaKJnS
/- Frames of records, and what bytes have: the contracts of number, readNumber, isRecord. -/
set_option linter.unusedVariables false
set_option linter.unusedSimpArgs false
namespace Go.Proofs.Ytcjbceidgaieaaa
open Go.RowKit
/-- A slice of one's own grew. -/
structure Gr (w : World) (v v' : Value) (w' : World) : Prop where
  own : Own (fun k => v.ownBlock = some k) w w'
  blk : ∀ k, v'.ownBlock = some k → v.ownBlock = some k ∨ w.heap.size ≤ k
theorem Gr.refl (w : World) (v : Value) : Gr w v v w := ⟨Own.refl _ _, fun k h => .inl h⟩
theorem Gr.trans {a b c : World} {u v x : Value} (h : Gr a u v b) (h2 : Gr b v x c) : Gr a u x c := ⟨h.own.trans h2.own (fun k hk => h.blk k hk), fun k hk => by
  rcases h2.blk k hk with h3 | h3
  · exact h.blk k h3
  · exact .inr (Nat.le_trans h.own.size h3)⟩
theorem Gr.of {w w' : World} {v v' : Value} (h : w.grownBy w' v.ownBlock) (hb : v'.ownBlock = v.ownBlock ∨ v'.ownBlock = some w.heap.size) : Gr w v v' w' :=
  ⟨⟨h.os, h.tape, h.output, h.size, fun k hk hn => h.block k hk (fun e => hn e.symm)⟩, fun k hk => by
    rcases hb with e | e
    · exact .inl (e ▸ hk)
    · rw [e] at hk
      cases hk
      exact .inr (Nat.le_refl _)⟩
theorem Gr.ahead {w W w' : World} {v v' : Value} (h : Gr W v v' w') (hB : Below w.heap.size w W) : Gr w v v' w' :=
  ⟨(Own.of hB).trans h.own (fun k hk => .inl hk), fun k hk => by
    rcases h.blk k hk with h3 | h3
    · exact .inl h3
    · exact .inr (Nat.le_trans hB.size h3)⟩
theorem Gr.behind {w W w' : World} {v v' : Value} (h : Gr w v v' W) (hB : Below W.heap.size W w') : Gr w v v' w' :=
  ⟨h.own.trans (Own.of hB (T := fun _ => False)) (fun k hk => hk.elim), h.blk⟩
theorem OwnsBytes.low9 {w w' : World} {B : Nat} {v : Value} {l : List UInt8} (h : OwnsBytes w B v l) (hB : Below w.heap.size w w') : OwnsBytes w' B v l := h.keep (fun k _ hk => hB.block k hk)
theorem four_cells (n : Nat) (hn : n < 4294967296) : (#[.int .u8 ((n : Int) / 16777216), .int .u8 ((n : Int) / 65536 % 256), .int .u8 ((n : Int) / 256 % 256), .int .u8 ((n : Int) % 256)] : Array Value).toList = cellsB (Jn.four n) := by
  simp [cellsB, Jn.four]
  omega
set_option maxHeartbeats 2000000 in
set_option maxRecDepth 100000 in
theorem number_any {w : World} {v : Value} {l : List UInt8} (h : OwnsBytes w 0 v l) (n : Nat) (hn : n < 4294967296) (hl : l.length ≤ 100000000) :
    Calls Try.prog 76 #[v, .int .u32 (n : Int)] w fun e w' => ∃ v', e = .returned v' ∧ OwnsBytes w' 0 v' (l ++ Jn.four n) ∧ Gr w v v' w' := by
  have hy := RB.new w (Jn.four n) _ (four_cells n hn) 5 (0, 0) 4 rfl
  have hB := alloc1 w (.cells #[.int .u8 ((n : Int) / 16777216), .int .u8 ((n : Int) / 65536 % 256), .int .u8 ((n : Int) / 256 % 256), .int .u8 ((n : Int) % 256)] 5)
  have ho := h.low9 hB
  obtain ⟨a, c, rfl⟩ := h.form
  go_enter Try.func76, Try.ntmps76
  go_wp2_with (refine wpList_append_RB rfl (.tmp 5) (.tmp 17) rfl _ _ rfl ho _ _ rfl hy (by rw [Jn.four_length]; omega) ?_; intro v' w' h1 h2 h3)
  go_ret
  exact ⟨_, rfl, h1, (Gr.of h2 h3).ahead hB⟩
theorem or_num (n : Nat) (x : UInt8) (hn : n < 16777216) : bits .or .u32 ((n : Int) * 256) (x.toNat : Int) = ((n * 256 + x.toNat : Nat) : Int) := by
  have hx := x.toNat_lt
  rw [show ((n : Int) * 256) = ((n * 256 : Nat) : Int) by omega, u32_or_nat _ _ (by omega) (by omega)]
  have := Nat.shiftLeft_add_eq_or_of_lt (i := 8) (b := x.toNat) (by omega) n
  rw [Nat.shiftLeft_eq] at this
  rw [← this]
theorem num_take (l : List UInt8) (j : Nat) (h : j < l.length) : Jn.num (l.take (j + 1)) = Jn.num (l.take j) * 256 + l[j].toNat := by
  unfold Jn.num
  rw [List.take_succ_eq_append_getElem h, List.foldl_append]
  rfl
theorem num_small (l : List UInt8) (h : l.length ≤ 3) : Jn.num l < 16777216 := by
  rcases l with _ | ⟨a, _ | ⟨b, _ | ⟨c, _ | ⟨d, l⟩⟩⟩⟩ <;> simp at h
  · decide
  all_goals
    have ha := a.toNat_lt
    try have hb := b.toNat_lt
    try have hc := c.toNat_lt
    simp only [Jn.num, List.foldl_cons, List.foldl_nil]
    omega
set_option maxHeartbeats 2000000 in
set_option maxRecDepth 100000 in
theorem read_any {w : World} {v : Value} {l : List UInt8} (hv : RB w v l) (h4 : l.length = 4) :
    Calls Try.prog 78 #[v] w fun e w' => e = .returned (.int .u32 (Jn.num l : Int)) ∧ w' = w := by
  obtain ⟨a, cp, rfl⟩ := RB.form hv
  go_enter Try.func78, Try.ntmps78
  go_wp2
  go_loopw [3, 8] (fun y i wr => ∃ j : Nat, j ≤ l.length ∧ i = .int .i64 j ∧ y = .int .u32 (Jn.num (l.take j) : Int) ∧ w = wr) (fun _ i _ => l.length - (intOf i).toNat)
  case atStart => exact ⟨0, Nat.zero_le _, rfl, rfl, rfl⟩
  case round =>
    obtain ⟨j, hj, rfl, rfl, rfl⟩ := hrel
    by_cases hlt : j < l.length
    · obtain ⟨_, hc, b, o, rfl, hcell⟩ := RB.at hv hlt
      have HC : Hid (Jn.num (l.take (j + 1)) = Jn.num (l.take j) * 256 + l[j].toNat) := num_take l j hlt
      have hs := num_small (l.take j) (by simp; omega)
      have ho := or_num (Jn.num (l.take j)) l[j] hs
      have hx := l[j].toNat_lt
      generalize l[j] = x at *
      generalize Jn.num (l.take j) = n at *
      go_wp2
      exact ⟨⟨j + 1, by omega, by go_num, congrArg (Value.int .u32) (by rw [HC.out]; omega), trivial⟩, by simp [intOf]; omega⟩
    · have hjl : l.take j = l := List.take_of_length_le (by omega)
      rw [hjl]
      go_wp2
      go_ret
      exact ⟨rfl, rfl⟩
set_option maxHeartbeats 2000000 in
set_option maxRecDepth 100000 in
theorem isRecord_any (n : Int) (w : World) :
    Calls Try.prog 57 #[.int .i64 n] w fun e w' => e = .returned (.bool (decide (1 ≤ n) && decide (n ≤ 16384))) ∧ w' = w := by
  by_cases h1 : 1 ≤ n
  · have H : Hid (decide (1 ≤ n) = true) := decide_eq_true h1
    go_enter Try.func57, Try.ntmps57
    go_wp2
    go_ret
    refine ⟨?_, rfl⟩
    rw [H.out]
    rfl
  · have H : Hid (decide (1 ≤ n) = false) := decide_eq_false h1
    go_enter Try.func57, Try.ntmps57
    go_wp2
    go_ret
    refine ⟨?_, rfl⟩
    rw [H.out]
    rfl
end Go.Proofs.Ytcjbceidgaieaaa
/- Frames of records: the contracts of frames, first and Frame. -/
set_option linter.unusedVariables false
set_option linter.unusedSimpArgs false
namespace Go.Proofs.Ytcjbceidgaieaaa
open Go.RowKit
/-- A slice reads as these slices, and these as rows of bytes. -/
structure RBx (w : World) (v : Value) (xs : List Value) (ls : List (List UInt8)) : Prop where
  len : xs.length = ls.length
  row : (∃ a c, v = .slice a 0 c ∧ ls = []) ∨ ∃ b o c, v = .slice (some ⟨b, o, none⟩) ls.length c ∧ ls.length ≤ c ∧ ∀ (j : Nat) x, xs[j]? = some x → w.cell? ⟨b, o + j, none⟩ = some x
  each : ∀ (j : Nat) x l, xs[j]? = some x → ls[j]? = some l → RB w x l
theorem RBx.below {w w' : World} {v : Value} {xs : List Value} {ls : List (List UInt8)} (h : RBx w v xs ls) (hb : Below w.heap.size w w') : RBx w' v xs ls := by
  refine ⟨h.len, ?_, fun j x l h1 h2 => (h.each j x l h1 h2).below hb⟩
  rcases h.row with h | ⟨b, o, c, rfl, hc, hr⟩
  · exact .inl h
  · exact .inr ⟨b, o, c, rfl, hc, fun j x hj => (hb.cell (p := ⟨b, o + j, none⟩) (cell_lt (hr j x hj))).trans (hr j x hj)⟩
theorem RBx.form {w : World} {v : Value} {xs : List Value} {ls : List (List UInt8)} (h : RBx w v xs ls) : ∃ a c, v = .slice a ls.length c := by
  rcases h.row with ⟨a, c, rfl, rfl⟩ | ⟨b, o, c, rfl, _, _⟩
  · exact ⟨a, c, rfl⟩
  · exact ⟨_, c, rfl⟩
theorem RBx.at {w : World} {a : Option Addr} {n c : Nat} {xs : List Value} {ls : List (List UInt8)} (h : RBx w (.slice a n c) xs ls) {j : Nat} {x : Value} (hj : xs[j]? = some x) : n = ls.length ∧ n ≤ c ∧ ∃ b o, a = some ⟨b, o, none⟩ ∧ w.cell? ⟨b, o + j, none⟩ = some x := by
  rcases h.row with ⟨a', c', he, rfl⟩ | ⟨b, o, c', he, hc, hr⟩
  · have h1 := (List.getElem?_eq_some_iff.1 hj).1
    rw [h.len] at h1
    simp at h1
  · cases he
    exact ⟨rfl, hc, b, o, rfl, hr j x hj⟩
theorem RBx.rbs {w : World} {v : Value} {xs : List Value} {ls : List (List UInt8)} (h : RBx w v xs ls) : RBs w v ls := by
  rcases h.row with h1 | ⟨b, o, c, rfl, hc, hr⟩
  · exact .inl h1
  · refine .inr ⟨b, o, c, rfl, hc, fun j l hj => ?_⟩
    have hlt : j < xs.length := by rw [h.len]; exact (List.getElem?_eq_some_iff.1 hj).1
    exact ⟨xs[j], hr j _ (List.getElem?_eq_getElem hlt), h.each j _ l (List.getElem?_eq_getElem hlt) hj⟩
theorem RBs.x {w : World} {v : Value} {ls : List (List UInt8)} (h : RBs w v ls) : ∃ xs, RBx w v xs ls := by
  rcases h with h | ⟨b, o, c, rfl, hc, hr⟩
  · obtain ⟨a, c, rfl, rfl⟩ := h
    exact ⟨[], rfl, .inl ⟨a, c, rfl, rfl⟩, fun j x l h1 => by simp at h1⟩
  · have hx : ∀ (j : Nat) x, ((List.range ls.length).map (fun j => (w.cell? ⟨b, o + j, none⟩).getD undef))[j]? = some x → j < ls.length ∧ x = (w.cell? ⟨b, o + j, none⟩).getD undef := fun j x hj => by
      rw [List.getElem?_map] at hj
      by_cases hlt : j < ls.length
      · rw [List.getElem?_range hlt] at hj
        simp at hj
        exact ⟨hlt, hj.symm⟩
      · rw [List.getElem?_eq_none (by simp; omega)] at hj
        simp at hj
    refine ⟨(List.range ls.length).map (fun j => (w.cell? ⟨b, o + j, none⟩).getD undef), by simp, .inr ⟨b, o, c, rfl, hc, fun j x hj => ?_⟩, fun j x l hj hl => ?_⟩
    · obtain ⟨hlt, rfl⟩ := hx j x hj
      obtain ⟨y, hy, _⟩ := hr j _ (List.getElem?_eq_getElem hlt)
      rw [hy]
      rfl
    · obtain ⟨hlt, rfl⟩ := hx j x hj
      obtain ⟨y, hy, hb⟩ := hr j l hl
      rw [hy]
      exact hb
/-- A row of two rows of bytes. -/
theorem RBs.two (w : World) (x y : Value) (l m : List UInt8) (h : RB w x l) (h2 : RB w y m) (e : TypeId) : RBs (w.alloc (.cells #[x, y] e)) (.slice (some ⟨w.heap.size, 0, none⟩) 2 2) [l, m] := by
  refine .inr ⟨w.heap.size, 0, 2, rfl, Nat.le_refl _, fun j z hj => ?_⟩
  rcases j with _ | _ | j
  · simp at hj
    subst hj
    exact ⟨x, by rw [Lib.cell_of_heap (heap_new w _)]; rfl, h.below (alloc1 w _)⟩
  · simp at hj
    subst hj
    exact ⟨y, by rw [Lib.cell_of_heap (heap_new w _)]; rfl, h2.below (alloc1 w _)⟩
  · simp at hj
theorem RBs.one (w : World) (x : Value) (l : List UInt8) (h : RB w x l) (e : TypeId) : RBs (w.alloc (.cells #[x] e)) (.slice (some ⟨w.heap.size, 0, none⟩) 1 1) [l] := by
  refine .inr ⟨w.heap.size, 0, 1, rfl, Nat.le_refl _, fun j z hj => ?_⟩
  rcases j with _ | j
  · simp at hj
    subst hj
    exact ⟨x, by rw [Lib.cell_of_heap (heap_new w _)]; rfl, h.below (alloc1 w _)⟩
  · simp at hj
theorem Crc_two {w : World} {x y : Value} {l m : List UInt8} (hx : RB w x l) (hy : RB w y m) (hl : l.length ≤ 1000000000) (hm : m.length ≤ 1000000000) : Calls Try.prog 77 #[.slice (some ⟨w.heap.size, 0, none⟩) 2 2] (w.alloc (.cells #[x, y] 27)) fun e w' => e = .returned (.int .u32 (Jn.crc (l ++ m) : Int)) ∧ Below w.heap.size w w' := by
  have h := Crc_any [l, m] _ _ (RBs.two w x y l m hx hy 27) (by simp) (fun q hq => by
    rcases List.mem_cons.1 hq with rfl | hq
    · exact hl
    · rcases List.mem_cons.1 hq with rfl | hq
      · exact hm
      · simp at hq)
  refine h.mono ?_
  rintro e w' ⟨rfl, hB⟩
  refine ⟨?_, bel (alloc1 w _) hB⟩
  rw [crc_of]
  simp
theorem frames_take (rs : List (List UInt8)) (j : Nat) (h : j < rs.length) : Jn.frames (rs.take (j + 1)) = Jn.frames (rs.take j) ++ Jn.frame rs[j] := by
  rw [List.take_succ_eq_append_getElem h, Jn.frames_app]
  simp [Jn.frames]
theorem frames_part (rs : List (List UInt8)) (j : Nat) : (Jn.frames (rs.take j)).length ≤ (Jn.frames rs).length := by
  have := congrArg (fun q => (Jn.frames q).length) (List.take_append_drop j rs)
  simp only [Jn.frames_app, List.length_append] at this
  omega
theorem RB.gr {w w' : World} {v v' x : Value} {l : List UInt8} (h : RB w x l) (hG : Gr w v v' w') (ha : Ap x v) : RB w' x l := h.keep (fun k e hk => hG.own.block k hk (fun e2 => ha k e e2))
theorem Gr.nil {w w' : World} {v' : Value} (h : Gr w (.slice none 0 0) v' w') : Below w.heap.size w w' := ⟨h.own.os, h.own.tape, h.own.output, h.own.size, fun k hk => h.own.block k hk (fun e => by cases e)⟩
theorem Gr.new {w w' : World} {v' : Value} (h : Gr w (.slice none 0 0) v' w') {k : Nat} (hk : v'.ownBlock = some k) : w.heap.size ≤ k := (h.blk k hk).elim (fun e => by cases e) id
theorem OwnsBytes.gen {w : World} {B : Nat} {v : Value} {l : List UInt8} (h : OwnsBytes w B v l) : ∃ L a c, Hid (L = l) ∧ v = .slice a L.length c ∧ OwnsBytes w B v L := by
  obtain ⟨a, c, e⟩ := h.form
  exact ⟨l, a, c, (rfl : l = l), e, h⟩
set_option maxHeartbeats 4000000 in
set_option maxRecDepth 100000 in
theorem frames_any {w : World} {v rv : Value} {l : List UInt8} {xs : List Value} {rs : List (List UInt8)} (h : OwnsBytes w 0 v l) (hr : ∀ w', Own (fun k => v.ownBlock = some k) w w' → RBx w' rv xs rs) (hz : ∀ r ∈ rs, r.length ≤ 1000000) (hl : l.length + (Jn.frames rs).length ≤ 10000000) :
    Calls Try.prog 58 #[v, rv] w fun e w' => ∃ v', e = .returned v' ∧ OwnsBytes w' 0 v' (l ++ Jn.frames rs) ∧ Gr w v v' w' := by
  obtain ⟨ra, rc, rfl⟩ := (hr w (Own.refl _ _)).form
  obtain ⟨va, vc, hve⟩ := h.form
  have HR := hide9 hr
  have hrl := Jn.frames_length rs
  have hlen := (hr w (Own.refl _ _)).len
  clear hr
  subst hve
  go_enter Try.func58, Try.ntmps58
  go_wp2
  go_loopw [0, 10] (fun x i wr => ∃ (j : Nat) (xv : Value) (L : List UInt8), j ≤ rs.length ∧ i = .int .i64 j ∧ x = xv ∧ Hid (L = l ++ Jn.frames (rs.take j)) ∧ OwnsBytes wr 0 xv L ∧ Gr w (.slice va l.length vc) xv wr) (fun _ i _ => rs.length - (intOf i).toNat)
  case atStart => exact ⟨0, _, l, Nat.zero_le _, rfl, rfl, (by simp [Jn.frames] : l = l ++ Jn.frames (rs.take 0)), h, Gr.refl _ _⟩
  case round =>
    obtain ⟨j, xv, L, hj, rfl, rfl, HL, hO, hG⟩ := hrel
    by_cases hlt : j < rs.length
    · have hxj : xs[j]? = some xs[j] := List.getElem?_eq_getElem (by omega)
      have hrj : rs[j]? = some rs[j] := List.getElem?_eq_getElem hlt
      have hR0 := HR.out _ hG.own
      obtain ⟨_, hc, b, o, rfl, hcell⟩ := hR0.at hxj
      have HX : Hid (∀ W u, Gr w (.slice va l.length vc) u W → RB W xs[j] rs[j]) := fun W u hW => (HR.out W hW.own).each j _ _ hxj hrj
      have hr0 := HX.out _ _ hG
      have hz9 := hz _ (List.getElem_mem hlt)
      have HF : Hid (Jn.frames (rs.take (j + 1)) = Jn.frames (rs.take j) ++ Jn.frame rs[j]) := frames_take rs j hlt
      have hp : L.length + 8 + rs[j].length ≤ 10000000 := by
        have hp1 := frames_part rs (j + 1)
        have := congrArg List.length HL.out
        rw [HF.out, List.length_append, Jn.frame_length] at hp1
        rw [List.length_append] at this
        omega
      generalize xs[j] = xr at *
      generalize rs[j] = r at *
      obtain ⟨ya, yc, rfl⟩ := hr0.form
      obtain ⟨xa, xc, rfl⟩ := hO.form
      have C1 := number_any (OwnsBytes.nil wr 0) r.length (by omega) (by simp)
      have HG := hide9 hG
      have HO := hide9 hO
      clear hR0 HR hG hO hr0 h
      go_wp2_with (first
        | (go_at_call 76; refine C1.mono ?_; rintro e w1 ⟨hv1, rfl, ho1, hg1⟩; have ho2 := HO.out.low9 hg1.nil; obtain ⟨L1, a1, c1, H1, rfl, ho1⟩ := ho1.gen; have hl1 : L1.length ≤ 4 := (by rw [H1.out]; simp [Jn.four_length]); clear C1)
        | (refine wpList_append_RB rfl (.tmp 18) (.tmp 19) rfl _ _ rfl ho2 _ _ rfl ho1.reads (by omega) ?_; intro v3 w3 h31 h32 h33; have g3 := Gr.of h32 h33; have r3 := ho1.reads.gr g3 (fun k e1 e2 => by have := hg1.new e1; have := (HO.out.lt e2).2; omega); obtain ⟨L3, a3, c3, H3, rfl, o3⟩ := h31.gen; have hl3 : L3.length ≤ L.length + 4 := (by rw [H3.out, List.length_append]; omega); have hg3 := HG.out.trans ((Gr.refl _ _).behind hg1.nil |>.trans g3); have C3 := Crc_two r3 (HX.out _ _ hg3) (by omega) (by omega); clear h31 h32 h33)
        | (go_at_call 77; refine C3.mono ?_; rintro e w4 ⟨rfl, hB4⟩; have C4 := number_any (o3.low9 hB4) (Jn.crc (L1 ++ r)) (Jn.crc_lt _) (by omega); clear C3)
        | (go_at_call 76; refine C4.mono ?_; rintro e w5 ⟨v5, rfl, ho5, hg5⟩; obtain ⟨L5, a5, c5, H5, rfl, ho5⟩ := ho5.gen; have hl5 : L5.length ≤ L.length + 8 := (by rw [H5.out, List.length_append, Jn.four_length]; omega); have hg6 := (hg3.behind hB4).trans hg5; clear C4)
        | (refine wpList_append_RB rfl (.tmp 27) (.tmp 28) rfl _ _ rfl ho5 _ _ rfl (HX.out _ _ hg6) (by omega) ?_; intro v7 w7 h71 h72 h73))
      refine ⟨⟨j + 1, _, _, by omega, by go_num, rfl, ?_, h71, hg6.trans (Gr.of h72 h73)⟩, by simp [intOf]; omega⟩
      show L5 ++ r = _
      rw [H5.out, H3.out, HL.out, H1.out, HF.out]
      simp [Jn.frame]
    · have hjl : rs.take j = rs := List.take_of_length_le (by omega)
      rw [hjl] at HL
      go_wp2
      go_ret
      exact ⟨_, rfl, by rw [← HL.out]; exact hO, hG⟩
end Go.Proofs.Ytcjbceidgaieaaa
/- The contract of first. -/
set_option linter.unusedVariables false
set_option linter.unusedSimpArgs false
namespace Go.Proofs.Ytcjbceidgaieaaa
open Go.RowKit
theorem Jn.isRec_iff (l : List UInt8) : (decide (1 ≤ (l.length : Int)) && decide ((l.length : Int) ≤ 16384)) = true ↔ Jn.isRec l := by
  unfold Jn.isRec
  simp
  omega
set_option maxHeartbeats 4000000 in
set_option maxRecDepth 100000 in
theorem first_any {w : World} {v : Value} {l : List UInt8} (hv : RB w v l) (hl : l.length ≤ 1000000000) :
    Calls Try.prog 61 #[v] w fun e w' => ∃ u, e = .returned (.tuple #[u, .bool (Jn.first l).isSome]) ∧ (∀ r, Jn.first l = some r → RB w u r) ∧ Below w.heap.size w w' := by
  obtain ⟨a, cp, rfl⟩ := RB.form hv
  by_cases h8 : l.length < 8
  · have HE : Hid (Jn.first l = none) := by
      show Jn.first l = none
      unfold Jn.first
      rw [if_pos h8]
    go_enter Try.func61, Try.ntmps61
    go_wp2
    go_ret2
    rw [HE.out]
    exact ⟨_, rfl, fun r hr => (by cases hr), Below.refl _ _⟩
  · obtain ⟨s1, q1⟩ := cut_to hv 4 (by omega)
    obtain ⟨ma, mc, s2, q2⟩ := cut_mid hv 4 8 (by omega) (by omega)
    obtain ⟨na, nc, s3, q3, _⟩ := cut_from hv 8 (by omega)
    have s1 : ∀ W', (Instr.slice 27 (.slice a l.length cp) none (some (.int .i64 4)) none).run Try.prog W' = .ok (.slice a 4 cp) W' := s1
    have s2 : ∀ W', (Instr.slice 27 (.slice a l.length cp) (some (.int .i64 4)) (some (.int .i64 8)) none).run Try.prog W' = .ok (.slice ma 4 mc) W' := s2
    have s3 : ∀ W', (Instr.slice 27 (.slice a l.length cp) (some (.int .i64 8)) none none).run Try.prog W' = .ok (.slice na (l.length - 8) nc) W' := s3
    obtain ⟨m, HM⟩ : ∃ m, Hid (m = l.length - 8) := ⟨_, rfl⟩
    rw [← HM.out] at s3 q3
    obtain ⟨n, HN⟩ : ∃ n, Hid (n = Jn.num (l.take 4)) := ⟨_, rfl⟩
    have C1 : ∀ W, Below w.heap.size w W → Calls Try.prog 78 #[.slice a 4 cp] W fun e w' => e = .returned (.int .u32 (n : Int)) ∧ w' = W := fun W hW => by rw [HN.out]; exact read_any (q1.below hW) (by simp; omega)
    have hn32 : n < 4294967296 := by rw [HN.out]; exact Jn.num_lt _ (by simp; omega)
    have C2 := isRecord_any (n : Int)
    have HE : Hid (Jn.first l = if n < 1 ∨ 16384 < n ∨ m < n then none else if Jn.num ((l.drop 4).take 4) = Jn.crc (l.take 4 ++ (l.drop 8).take n) then some ((l.drop 8).take n) else none) := by
      show Jn.first l = _
      unfold Jn.first
      rw [if_neg h8, ← HN.out, ← HM.out]
    by_cases hr : 1 ≤ n ∧ n ≤ 16384
    · rw [show (decide (1 ≤ (n : Int)) && decide ((n : Int) ≤ 16384)) = true by simp; omega] at C2
      by_cases hb : n ≤ m
      · obtain ⟨s4, q4⟩ := cut_to q3 n (by rw [List.length_drop, ← HM.out]; exact hb)
        have C3 : ∀ W, Below w.heap.size w W → Calls Try.prog 78 #[.slice ma 4 mc] W fun e w' => e = .returned (.int .u32 (Jn.num ((l.drop 4).take 4) : Int)) ∧ w' = W := fun W hW => read_any (q2.below hW) (by simp; omega)
        have C4 : ∀ W B, Below w.heap.size w W → B = W.heap.size → Calls Try.prog 77 #[.slice (some ⟨B, 0, none⟩) 2 2] (W.alloc (.cells #[.slice a 4 cp, .slice na n nc] 27)) fun e w' => e = .returned (.int .u32 (Jn.crc (l.take 4 ++ (l.drop 8).take n) : Int)) ∧ Below W.heap.size W w' := fun W B hW e => by rw [e]; exact Crc_two (q1.below hW) (q4.below hW) (by simp; omega) (by simp; omega)
        rw [if_neg (by omega)] at HE
        have hx : Jn.num ((l.drop 4).take 4) < 4294967296 := Jn.num_lt _ (by simp; omega)
        have hy := Jn.crc_lt (l.take 4 ++ (l.drop 8).take n)
        generalize Jn.num ((l.drop 4).take 4) = x at *
        generalize Jn.crc (l.take 4 ++ (l.drop 8).take n) = y at *
        have H4 := hide9 q4
        replace C1 := hide9 C1
        replace C2 := hide9 C2
        replace C3 := hide9 C3
        replace C4 := hide9 C4
        clear q1 q2 q3 q4 hv
        go_enter Try.func61, Try.ntmps61
        go_wp2
        go_quiet (fail)
        have hB := below_drewN (Below.refl w.heap.size w) nq
        generalize w.drewN nq = W at *
        clear s1 s2 s3
        go_wp2_with (first
          | (go_at_call 78; refine (C1.out _ hB).mono ?_; rintro e w2 ⟨rfl, he⟩; replace he := he.symm; subst he; clear C1)
          | (go_at_call 57; refine (C2.out _).mono ?_; rintro e w3 ⟨rfl, he⟩; replace he := he.symm; subst he)
          | (go_at_call 78; refine (C3.out _ hB).mono ?_; rintro e w4 ⟨rfl, he⟩; replace he := he.symm; subst he)
          | (go_at_call 77; refine (C4.out _ _ hB rfl).mono ?_; rintro e w5 ⟨rfl, hB5⟩))
        go_ret2
        rw [HE.out]
        by_cases hxy : x = y
        · subst hxy
          rw [if_pos rfl]
          refine ⟨.slice na n nc, by simp, fun r hr => ?_, bel hB hB5⟩
          cases hr
          exact H4.out
        · rw [if_neg hxy]
          refine ⟨.slice na n nc, by simp; omega, fun r hr => (by cases hr), bel hB hB5⟩
      · rw [if_pos (by omega)] at HE
        replace C1 := hide9 C1
        replace C2 := hide9 C2
        clear q1 q2 q3 hv
        go_enter Try.func61, Try.ntmps61
        go_wp2
        go_quiet (fail)
        have hB := below_drewN (Below.refl w.heap.size w) nq
        generalize w.drewN nq = W at *
        clear s1 s2 s3
        go_wp2_with (first
          | (go_at_call 78; refine (C1.out _ hB).mono ?_; rintro e w2 ⟨rfl, he⟩; replace he := he.symm; subst he; clear C1)
          | (go_at_call 57; refine (C2.out _).mono ?_; rintro e w3 ⟨rfl, he⟩; replace he := he.symm; subst he))
        go_ret2
        rw [HE.out]
        exact ⟨_, rfl, fun r hr => (by cases hr), hB⟩
    · rw [show (decide (1 ≤ (n : Int)) && decide ((n : Int) ≤ 16384)) = false by simp; omega] at C2
      rw [if_pos (by omega)] at HE
      replace C1 := hide9 C1
      replace C2 := hide9 C2
      clear q1 q2 q3 hv
      go_enter Try.func61, Try.ntmps61
      go_wp2
      go_quiet (fail)
      have hB := below_drewN (Below.refl w.heap.size w) nq
      generalize w.drewN nq = W at *
      clear s1 s2 s3
      go_wp2_with (first
        | (go_at_call 78; refine (C1.out _ hB).mono ?_; rintro e w2 ⟨rfl, he⟩; replace he := he.symm; subst he; clear C1)
        | (go_at_call 57; refine (C2.out _).mono ?_; rintro e w3 ⟨rfl, he⟩; replace he := he.symm; subst he))
      go_ret2
      rw [HE.out]
      exact ⟨_, rfl, fun r hr => (by cases hr), hB⟩
end Go.Proofs.Ytcjbceidgaieaaa
/- Records of one's own; the contracts of Scan and Frame. -/
set_option linter.unusedVariables false
set_option linter.unusedSimpArgs false
namespace Go.Proofs.Ytcjbceidgaieaaa
open Go.RowKit
namespace Jn
theorem scanF_more (k : Nat) (l : List UInt8) (h : l.length ≤ k) : scanF k l = scan l := by
  obtain ⟨t, e, ht, ha⟩ := scanF_spec k l h
  generalize scanF k l = q at *
  rw [e, scan_frames q t ha ht]
theorem scan_none {l : List UInt8} (h : first l = none) : scan l = [] := by
  have := scan_frames [] l (fun r hr => by simp at hr) h
  simpa [frames] using this
theorem scan_some {l r : List UInt8} (h : first l = some r) : scan l = r :: scan (l.drop (8 + r.length)) := by
  have h1 := (first_some h).2.2
  have h2 : scan l = scanF (l.length + 1) l := (scanF_more _ l (by omega)).symm
  rw [h2, scanF, h]
  show r :: scanF l.length (l.drop (8 + r.length)) = _
  rw [scanF_more _ _ (by rw [List.length_drop]; omega)]
end Jn
theorem row_keep {w w' : World} {B : Nat} {e : TypeId} {s n : Nat} {v : Value} {xs : List Value} (h : w.ownsRow B e s v n xs) (hk : ∀ k, v.ownBlock = some k → k < w.heap.size → w'.heap[k]? = w.heap[k]?) : w'.ownsRow B e s v n xs := by
  refine ⟨h.1, ?_⟩
  rcases h.2 with hn | ⟨g, cap, cur, rfl, hb, hgg, rest⟩
  · exact .inl hn
  · exact .inr ⟨g, cap, cur, rfl, hb, by rw [hk g rfl (Array.getElem?_eq_some_iff.1 hgg).1]; exact hgg, rest⟩
/-- A row of rows of bytes of one's own, from block B on. -/
structure OR' (w : World) (B : Nat) (v : Value) (rs : List (List UInt8)) (xs : List Value) : Prop where
  len : xs.length = rs.length
  row : w.ownsRow B 27 1 v rs.length xs
  each : ∀ (j : Nat) x r, xs[j]? = some x → rs[j]? = some r → OwnsBytes w B x r ∧ Ap x v
def OR (w : World) (B : Nat) (v : Value) (rs : List (List UInt8)) : Prop := ∃ xs, OR' w B v rs xs
theorem OR.nil (w : World) (B : Nat) : OR w B (.slice none 0 0) [] := ⟨[], rfl, World.ownsRow_nil _ _ _ _, fun j x r h => by simp at h⟩
theorem OR.keep {w w' : World} {B : Nat} {v : Value} {rs : List (List UInt8)} (h : OR w B v rs) (hk : ∀ k, B ≤ k → k < w.heap.size → w'.heap[k]? = w.heap[k]?) : OR w' B v rs := by
  obtain ⟨xs, h⟩ := h
  refine ⟨xs, h.len, row_keep h.row (fun k e hl => hk k (World.ownsRow.lt h.row k e).1 hl), fun j x r h1 h2 => ⟨?_, (h.each j x r h1 h2).2⟩⟩
  have := (h.each j x r h1 h2).1
  exact this.keep (fun k e hl => hk k (this.lt e).1 hl)
theorem OR.below {w w' : World} {B : Nat} {v : Value} {rs : List (List UInt8)} (h : OR w B v rs) (hB : Below w.heap.size w w') : OR w' B v rs := h.keep (fun k _ hk => hB.block k hk)
theorem OR.form {w : World} {B : Nat} {v : Value} {rs : List (List UInt8)} (h : OR w B v rs) : ∃ a c, v = .slice a rs.length c := by
  obtain ⟨xs, h⟩ := h
  rcases h.row.2 with ⟨rfl, hz⟩ | ⟨g, cap, cur, rfl, _⟩
  · exact ⟨none, 0, by rw [hz]⟩
  · exact ⟨_, _, rfl⟩
theorem OR.rbs {w : World} {B : Nat} {v : Value} {rs : List (List UInt8)} (h : OR w B v rs) : RBs w v rs := by
  obtain ⟨xs, h⟩ := h
  have h0 := h.row
  rcases h.row.2 with ⟨rfl, hz⟩ | ⟨g, cap, cur, rfl, _, hg, hc, _⟩
  · exact .inl ⟨_, _, rfl, List.eq_nil_of_length_eq_zero hz⟩
  · refine .inr ⟨g, 0, cap, rfl, hc, fun j r hj => ?_⟩
    have hlt : j < rs.length := (List.getElem?_eq_some_iff.1 hj).1
    have := World.ownsRow.cellAt (w := w) (base := B) (e := 27) (size := 1) (g := g) (cap := cap) (n := rs.length) (xs := xs) h0 j (by omega)
    have hxl : j < xs.length := by rw [h.len]; exact hlt
    have hxj : xs[j]? = some xs[j] := List.getElem?_eq_getElem hxl
    exact ⟨xs[j], by rw [Nat.zero_add, this, hxj], (h.each j _ r hxj hj).1.reads⟩
theorem infoSl : (Try.prog.info? 27).map (fun i => (i.zero, i.size, i.bytes)) = some (some (.slice none 0 0), 1, 24) := by kernel_rfl
theorem slice_one {w : World} {B : Nat} {x : Value} {r : List UInt8} (h : OwnsBytes w B x r) : x.oneCell' = true := by
  obtain ⟨a, c, rfl⟩ := h.form
  rfl
/-- One further record. -/
theorem run_append_rec (w : World) (ty : TypeId) (B : Nat) (v : Value) (rs : List (List UInt8)) (h : OR w B v rs) (g c : Nat) (x : Value) (r : List UInt8) (hx : w.cell? ⟨g, 0, none⟩ = some x) (ho : OwnsBytes w B x r) (hap : Ap x v) (hlen : rs.length ≤ 10000000) (hB : B ≤ w.heap.size) :
    ∃ v' w', (Builtin.append_ #[38, 38] ty #[v, .slice (some ⟨g, 0, none⟩) 1 c]).run Try.prog w = .ok v' w' ∧ OR w' B v' (rs ++ [r]) ∧ w.grownBy w' v.ownBlock := by
  obtain ⟨i0, hi, hz0, hz1, hz2⟩ := info_parts infoSl
  obtain ⟨xs, h⟩ := h
  obtain ⟨v', w', h1, h2, h3, _, h5⟩ := run_append_own_at (P := Try.prog) w B 38 ty 27 i0 (.slice none 0 0) 1 24 Try.underlying38 hi hz0 hz1 hz2 rfl (by decide) v _ _ h.row ⟨g, 0, none⟩ 1 c [x] rfl (fun j u hj => by
    rcases j with _ | j
    · simp at hj
      subst hj
      rw [add_addr]
      exact hx
    · simp at hj) (fun u hu => by simp at hu; subst hu; exact slice_one ho) (by unfold maxLen; omega) (by omega) hB
  have hk : ∀ y q, OwnsBytes w B y q → Ap y v → OwnsBytes w' B y q ∧ Ap y v' := fun y q hy ha => ⟨hy.keep (fun k e hl => h3.block k hl (fun e2 => ha k e e2.symm)), fun k e1 e2 => by
    rcases h5 with e | e
    · exact ha k e1 (by rw [← e]; exact e2)
    · rw [e] at e2
      cases e2
      have := (hy.lt e1).2
      omega⟩
  refine ⟨v', w', h1, ⟨xs ++ [x], by simp [h.len], by rw [List.length_append]; exact h2, fun j y q hj hq => ?_⟩, h3⟩
  by_cases hlt : j < rs.length
  · rw [List.getElem?_append_left (by rw [h.len]; exact hlt)] at hj
    rw [List.getElem?_append_left hlt] at hq
    exact hk y q (h.each j y q hj hq).1 (h.each j y q hj hq).2
  · have hje : j = rs.length := by
      have := (List.getElem?_eq_some_iff.1 hq).1
      simp at this
      omega
    subst hje
    rw [List.getElem?_append_right (by rw [h.len]; exact Nat.le_refl _), h.len] at hj
    rw [List.getElem?_append_right (Nat.le_refl _)] at hq
    simp at hj hq
    subst hj
    subst hq
    exact hk x r ho hap
theorem wpList_append_rec {w : World} {ops : Array Oper} {rest : List Oper} {o : Oper} {a : Act} {Q : Exit → Act → World → Prop} (hgd : o.guard = none) (s x : Operand)
    (ho : o.op = .call { callee := .builtin .append, args := #[s, x], argTypes := #[38, 38] }) (B : Nat) (v : Value) (rs : List (List UInt8)) (hs : a.eval s = v) (hown : OR w B v rs) (g c : Nat) (hx : a.eval x = .slice (some ⟨g, 0, none⟩) 1 c) (y : Value) (r : List UInt8) (hg : w.cell? ⟨g, 0, none⟩ = some y) (hy : OwnsBytes w B y r) (hap : Ap y v) (hlen : rs.length ≤ 10000000) (hB : B ≤ w.heap.size)
    (h : ∀ v' w', OR w' B v' (rs ++ [r]) → w.grownBy w' v.ownBlock → wpList Try.prog ops Q rest (a.put o.dst v') w') : wpList Try.prog ops Q (o :: rest) a w :=
  wpList_plain hgd fun _ hK => by
    obtain ⟨v', w', hr, h2, h3⟩ := run_append_rec w o.type B v rs hown g c y r hg hy hap hlen hB
    unfold Oper.wp execOp
    simp only [ho, resolve, invoke, builtin, Sem.run_bind, Sem.run_pure, Result.andThen_ok, List.map_toArray, List.map_cons, List.map_nil, hs, hx, hr]
    exact hK _ _ (h v' w' h2 h3)
theorem box_at9 (w : World) (v : Value) (t : TypeId) : (w.alloc (.cells #[v] t)).cell? ⟨w.heap.size, 0, none⟩ = some v := by rw [Lib.cell_of_heap (heap_new w _)]; rfl
theorem OR.at_base {w : World} {B : Nat} {v : Value} {rs : List (List UInt8)} (h : OR w B v rs) {k : Nat} (hk : v.ownBlock = some k) : B ≤ k ∧ k < w.heap.size := by
  obtain ⟨xs, h⟩ := h
  exact World.ownsRow.lt h.row k hk
set_option maxHeartbeats 4000000 in
set_option maxRecDepth 100000 in
theorem Scan_any {w : World} {v : Value} {l : List UInt8} (hv : RB w v l) (hl : l.length ≤ 1100000) :
    Calls Try.prog 32 #[v] w fun e w' => ∃ u, e = .returned (.tuple #[u, .int .i64 ((Jn.frames (Jn.scan l)).length : Int)]) ∧ OR w' w.heap.size u (Jn.scan l) ∧ Below w.heap.size w w' := by
  obtain ⟨a, cp, rfl⟩ := RB.form hv
  have HV := hide9 hv
  clear hv
  go_enter Try.func32, Try.ntmps32
  go_wp2
  go_loopw [4, 5] (fun x s wr => ∃ (rs : List (List UInt8)) (xv : Value) (n : Nat), x = xv ∧ s = .int .i64 n ∧ Hid (Jn.scan l = rs ++ Jn.scan (l.drop n)) ∧ n ≤ l.length ∧ Hid (n = (Jn.frames rs).length) ∧ OR wr w.heap.size xv rs ∧ Below w.heap.size w wr) (fun _ s _ => l.length - (intOf s).toNat)
  case atStart => exact ⟨[], _, 0, rfl, rfl, (rfl : Jn.scan l = [] ++ Jn.scan (l.drop 0)), Nat.zero_le _, (rfl : 0 = (Jn.frames []).length), OR.nil _ _, Below.refl _ _⟩
  case round =>
    obtain ⟨rs, xv, n, rfl, rfl, HS, hn, HN, hO, hB⟩ := hrel
    obtain ⟨ma, mc, s1, q1, _⟩ := cut_from (HV.out.below hB) n hn
    have hdl : (l.drop n).length = l.length - n := List.length_drop
    obtain ⟨m, HM⟩ : ∃ m, Hid (m = l.length - n) := ⟨_, rfl⟩
    rw [← HM.out] at s1 q1
    have hrl : rs.length ≤ n := by rw [HN.out]; exact Jn.frames_length rs
    have C1 := first_any q1 (by omega)
    have HO := hide9 hO
    have HB := hide9 hB
    obtain ⟨xa, xc, rfl⟩ := hO.form
    clear hO hB
    cases hf : Jn.first (l.drop n) with
    | none =>
      have HE : Hid (Jn.scan l = rs) := by
        show Jn.scan l = rs
        rw [HS.out, Jn.scan_none hf, List.append_nil]
      rw [hf] at C1
      clear hf hdl q1
      go_wp2_with (go_at_call 61; refine C1.mono ?_; rintro e w1 ⟨u, rfl, _, hB1⟩)
      go_ret2
      rw [HE.out, ← HN.out]
      exact ⟨_, rfl, HO.out.below hB1, bel HB.out hB1⟩
    | some r =>
      obtain ⟨f1, _, f3⟩ := Jn.first_some hf
      rw [hdl] at f3
      have HE : Hid (Jn.scan l = (rs ++ [r]) ++ Jn.scan (l.drop (n + (8 + r.length)))) := by
        show Jn.scan l = _
        rw [HS.out, Jn.scan_some hf, List.drop_drop, List.append_assoc]
        rfl
      have HF : Hid (n + (8 + r.length) = (Jn.frames (rs ++ [r])).length) := by
        show n + (8 + r.length) = _
        rw [Jn.frames_app, List.length_append, ← HN.out]
        simp [Jn.frames, Jn.frame_length]
      have hr9 := f1.2
      rw [hf] at C1
      have HQ := hide9 (fun r (hr : (some r : Option (List UInt8)) = some r) => hr)
      clear hf hdl q1 f1
      go_wp2_with (first
        | (go_at_call 61; refine C1.mono ?_; rintro e w1 ⟨u, rfl, hu, hB1⟩; have hu1 := (hu r rfl).below hB1; obtain ⟨ua, uc, rfl⟩ := hu1.form; have C2 := Clone_any hu1 (by omega); clear hu hu1 C1)
        | (go_at_call 56; refine C2.mono ?_; rintro e w2 ⟨u2, rfl, ho2, hB2⟩; have hO2 := HO.out.below (bel hB1 hB2); obtain ⟨ya, yc, rfl⟩ := ho2.form; clear C2)
        | (refine wpList_append_rec rfl (.tmp 19) (.tmp 22) rfl w.heap.size _ _ rfl (hO2.below (alloc1 w2 _)) w2.heap.size _ rfl _ r (box_at9 w2 _ _) ((ho2.base (fun k e => Nat.le_trans (Nat.le_trans HB.out.size hB1.size) (ho2.lt e).1)).low9 (alloc1 w2 _)) (fun k e1 e2 => by have := (HO.out.at_base e2).2; have := (ho2.lt e1).1; have := hB1.size; omega) (by omega) (by rw [size_alloc]; have := HB.out.size; have := hB1.size; have := hB2.size; omega) ?_; intro v3 w3 h31 h32))
      refine ⟨⟨rs ++ [r], _, n + (8 + r.length), rfl, by go_num, HE, by omega, HF, h31, ?_⟩, by simp [intOf]; omega⟩
      have hB9 := bel (bel HB.out hB1) hB2
      exact (hB9.alloc hB9.size _).grown h32 (by rw [size_alloc]; have := hB9.size; omega) (fun k hk => (HO.out.at_base hk).1)
theorem own_nil {w w' : World} (h : Own (fun k => (Value.slice none 0 0).ownBlock = some k) w w') : Below w.heap.size w w' := ⟨h.os, h.tape, h.output, h.size, fun k hk => h.block k hk (fun e => by cases e)⟩
set_option maxHeartbeats 2000000 in
set_option maxRecDepth 100000 in
theorem Frame_yes {w : World} {v : Value} {l : List UInt8} (hv : RB w v l) (h : Jn.isRec l) :
    Calls Try.prog 30 #[v] w fun e w' => ∃ u, e = .returned (.tuple #[u, .int .i64 0]) ∧ OwnsBytes w' w.heap.size u (Jn.frame l) ∧ Below w.heap.size w w' := by
  obtain ⟨a, c, rfl⟩ := hv.form
  obtain ⟨h1, h2⟩ := h
  obtain ⟨xs, hx⟩ := (RBs.one w _ l hv 27).x
  have C1 := isRecord_any (l.length : Int)
  rw [show (decide (1 ≤ (l.length : Int)) && decide ((l.length : Int) ≤ 16384)) = true by simp; omega] at C1
  have C2 := frames_any (OwnsBytes.nil (w.alloc (.cells #[.slice a l.length c] 27)) 0) (fun w' hO => hx.below (own_nil hO)) (fun r hr => by simp at hr; subst hr; omega) (by simp [Jn.frames, Jn.frame_length]; omega)
  replace C1 := hide9 C1
  clear hx hv
  go_enter Try.func30, Try.ntmps30
  go_wp2_with (first
    | (go_at_call 57; refine (C1.out _).mono ?_; rintro e w3 ⟨rfl, he⟩; replace he := he.symm; subst he)
    | (go_at_call 58; refine C2.mono ?_; rintro e w4 ⟨u, rfl, ho, hg⟩))
  go_ret2
  refine ⟨_, rfl, ?_, bel (alloc1 w _) hg.nil⟩
  rw [show [] ++ Jn.frames [l] = Jn.frame l by simp [Jn.frames]] at ho
  exact ho.base (fun k hk => by have := hg.new hk; rw [size_alloc] at this; omega)
set_option maxHeartbeats 2000000 in
set_option maxRecDepth 100000 in
theorem Frame_no {w : World} {v : Value} {l : List UInt8} (hv : RB w v l) (hl : l.length ≤ maxLen) (h : ¬ Jn.isRec l) :
    Calls Try.prog 30 #[v] w fun e w' => e = .returned (.tuple #[.slice none 0 0, .int .i64 1]) ∧ w' = w := by
  obtain ⟨a, c, rfl⟩ := hv.form
  have C1 := isRecord_any (l.length : Int)
  rw [show (decide (1 ≤ (l.length : Int)) && decide ((l.length : Int) ≤ 16384)) = false by unfold Jn.isRec at h; simp; omega] at C1
  replace C1 := hide9 C1
  unfold maxLen at hl
  clear hv h
  go_enter Try.func30, Try.ntmps30
  go_wp2_with (go_at_call 57; refine (C1.out _).mono ?_; rintro e w3 ⟨rfl, he⟩; replace he := he.symm; subst he)
  go_ret2
  exact ⟨rfl, rfl⟩
end Go.Proofs.Ytcjbceidgaieaaa
