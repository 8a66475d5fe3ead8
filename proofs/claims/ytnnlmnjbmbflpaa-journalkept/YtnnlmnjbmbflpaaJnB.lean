/- Frames of records: the contracts of frames, first and Frame. -/
import Derived.Test.YtnnlmnjbmbflpaaJnA
set_option linter.unusedVariables false
set_option linter.unusedSimpArgs false
namespace Go.Proofs.Ytnnlmnjbmbflpaa
open Go.RowKit
/-- A slice reads as these slices, and these as rows of bytes. -/
structure RBx (w : World) (v : Value) (xs : List Value) (ls : List (List UInt8)) : Prop where
  len : xs.length = ls.length
  row : (∃ a c, v = .slice a 0 c ∧ ls = []) ∨ ∃ b o c, v = .slice (some ⟨b, o, none⟩) ls.length c ∧ ls.length ≤ c ∧ ∀ (j : Nat) x, xs[j]? = some x → w.cell? ⟨b, o + j, none⟩ = some x
  each : ∀ (j : Nat) x l, xs[j]? = some x → ls[j]? = some l → RB w x l
theorem RBx.below {w w' : World} {v : Value} {xs : List Value} {ls : List (List UInt8)} (h : RBx w v xs ls) (hb : Below w.heap.size w w') : RBx w' v xs ls := by
  refine ⟨h.len, ?_, fun j x l h1 h2 => (h.each j x l h1 h2).below hb⟩
  rcases h.row with h | ⟨b, o, c, rfl, hc, hr⟩
  · exact .inl h
  · exact .inr ⟨b, o, c, rfl, hc, fun j x hj => (hb.cell (p := ⟨b, o + j, none⟩) (cell_lt (hr j x hj))).trans (hr j x hj)⟩
theorem RBx.form {w : World} {v : Value} {xs : List Value} {ls : List (List UInt8)} (h : RBx w v xs ls) : ∃ a c, v = .slice a ls.length c := by
  rcases h.row with ⟨a, c, rfl, rfl⟩ | ⟨b, o, c, rfl, _, _⟩
  · exact ⟨a, c, rfl⟩
  · exact ⟨_, c, rfl⟩
theorem RBx.at {w : World} {a : Option Addr} {n c : Nat} {xs : List Value} {ls : List (List UInt8)} (h : RBx w (.slice a n c) xs ls) {j : Nat} {x : Value} (hj : xs[j]? = some x) : n = ls.length ∧ n ≤ c ∧ ∃ b o, a = some ⟨b, o, none⟩ ∧ w.cell? ⟨b, o + j, none⟩ = some x := by
  rcases h.row with ⟨a', c', he, rfl⟩ | ⟨b, o, c', he, hc, hr⟩
  · have h1 := (List.getElem?_eq_some_iff.1 hj).1
    rw [h.len] at h1
    simp at h1
  · cases he
    exact ⟨rfl, hc, b, o, rfl, hr j x hj⟩
theorem RBx.rbs {w : World} {v : Value} {xs : List Value} {ls : List (List UInt8)} (h : RBx w v xs ls) : RBs w v ls := by
  rcases h.row with h1 | ⟨b, o, c, rfl, hc, hr⟩
  · exact .inl h1
  · refine .inr ⟨b, o, c, rfl, hc, fun j l hj => ?_⟩
    have hlt : j < xs.length := by rw [h.len]; exact (List.getElem?_eq_some_iff.1 hj).1
    exact ⟨xs[j], hr j _ (List.getElem?_eq_getElem hlt), h.each j _ l (List.getElem?_eq_getElem hlt) hj⟩
theorem RBs.x {w : World} {v : Value} {ls : List (List UInt8)} (h : RBs w v ls) : ∃ xs, RBx w v xs ls := by
  rcases h with h | ⟨b, o, c, rfl, hc, hr⟩
  · obtain ⟨a, c, rfl, rfl⟩ := h
    exact ⟨[], rfl, .inl ⟨a, c, rfl, rfl⟩, fun j x l h1 => by simp at h1⟩
  · have hx : ∀ (j : Nat) x, ((List.range ls.length).map (fun j => (w.cell? ⟨b, o + j, none⟩).getD undef))[j]? = some x → j < ls.length ∧ x = (w.cell? ⟨b, o + j, none⟩).getD undef := fun j x hj => by
      rw [List.getElem?_map] at hj
      by_cases hlt : j < ls.length
      · rw [List.getElem?_range hlt] at hj
        simp at hj
        exact ⟨hlt, hj.symm⟩
      · rw [List.getElem?_eq_none (by simp; omega)] at hj
        simp at hj
    refine ⟨(List.range ls.length).map (fun j => (w.cell? ⟨b, o + j, none⟩).getD undef), by simp, .inr ⟨b, o, c, rfl, hc, fun j x hj => ?_⟩, fun j x l hj hl => ?_⟩
    · obtain ⟨hlt, rfl⟩ := hx j x hj
      obtain ⟨y, hy, _⟩ := hr j _ (List.getElem?_eq_getElem hlt)
      rw [hy]
      rfl
    · obtain ⟨hlt, rfl⟩ := hx j x hj
      obtain ⟨y, hy, hb⟩ := hr j l hl
      rw [hy]
      exact hb
/-- A row of two rows of bytes. -/
theorem RBs.two (w : World) (x y : Value) (l m : List UInt8) (h : RB w x l) (h2 : RB w y m) (e : TypeId) : RBs (w.alloc (.cells #[x, y] e)) (.slice (some ⟨w.heap.size, 0, none⟩) 2 2) [l, m] := by
  refine .inr ⟨w.heap.size, 0, 2, rfl, Nat.le_refl _, fun j z hj => ?_⟩
  rcases j with _ | _ | j
  · simp at hj
    subst hj
    exact ⟨x, by rw [Lib.cell_of_heap (heap_new w _)]; rfl, h.below (alloc1 w _)⟩
  · simp at hj
    subst hj
    exact ⟨y, by rw [Lib.cell_of_heap (heap_new w _)]; rfl, h2.below (alloc1 w _)⟩
  · simp at hj
theorem RBs.one (w : World) (x : Value) (l : List UInt8) (h : RB w x l) (e : TypeId) : RBs (w.alloc (.cells #[x] e)) (.slice (some ⟨w.heap.size, 0, none⟩) 1 1) [l] := by
  refine .inr ⟨w.heap.size, 0, 1, rfl, Nat.le_refl _, fun j z hj => ?_⟩
  rcases j with _ | j
  · simp at hj
    subst hj
    exact ⟨x, by rw [Lib.cell_of_heap (heap_new w _)]; rfl, h.below (alloc1 w _)⟩
  · simp at hj
theorem Crc_two {w : World} {x y : Value} {l m : List UInt8} (hx : RB w x l) (hy : RB w y m) (hl : l.length ≤ 1000000000) (hm : m.length ≤ 1000000000) : Calls Try.prog 87 #[.slice (some ⟨w.heap.size, 0, none⟩) 2 2] (w.alloc (.cells #[x, y] 27)) fun e w' => e = .returned (.int .u32 (Jn.crc (l ++ m) : Int)) ∧ Below w.heap.size w w' := by
  have h := Crc_any [l, m] _ _ (RBs.two w x y l m hx hy 27) (by simp) (fun q hq => by
    rcases List.mem_cons.1 hq with rfl | hq
    · exact hl
    · rcases List.mem_cons.1 hq with rfl | hq
      · exact hm
      · simp at hq)
  refine h.mono ?_
  rintro e w' ⟨rfl, hB⟩
  refine ⟨?_, bel (alloc1 w _) hB⟩
  rw [crc_of]
  simp
theorem frames_take (rs : List (List UInt8)) (j : Nat) (h : j < rs.length) : Jn.frames (rs.take (j + 1)) = Jn.frames (rs.take j) ++ Jn.frame rs[j] := by
  rw [List.take_succ_eq_append_getElem h, Jn.frames_app]
  simp [Jn.frames]
theorem frames_part (rs : List (List UInt8)) (j : Nat) : (Jn.frames (rs.take j)).length ≤ (Jn.frames rs).length := by
  have := congrArg (fun q => (Jn.frames q).length) (List.take_append_drop j rs)
  simp only [Jn.frames_app, List.length_append] at this
  omega
theorem RB.gr {w w' : World} {v v' x : Value} {l : List UInt8} (h : RB w x l) (hG : Gr w v v' w') (ha : Ap x v) : RB w' x l := h.keep (fun k e hk => hG.own.block k hk (fun e2 => ha k e e2))
theorem Gr.nil {w w' : World} {v' : Value} (h : Gr w (.slice none 0 0) v' w') : Below w.heap.size w w' := ⟨h.own.os, h.own.tape, h.own.output, h.own.size, fun k hk => h.own.block k hk (fun e => by cases e)⟩
theorem Gr.new {w w' : World} {v' : Value} (h : Gr w (.slice none 0 0) v' w') {k : Nat} (hk : v'.ownBlock = some k) : w.heap.size ≤ k := (h.blk k hk).elim (fun e => by cases e) id
theorem OwnsBytes.gen {w : World} {B : Nat} {v : Value} {l : List UInt8} (h : OwnsBytes w B v l) : ∃ L a c, Hid (L = l) ∧ v = .slice a L.length c ∧ OwnsBytes w B v L := by
  obtain ⟨a, c, e⟩ := h.form
  exact ⟨l, a, c, (rfl : l = l), e, h⟩
set_option maxHeartbeats 4000000 in
set_option maxRecDepth 100000 in
theorem frames_any {w : World} {v rv : Value} {l : List UInt8} {xs : List Value} {rs : List (List UInt8)} (h : OwnsBytes w 0 v l) (hr : ∀ w', Own (fun k => v.ownBlock = some k) w w' → RBx w' rv xs rs) (hz : ∀ r ∈ rs, r.length ≤ 1000000) (hl : l.length + (Jn.frames rs).length ≤ 10000000) :
    Calls Try.prog 64 #[v, rv] w fun e w' => ∃ v', e = .returned v' ∧ OwnsBytes w' 0 v' (l ++ Jn.frames rs) ∧ Gr w v v' w' := by
  obtain ⟨ra, rc, rfl⟩ := (hr w (Own.refl _ _)).form
  obtain ⟨va, vc, hve⟩ := h.form
  have HR := hide9 hr
  have hrl := Jn.frames_length rs
  have hlen := (hr w (Own.refl _ _)).len
  clear hr
  subst hve
  go_enter Try.func64, Try.ntmps64
  go_wp2
  go_loopw [0, 10] (fun x i wr => ∃ (j : Nat) (xv : Value) (L : List UInt8), j ≤ rs.length ∧ i = .int .i64 j ∧ x = xv ∧ Hid (L = l ++ Jn.frames (rs.take j)) ∧ OwnsBytes wr 0 xv L ∧ Gr w (.slice va l.length vc) xv wr) (fun _ i _ => rs.length - (intOf i).toNat)
  case atStart => exact ⟨0, _, l, Nat.zero_le _, rfl, rfl, (by simp [Jn.frames] : l = l ++ Jn.frames (rs.take 0)), h, Gr.refl _ _⟩
  case round =>
    obtain ⟨j, xv, L, hj, rfl, rfl, HL, hO, hG⟩ := hrel
    by_cases hlt : j < rs.length
    · have hxj : xs[j]? = some xs[j] := List.getElem?_eq_getElem (by omega)
      have hrj : rs[j]? = some rs[j] := List.getElem?_eq_getElem hlt
      have hR0 := HR.out _ hG.own
      obtain ⟨_, hc, b, o, rfl, hcell⟩ := hR0.at hxj
      have HX : Hid (∀ W u, Gr w (.slice va l.length vc) u W → RB W xs[j] rs[j]) := fun W u hW => (HR.out W hW.own).each j _ _ hxj hrj
      have hr0 := HX.out _ _ hG
      have hz9 := hz _ (List.getElem_mem hlt)
      have HF : Hid (Jn.frames (rs.take (j + 1)) = Jn.frames (rs.take j) ++ Jn.frame rs[j]) := frames_take rs j hlt
      have hp : L.length + 8 + rs[j].length ≤ 10000000 := by
        have hp1 := frames_part rs (j + 1)
        have := congrArg List.length HL.out
        rw [HF.out, List.length_append, Jn.frame_length] at hp1
        rw [List.length_append] at this
        omega
      generalize xs[j] = xr at *
      generalize rs[j] = r at *
      obtain ⟨ya, yc, rfl⟩ := hr0.form
      obtain ⟨xa, xc, rfl⟩ := hO.form
      have C1 := number_any (OwnsBytes.nil wr 0) r.length (by omega) (by simp)
      have HG := hide9 hG
      have HO := hide9 hO
      clear hR0 HR hG hO hr0 h
      go_wp2_with (first
        | (go_at_call 86; refine C1.mono ?_; rintro e w1 ⟨hv1, rfl, ho1, hg1⟩; have ho2 := HO.out.low9 hg1.nil; obtain ⟨L1, a1, c1, H1, rfl, ho1⟩ := ho1.gen; have hl1 : L1.length ≤ 4 := (by rw [H1.out]; simp [Jn.four_length]); clear C1)
        | (refine wpList_append_RB rfl (.tmp 18) (.tmp 19) rfl _ _ rfl ho2 _ _ rfl ho1.reads (by omega) ?_; intro v3 w3 h31 h32 h33; have g3 := Gr.of h32 h33; have r3 := ho1.reads.gr g3 (fun k e1 e2 => by have := hg1.new e1; have := (HO.out.lt e2).2; omega); obtain ⟨L3, a3, c3, H3, rfl, o3⟩ := h31.gen; have hl3 : L3.length ≤ L.length + 4 := (by rw [H3.out, List.length_append]; omega); have hg3 := HG.out.trans ((Gr.refl _ _).behind hg1.nil |>.trans g3); have C3 := Crc_two r3 (HX.out _ _ hg3) (by omega) (by omega); clear h31 h32 h33)
        | (go_at_call 87; refine C3.mono ?_; rintro e w4 ⟨rfl, hB4⟩; have C4 := number_any (o3.low9 hB4) (Jn.crc (L1 ++ r)) (Jn.crc_lt _) (by omega); clear C3)
        | (go_at_call 86; refine C4.mono ?_; rintro e w5 ⟨v5, rfl, ho5, hg5⟩; obtain ⟨L5, a5, c5, H5, rfl, ho5⟩ := ho5.gen; have hl5 : L5.length ≤ L.length + 8 := (by rw [H5.out, List.length_append, Jn.four_length]; omega); have hg6 := (hg3.behind hB4).trans hg5; clear C4)
        | (refine wpList_append_RB rfl (.tmp 27) (.tmp 28) rfl _ _ rfl ho5 _ _ rfl (HX.out _ _ hg6) (by omega) ?_; intro v7 w7 h71 h72 h73))
      refine ⟨⟨j + 1, _, _, by omega, by go_num, rfl, ?_, h71, hg6.trans (Gr.of h72 h73)⟩, by simp [intOf]; omega⟩
      show L5 ++ r = _
      rw [H5.out, H3.out, HL.out, H1.out, HF.out]
      simp [Jn.frame]
    · have hjl : rs.take j = rs := List.take_of_length_le (by omega)
      rw [hjl] at HL
      go_wp2
      go_ret
      exact ⟨_, rfl, by rw [← HL.out]; exact hO, hG⟩
end Go.Proofs.Ytnnlmnjbmbflpaa
