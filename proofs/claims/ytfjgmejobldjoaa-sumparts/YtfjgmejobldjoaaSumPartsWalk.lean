/- The walk of the law SumParts, out of the contracts. -/
import Derived.Test.YtfjgmejobldjoaaSumArgs2
import Derived.Test.YtfjgmejobldjoaaSumF
import Derived.Deep.CutBlock
set_option linter.unusedVariables false
set_option linter.unusedSimpArgs false
namespace Go.Proofs.Ytfjgmejobldjoaa.sumParts
open Go.RowKit
theorem conv_RB {W : World} {v : Value} {l : List UInt8} (h : RB W v l) : (convert 22 9 v).run Try.prog W = .ok (.string (str l)) W := by
  rcases h with ⟨a, c, rfl, he, _⟩ | ⟨b, o, c, rfl, _, hr⟩
  · have : l = [] := List.eq_nil_of_length_eq_zero (by rw [← cellsB_length, he]; rfl)
    subst this
    cases a with
    | none => exact run_convert_bytes_nil (P := Try.prog) W 22 5 Try.underlying22 Try.underlying5 0 c 9 Try.underlying9
    | some a => exact run_convert_bytes_back (P := Try.prog) W 22 9 5 a c [] Try.underlying22 Try.underlying5 Try.underlying9 (fun j hj => by simp at hj)
  · rw [cellsB_length]
    refine run_convert_bytes_back (P := Try.prog) W 22 9 5 ⟨b, o, none⟩ c l Try.underlying22 Try.underlying5 Try.underlying9 (fun j hj => ?_)
    rw [add_addr]
    exact hr j _ (cellsB_at l j hj)
/-- Rows of other types are others. -/
theorem apart {w : World} {B B' e e' s s' : Nat} {v v' : Value} {n n' : Nat} {xs xs' : List Value} (h : w.ownsRow B e s v n xs) (h' : w.ownsRow B' e' s' v' n' xs') (he : e ≠ e') : v.ownBlock = none ∨ v.ownBlock ≠ v'.ownBlock := by
  rcases h.2 with ⟨rfl, _⟩ | ⟨g, cap, cur, rfl, _, hg, _⟩
  · exact .inl rfl
  · right
    rcases h'.2 with ⟨rfl, _⟩ | ⟨g', cap', cur', rfl, _, hg', _⟩
    · simp [Value.ownBlock]
    · intro hh
      simp only [Value.ownBlock, Option.some.injEq] at hh
      subst hh
      rw [hg] at hg'
      simp only [Option.some.injEq, Obj.cells.injEq] at hg'
      exact he hg'.2.1
theorem apartS {w : World} {B e s b : Nat} {v x0 x1 : Value} {n : Nat} {xs : List Value} (h : w.ownsRow B e s v n xs) (hS : SAt w b x0 x1) (he : e ≠ 28) : v.ownBlock ≠ some b := by
  rcases h.2 with ⟨rfl, _⟩ | ⟨g, cap, cur, rfl, _, hg, _⟩
  · simp [Value.ownBlock]
  · intro hh
    simp only [Value.ownBlock, Option.some.injEq] at hh
    subst hh
    unfold SAt at hS
    rw [hg] at hS
    simp only [Option.some.injEq, Obj.cells.injEq] at hS
    exact he hS.2.1
theorem grown_S {w w' : World} {b : Nat} {x0 x1 : Value} {row : Option Nat} (hS : SAt w b x0 x1) (hG : w.grownBy w' row) (h : row ≠ some b) : SAt w' b x0 x1 := hS.keep (hG.block b hS.lt (fun e => h e.symm))
theorem RBs_take {w : World} {a : Option Addr} {c : Nat} {ls : List (List UInt8)} (h : RBs w (.slice a ls.length c) ls) : RBs w (.slice a (min ls.length 30) c) (ls.take 30) := by
  rcases h with ⟨a', c', he, rfl⟩ | ⟨b, o, c', he, hc, hr⟩
  · exact .inl ⟨a, c, rfl, rfl⟩
  · cases he
    refine .inr ⟨b, o, c, by rw [List.length_take, Nat.min_comm], by rw [List.length_take]; omega, fun j l hj => hr j l ?_⟩
    rw [List.getElem?_take] at hj
    split at hj
    · exact hj
    · cases hj
theorem start_S {w : World} {b : Nat} (h : SAt w b (.int .u32 0) (.int .u64 0)) : SAt w b (.int .u32 ((Sm.crcL F (([] : List (List UInt8)).take 0).flatten ^^^ F).toNat : Int)) (.int .u64 ((Sm.markL G (([] : List (List UInt8)).take 0).flatten ^^^ G).toNat : Int)) := h
theorem grown_set {w : World} {b : Nat} {cs : Array Value} : w.grownBy (w.setRow b cs) (some b) := ⟨rfl, rfl, rfl, by simp [World.setRow], fun k _ hne => by
  have : ¬ b = k := fun e => hne (by rw [e])
  simp [World.setRow, Array.getElem?_modify, this]⟩
theorem ownsRow_below {w w' : World} {B : Nat} {e : TypeId} {size n : Nat} {v : Value} {xs : List Value} (h : w.ownsRow B e size v n xs) (hb : Below w.heap.size w w') : w'.ownsRow B e size v n xs := by
  rcases h with ⟨h1, h2⟩
  refine ⟨h1, ?_⟩
  rcases h2 with h2 | ⟨g, cap, cur, rfl, hg1, hg2, hr⟩
  · exact .inl h2
  · exact .inr ⟨g, cap, cur, rfl, hg1, (hb.block g (Array.getElem?_eq_some_iff.1 hg2).1).trans hg2, hr⟩
theorem flat_len (ts : List (List UInt8)) : (flat ts).length = ts.flatten.length + ts.length := by
  unfold flat
  induction ts with
  | nil => rfl
  | cons t ts ih => simp at *; omega
theorem infoS : (Try.prog.info? 9).map (fun i => (i.zero, i.size, i.bytes)) = some (some (.string ⟨#[]⟩), 1, 16) := by kernel_rfl
set_option maxHeartbeats 2000000 in
set_option maxRecDepth 100000 in
theorem walk (v0 : Value) (ls : List (List UInt8)) (w : World) (h0 : ArgBB w v0 ls) :
    Calls Try.prog 4 #[v0] w fun e w' => e = .returned (.bool true) ∧ Below w.heap.size w w' := by
  obtain ⟨hv, hl, hls⟩ := h0
  unfold maxLen at hl
  obtain ⟨a0, cp, rfl⟩ := hv.form
  have HV : Hid (RBs w (.slice a0 ls.length cp) ls) := hv
  have hcp : ls.length ≤ cp ∨ ls.length = 0 := by
    rcases hv with ⟨_, _, _, h⟩ | ⟨_, _, _, h, h2, _⟩
    · right; rw [h]; rfl
    · left; cases h; exact h2
  go_enter Try.func4, Try.ntmps4
  go_upto_region 4 with (go_at_call 8; refine (New_any _).mono ?_; rintro e w1 ⟨rfl, hB1⟩)
  have hB2 : Below w.heap.size w (w1.alloc (.cells #[.int .u32 0, .int .u64 0] 28)) := hB1.alloc hB1.size _
  have hS2 : SAt (w1.alloc (.cells #[.int .u32 0, .int .u64 0] 28)) w1.heap.size (.int .u32 0) (.int .u64 0) := heap_new w1 _
  have hb5 : w.heap.size ≤ w1.heap.size := hB1.size
  generalize w1.alloc (.cells #[.int .u32 0, .int .u64 0] 28) = w2 at *
  generalize w1.heap.size = b5 at *
  go_cut [13, 14, 15] from 9 to 15 (fun s13 s14 s15 w' => ∃ a c, s13 = Value.slice a (min ls.length 30) c ∧ s14 = Value.int .i64 ((min ls.length 30 : Nat) : Int) ∧ s15 = Value.int .i64 0 ∧ RBs w (Value.slice a (min ls.length 30) c) (ls.take 30) ∧ w2 = w')
  case first =>
    have hcp' : ls.length ≤ cp := by rcases hcp with h | h <;> omega
    cases a0 with
    | none =>
      go_wp2_with fail
      all_goals go_meet
      all_goals exact ⟨none, cp, by congr 1; omega, by congr 1; omega, rfl, RBs_take HV.out, rfl⟩
    | some a =>
      obtain ⟨b, o, sp⟩ := a
      go_wp2_with fail
      all_goals go_meet
      all_goals exact ⟨some ⟨b, o, sp⟩, cp, by congr 1; omega, by congr 1; omega, rfl, RBs_take HV.out, rfl⟩
  case rest =>
    obtain ⟨a, c, rfl, rfl, rfl, hq, rfl⟩ := hcut
    have HQ : Hid (RBs w (.slice a (min ls.length 30) c) (ls.take 30)) := hq
    clear hq
    obtain ⟨n, HN⟩ : ∃ n, Hid (n = min ls.length 30) := ⟨_, rfl⟩
    rw [← HN.out] at HQ ⊢
    obtain ⟨qs, HS⟩ : ∃ qs, Hid (qs = ls.take 30) := ⟨_, rfl⟩
    rw [← HS.out] at HQ
    have hqn : qs.length = n := by rw [HS.out, HN.out, List.length_take, Nat.min_comm]
    have hn30 : n ≤ 30 := by rw [HN.out]; omega
    have hqm : ∀ q ∈ qs, q.length ≤ maxLen := fun q hq => hls q (by rw [HS.out] at hq; exact List.mem_of_mem_take hq)
    go_wp2_with fail
    go_loopw [3, 4, 15] (fun x y i wr => ∃ j : Nat, j ≤ n ∧ i = .int .i64 j ∧ OwnsBytes wr w.heap.size x (qs.take j).flatten ∧ wr.ownsRow w.heap.size 9 1 y j (cellsS (qs.take j)) ∧ SAt wr b5 (.int .u32 ((Sm.crcL F (qs.take j).flatten ^^^ F).toNat : Int)) (.int .u64 ((Sm.markL G (qs.take j).flatten ^^^ G).toNat : Int)) ∧ (qs.take j).flatten.length ≤ 6000 ∧ (∀ q ∈ qs.take j, q.length ≤ 3000) ∧ Below w.heap.size w wr) (fun _ _ i _ => n - (intOf i).toNat)
    case atStart => exact ⟨0, Nat.zero_le _, rfl, OwnsBytes.nil _ _, World.ownsRow_nil _ _ _ _, start_S hS2, by simp, by simp, hB2⟩
    case round =>
      obtain ⟨j, hj, rfl, hO3, hO4, hS, hf, hq3, hB⟩ := hrel
      by_cases hlt : j < n
      · have hjq : j < qs.length := by rw [hqn]; exact hlt
        obtain ⟨hnq, hc, b, o, rfl, xv, hcell0, hx0⟩ := HQ.out.at (List.getElem?_eq_getElem hjq)
        clear hnq
        have hcell := (hB.cell (p := ⟨b, o + j, none⟩) (cell_lt hcell0)).trans hcell0
        have hqm' := hqm _ (List.getElem_mem hjq)
        have HT : Hid (qs.take (j + 1) = qs.take j ++ [qs[j]]) := List.take_succ_eq_append_getElem hjq
        have HX0 : Hid (RB w xv qs[j]) := hx0
        have cl := long_any qs[j] xv wr (ReadsCells.below hx0 hB) hqm'
        obtain ⟨xa, xc, hxf⟩ := RB.form hx0
        clear hx0 hcell0
        by_cases h3 : 3000 < qs[j].length
        · rw [decide_eq_true h3] at cl
          generalize qs[j] = q at *
          subst hxf
          go_wp2_with (first
            | (go_at_call 6; refine cl.mono ?_; rintro e w3 ⟨rfl, he⟩; replace he := he.symm; subst he)
            | (go_at_call 7; refine (alive8_any wr).mono ?_; rintro e w4 ⟨rfl, hB4⟩))
          go_ret
          exact ⟨rfl, bel hB hB4⟩
        · rw [decide_eq_false h3] at cl
          obtain ⟨ya, yc, hyf⟩ := RB.form hO3.reads
          by_cases h4 : 3000 < (qs.take j).flatten.length
          · generalize qs[j] = q at *
            generalize (qs.take j).flatten = f at *
            subst hxf hyf
            go_wp2_with (first
              | (go_at_call 6; refine cl.mono ?_; rintro e w3 ⟨rfl, he⟩; replace he := he.symm; subst he)
              | (go_at_call 7; refine (alive8_any wr).mono ?_; rintro e w4 ⟨rfl, hB4⟩))
            go_ret
            exact ⟨rfl, bel hB hB4⟩
          · have HF : Hid ((qs.take (j + 1)).flatten = (qs.take j).flatten ++ qs[j]) := by
              show (qs.take (j + 1)).flatten = _
              rw [HT.out, List.flatten_append]
              simp
            have HSS : Hid (cellsS (qs.take (j + 1)) = cellsS (qs.take j) ++ [.string (str qs[j])]) := by
              show cellsS (qs.take (j + 1)) = _
              rw [HT.out]
              unfold cellsS
              rw [List.map_append]
              rfl
            have ca := fun W (h : RB W xv qs[j]) => Add_any (Sm.crcL F (qs.take j).flatten ^^^ F) (Sm.markL G (qs.take j).flatten ^^^ G) qs[j] xv W h (by omega)
            have HA : Hid (addS (Sm.crcL F (qs.take j).flatten ^^^ F) (Sm.markL G (qs.take j).flatten ^^^ G) qs[j] = sv (Sm.crcL F (qs.take (j + 1)).flatten ^^^ F) (Sm.markL G (qs.take (j + 1)).flatten ^^^ G)) := by
              show addS _ _ _ = _
              unfold addS
              rw [back32, back64, HF.out, Sm.crcL_app, Sm.markL_app]
            have hq4 : ∀ q ∈ qs.take (j + 1), q.length ≤ 3000 := by
              rw [HT.out]
              intro q hq
              rcases List.mem_append.1 hq with h | h
              · exact hq3 q h
              · simp at h; subst h; omega
            rw [HA.out] at ca
            obtain ⟨c2, HC2⟩ : ∃ c2, Hid (Sm.crcL F (qs.take (j + 1)).flatten ^^^ F = c2) := ⟨_, rfl⟩
            obtain ⟨m2, HM2⟩ : ∃ m2, Hid (Sm.markL G (qs.take (j + 1)).flatten ^^^ G = m2) := ⟨_, rfl⟩
            rw [HC2.out, HM2.out] at ca
            have CA : Hid _ := ca
            have HQ4 : Hid _ := hq4
            clear ca hq4 HA hq3 hqm hls
            generalize (qs.take j).flatten = f at *
            generalize Sm.crcL F f ^^^ F = c1 at *
            generalize Sm.markL G f ^^^ G = m1 at *
            generalize qs[j] = q at *
            obtain ⟨i0, hi, hz0, hz1, hz2⟩ := info_parts infoS
            subst hxf hyf
            go_wp2_with (first
              | (go_at_call 6; refine cl.mono ?_; rintro e w3 ⟨rfl, he⟩; replace he := he.symm; subst he)
              | ((with_reducible show wpList _ _ _ ({ op := Op.call { callee := Callee.builtin Builtin.append, args := _, argTypes := #[22, 22] }, .. } :: _) _ _); refine wpList_append_RB rfl _ _ rfl w.heap.size _ f rfl hO3 _ q rfl (ReadsCells.below HX0.out hB) (by omega) hB.size ?_; intro v3 w4 hO3' hG4; have hB4 := hB.grown hG4 hB.size (fun k hk => (World.ownsRow.lt hO3 k hk).1); have hO4' := World.ownsRow.kept hO4 hG4 (apart hO4 hO3 (by decide)); have hS4 := grown_S hS hG4 (apartS hO3 hS (by decide)); have hcv := conv_RB (ReadsCells.below HX0.out hB4))
              | (at_builtin; refine wpList_append_own _ rfl _ _ 38 rfl w.heap.size 9 i0 (.string ⟨#[]⟩) 1 16 Try.underlying38 hi hz0 hz1 hz2 rfl (by decide) _ _ _ rfl (World.ownsRow.alloc hO4' _) ⟨w4.heap.size, 0, none⟩ 1 1 [.string (str q)] rfl rfl (cell_one_new _ _ _) (fun x hx => by simp at hx; subst hx; rfl) (by unfold maxLen; omega) (by omega) (by have := hB4.size; simp; omega) ?_; intro v4 w6 hO4'' hG6 _; have hB6 := (hB4.alloc hB4.size (.cells #[.string (str q)] 9)).grown hG6 (by have := hB4.size; simp; omega) (fun k hk => (World.ownsRow.lt hO4' k hk).1); have hO3'' := World.ownsRow.kept (World.ownsRow.alloc hO3' (.cells #[.string (str q)] 9)) hG6 (apart (World.ownsRow.alloc hO3' (.cells #[.string (str q)] 9)) (World.ownsRow.alloc hO4' (.cells #[.string (str q)] 9)) (by decide)); have hS6 := grown_S (SAt.below hS4 ((Below.refl _ _).alloc (Nat.le_refl _) (.cells #[.string (str q)] 9))) hG6 (apartS (World.ownsRow.alloc hO4' (.cells #[.string (str q)] 9)) (SAt.below hS4 ((Below.refl _ _).alloc (Nat.le_refl _) (.cells #[.string (str q)] 9))) (by decide)))
              | ((with_reducible show wpList _ _ _ ({ op := Op.load 28 _, .. } :: _) _ _); refine wpList_load_S _ rfl rfl _ _ _ rfl hS6 ?_)
              | (go_at_call 9; refine (CA.out _ (ReadsCells.below HX0.out hB6)).mono ?_; rintro e w7 ⟨rfl, hB7⟩; have hS7 := SAt.below hS6 hB7)
              | ((with_reducible show wpList _ _ _ ({ op := Op.store 28 _ _, .. } :: _) _ _); refine wpList_store_S _ _ rfl rfl _ _ _ rfl rfl hS7 ⟨rfl, rfl⟩ ?_))
            refine ⟨⟨j + 1, by omega, by go_num, ?_, ?_, ?_, ?_, HQ4.out, below_setRow (bel hB6 hB7) hb5⟩, by simp [intOf]; omega⟩
            · rw [HF.out]
              exact World.ownsRow.kept (ownsRow_below hO3'' hB7) grown_set (Or.inr (apartS (ownsRow_below hO3'' hB7) hS7 (by decide)))
            · rw [HSS.out]
              exact World.ownsRow.kept (ownsRow_below hO4'' hB7) grown_set (Or.inr (apartS (ownsRow_below hO4'' hB7) hS7 (by decide)))
            · rw [HC2.out, HM2.out]
              exact setRow_S hS7 _ _
            · rw [HF.out, List.length_append]
              omega
      · have hjn : j = n := by omega
        subst hjn
        have hall : qs.take j = qs := List.take_of_length_le (by omega)
        rw [hall] at hO3 hO4 hS hf hq3
        by_cases h30 : 30 < ls.length
        · have h30' : (30 : Int) < ls.length := by omega
          clear hO3 hO4 hS hf hq3 hqm hls
          go_wp2_with (go_at_call 7; refine (alive8_any wr).mono ?_; rintro e w4 ⟨rfl, hB4⟩)
          go_ret
          exact ⟨rfl, bel hB hB4⟩
        · have hqs : qs = ls := by rw [HS.out, List.take_of_length_le (by omega)]
          subst hqs
          have h30' : ¬ (30 : Int) < qs.length := by omega
          have hz3 : ∀ q ∈ qs, q.length ≤ 1000000000 := fun q hq => by have := hq3 q hq; omega
          have d1 := fun W (h : RBs W (.slice a0 qs.length cp) qs) => Crc_any qs _ W h (by omega) hz3
          obtain ⟨ya, yc, hyf⟩ := RB.form hO3.reads
          have d2 := fun W v (h : RB W v qs.flatten) => RCrc_any qs.flatten v W h (by omega)
          have d3 := fun W => SCrc_any (Sm.crcL F qs.flatten ^^^ F) (Sm.markL G qs.flatten ^^^ G) W
          have d4 := fun W => SMark_any (Sm.crcL F qs.flatten ^^^ F) (Sm.markL G qs.flatten ^^^ G) W
          have d5 := fun W v (h : RB W v qs.flatten) => RMark_any qs.flatten v W h (by omega)
          rw [back64] at d4
          have hrs : ReadsCells wr u4 (cellsS qs) := by
            have h := hO4
            rw [← hqn] at h
            exact owns_reads (by rw [cellsS_length]; exact h)
          have d6 := fun W (h : ReadsCells W u4 (cellsS qs)) => Mark_any qs u4 W h (by omega) hz3
          have d7 := fun W (h : ReadsCells W u4 (cellsS qs)) => Marks_any qs u4 W h (by omega) (by rw [flat_len]; omega)
          have hrb := hO3.reads
          have hst := str_list (Sm.hexA 16 (Sm.markL G (flat qs)).toNat [])
          have HRB : Hid (RB wr u3 qs.flatten) := hrb
          have HRS : Hid (ReadsCells wr u4 (cellsS qs)) := hrs
          clear hrb hrs hO3 hO4 hz3 hq3 hf hqm hls HQ hyf
          generalize Sm.crcL F qs.flatten ^^^ F = c1 at *
          generalize Sm.markL G qs.flatten ^^^ G = m1 at *
          generalize Sm.markL G qs.flatten = m2 at *
          generalize Sm.hexA 16 (Sm.markL G (flat qs)).toNat [] = tx at *
          have D1 : Hid _ := d1
          have D2 : Hid _ := d2
          have D3 : Hid _ := d3
          have D4 : Hid _ := d4
          have D5 : Hid _ := d5
          have D6 : Hid _ := d6
          have D7 : Hid _ := d7
          clear d1 d2 d3 d4 d5 d6 d7 hqn hall hl hcp hn30 hb5 hB1 hB2 hS2 h30 hlt hj HN HS
          go_wp2_with (first
            | (go_at_call 16; refine (D1.out wr (RBs.below HV.out hB)).mono ?_; rintro e x1 ⟨rfl, hB3⟩; have hS3 := SAt.below hS hB3; have q0 := hS3.c0; have q1 := hS3.c1)
            | (go_at_call 11; (with_reducible show Calls _ _ _ x1 _); refine (D2.out x1 _ (ReadsCells.below HRB.out hB3)).mono ?_; rintro e x2 ⟨rfl, he⟩; replace he := he.symm; subst he)
            | (go_at_call 10; refine (D3.out x1).mono ?_; rintro e x3 ⟨rfl, hB4⟩; have hB5 := bel hB3 hB4; have hS5 := SAt.below hS hB5; have r0 := hS5.c0; have r1 := hS5.c1)
            | (go_at_call 11; (with_reducible show Calls _ _ _ x3 _); refine (D2.out x3 _ (ReadsCells.below HRB.out hB5)).mono ?_; rintro e x4 ⟨rfl, he⟩; replace he := he.symm; subst he)
            | (go_at_call 12; refine (D4.out x3).mono ?_; rintro e x5 ⟨rfl, hB6⟩; have hB7 := bel hB5 hB6)
            | (go_at_call 13; refine (D5.out x5 _ (ReadsCells.below HRB.out hB7)).mono ?_; rintro e x6 ⟨rfl, he⟩; replace he := he.symm; subst he)
            | (go_at_call 17; refine (D6.out x5 (ReadsCells.below HRS.out hB7)).mono ?_; rintro e x7 ⟨rfl, hB8⟩; have hB9 := bel hB7 hB8)
            | (go_at_call 18; refine (D7.out x7 (ReadsCells.below HRS.out hB9)).mono ?_; rintro e x8 ⟨rfl, hB10⟩; have hB11 := bel hB9 hB10)
            | (go_at_call 7; refine (alive8_any x8).mono ?_; rintro e x9 ⟨rfl, hB12⟩; have hB13 := bel hB11 hB12))
          go_ret
          exact ⟨rfl, bel hB hB13⟩
end Go.Proofs.Ytfjgmejobldjoaa.sumParts
