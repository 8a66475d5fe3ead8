/- The walk of UrlPaths: whatever text comes in, the law answers true. -/
import Derived.Test.YtlkhjloeonbjaaaGreatDoorKUrlB
namespace Go.Proofs.YtlkhjloeonbjaaaGreatDoor.urlPaths
open Go.RowKit
theorem sst_mono (b : UInt8) (l r : List UInt8) : ∀ x ∈ (Asc.sst b l).1, x ∈ (Asc.sst b (l ++ r)).1 := by
  refine Asc.snoc_ind (P := fun r => ∀ x ∈ (Asc.sst b l).1, x ∈ (Asc.sst b (l ++ r)).1) ?_ ?_ r
  · intro x hx
    rw [List.append_nil]
    exact hx
  · intro r c ih x hx
    rw [← List.append_assoc, Asc.sst_snoc]
    unfold Asc.sstep
    split
    · exact List.mem_append.2 (.inl (ih x hx))
    · exact ih x hx
theorem part_cut (q : List UInt8) (k : Nat) (h : k < q.length) (hb : q[k] = 47) : (Asc.sst 47 (q.take k)).2 ∈ Asc.split q 47 := by
  have e : Asc.sst 47 (q.take (k + 1)) = ((Asc.sst 47 (q.take k)).1 ++ [(Asc.sst 47 (q.take k)).2], []) := by
    rw [Asc.sst_next 47 q k h, Asc.sstep, if_pos hb]
  have hm : (Asc.sst 47 (q.take k)).2 ∈ (Asc.sst 47 (q.take (k + 1))).1 := by rw [e]; simp
  have := sst_mono 47 (q.take (k + 1)) (q.drop (k + 1)) _ hm
  rw [List.take_append_drop] at this
  unfold Asc.split
  exact List.mem_append.2 (.inl this)
theorem part_end (q : List UInt8) : (Asc.sst 47 (q.take q.length)).2 ∈ Asc.split q 47 := by
  rw [List.take_length]
  unfold Asc.split
  simp
theorem no_dots {t : List UInt8} (h : Url.dots t = 0) : ¬ t = [46] ∧ ¬ t = [46, 46] := by
  constructor
  · rintro rfl
    exact absurd h (by decide)
  · rintro rfl
    exact absurd h (by decide)
theorem path_parts (l : List UInt8) : ∃ q, Url.path l = 47 :: q ∧ (∀ t ∈ Asc.split q 47, ¬ t = [46] ∧ ¬ t = [46, 46]) := by
  refine ⟨_, rfl, fun t ht => no_dots ?_⟩
  rw [Pct.split_join 47 _ (fun t ht c hc => ((Url.kept_bytes l t ht).2 c hc).1) (Url.kept_ne _ (Url.pparts_ne l))] at ht
  exact (Url.kept_bytes l t ht).1
set_option maxHeartbeats 4000000 in
set_option maxRecDepth 100000 in
theorem walk_str (l : List UInt8) (w : World) (hE : Env w) :
    Calls Tryz.prog 7 #[.string (str l)] w fun e w' => e = .returned (.bool true) ∧ Below w.heap.size w w' := by
  by_cases hl : 2200 < l.length
  · have hq := longU_yes hl
    go_enter Tryz.func7, Tryz.ntmps7
    go_wp2_with (first
      | (go_at_call 9; refine (long_any l _).mono ?_; rintro e w1 ⟨rfl, hw1⟩; rw [hw1, hq]; clear hw1)
      | (go_at_call 10; refine (alive_any _ hE).mono ?_; rintro e w2 ⟨rfl, hb2⟩))
    go_ret
    exact ⟨rfl, hb2⟩
  · have hq := longU_no hl
    obtain ⟨q, hpq, hdot⟩ := path_parts l
    have hpl := path_len l
    have pa1 : ∀ W : World, Env W → Calls Tryz.prog 19 #[.string (str l)] W fun e w' => e = .returned (.string (str (47 :: q))) ∧ Below W.heap.size W w' := fun W h => by
      have := Path_any l W h (by omega)
      rw [hpq] at this
      exact this
    have pa2 : ∀ W : World, Env W → Calls Tryz.prog 19 #[.string (str (47 :: q))] W fun e w' => e = .returned (.string (str (47 :: q))) ∧ Below W.heap.size W w' := fun W h => by
      have := Path_any (47 :: q) W h (by rw [← hpq]; omega)
      rw [← hpq, Url.path_path, hpq] at this
      exact this
    rw [hpq, List.length_cons] at hpl
    clear hpq
    have HD : Hid _ := hdot
    clear hdot
    have hs := str_size (47 :: q)
    rw [List.length_cons] at hs
    have hemp : (str (47 :: q)).toList.isEmpty = false := by rw [str_list]; rfl
    have hat0 : ∀ h : 0 < (str (47 :: q)).size, (str (47 :: q))[0]'h = 47 := fun _ => rfl
    go_enter Tryz.func7, Tryz.ntmps7
    go_wp2_with (first
      | (go_at_call 9; refine (long_any l _).mono ?_; rintro e w1 ⟨rfl, hw1⟩; rw [hw1, hq]; clear hw1)
      | (go_at_call_of 19 (str l); refine (pa1 _ hE).mono ?_; rintro e w2 ⟨rfl, hb2⟩; have hE2 := hE.below hb2)
      | (go_at_call_of 19 (str (47 :: q)); refine (pa2 _ hE2).mono ?_; rintro e w3 ⟨rfl, hb3⟩; have hE3 := hE2.below hb3; have hb3' := bel hb2 hb3))
    go_loopw [4, 5] (fun part i wr => ∃ (k : Nat) (t : List UInt8), k ≤ q.length + 1 ∧ i = .int .i64 (k + 1 : Nat) ∧ part = .string (str t) ∧ t.length ≤ q.length ∧ Hid (k ≤ q.length → t = (Asc.sst 47 (q.take k)).2) ∧ wr = w3) (fun _ i _ => q.length + 2 - (intOf i).toNat)
    case atStart => exact ⟨0, [], Nat.zero_le _, rfl, rfl, by simp, fun _ => rfl, rfl⟩
    case round =>
      obtain ⟨k, t, hk, rfl, rfl, htl, HT, rfl⟩ := hrel
      have hts := str_size t
      by_cases hlt : k < q.length
      · have hat : ∀ h : k + 1 < (str (47 :: q)).size, (str (47 :: q))[k + 1]'h = q[k] := fun _ => rfl
        have htk := HT.out (by omega)
        by_cases hb : q[k] = 47
        · have hn := HD.out _ (part_cut q k hlt hb)
          rw [← htk] at hn
          have n1 := ne_list hn.1
          have n2 := ne_list hn.2
          have h47 : ((q[k].toNat : Int) != 47) = false := by rw [hb]; rfl
          have HN : Hid (([] : List UInt8) = (Asc.sst 47 (q.take (k + 1))).2) := by
            show _ = _
            rw [Asc.sst_next 47 q k hlt, Asc.sstep, if_pos hb]
          clear hb hn htk HT
          go_wp2
          go_roundw
          case rel => exact ⟨k + 1, [], by omega, by go_num, rfl, by simp, fun _ => HN.out, by trivial⟩
          case measure => simp [intOf]; omega
        · have h47 : ((q[k].toNat : Int) != 47) = true := by
            rw [bne_iff_ne]
            intro h
            exact hb (byte_is _ 47 h)
          have HN : Hid (t ++ [q[k]] = (Asc.sst 47 (q.take (k + 1))).2 ∧ (t ++ [q[k]]).length ≤ q.length) := by
            have e : (Asc.sst 47 (q.take (k + 1))).2 = t ++ [q[k]] := by
              rw [Asc.sst_next 47 q k hlt, Asc.sstep, if_neg hb, htk]
            have h1 := (Asc.sst_len 47 (q.take (k + 1))).2
            rw [e, List.length_take] at h1
            exact ⟨e.symm, by omega⟩
          have hext : (str (47 :: q)).extract (k + 1) (k + 1 + 1) = str [q[k]] := by
            apply str_eq
            rw [data_cut, str_data]
            show ((47 :: q).take (k + 2)).drop (k + 1) = [q[k]]
            rw [List.take_succ_cons, List.drop_succ_cons, Asc.take_snoc q k hlt, List.drop_append_of_le_length (by rw [List.length_take]; omega), List.drop_of_length_le (by rw [List.length_take]; omega)]
            rfl
          have hz1 : (str [q[k]]).size = 1 := rfl
          have hcat : str t ++ str [q[k]] = str (t ++ [q[k]]) := str_add _ _
          clear hb htk HT
          go_wp2
          go_roundw
          case rel => exact ⟨k + 1, t ++ [q[k]], by omega, by go_num, rfl, HN.out.2, fun _ => HN.out.1, by trivial⟩
          case measure => simp [intOf]; omega
      · by_cases hend : k = q.length
        · subst hend
          have hn := HD.out _ (part_end q)
          rw [← HT.out (Nat.le_refl _)] at hn
          have n1 := ne_list hn.1
          have n2 := ne_list hn.2
          clear hn HT
          go_wp2
          go_roundw
          case rel => exact ⟨q.length + 1, [], by omega, by go_num, rfl, by simp, fun h => absurd h (by omega), by trivial⟩
          case measure => simp [intOf]; omega
        · obtain rfl : k = q.length + 1 := by omega
          go_wp2_with (go_at_call 10; refine (alive_any _ hE3).mono ?_; rintro e w4 ⟨rfl, hb4⟩)
          go_ret
          exact ⟨rfl, bel hb3' hb4⟩
theorem walk (a0 : ByteArray) (w : World) (_h0 : a0.size ≤ maxLen) (hE : Env w) :
    Calls Tryz.prog 7 #[.string a0] w fun e w' => e = .returned (.bool true) ∧ Below w.heap.size w w' := by
  have := walk_str a0.data.toList w hE
  rw [str_self] at this
  exact this
end Go.Proofs.YtlkhjloeonbjaaaGreatDoor.urlPaths
