/- The contract of far, with the number that it counts; a snapshot's loss. -/
import Derived.Test.YtnnlmnjbmbflpaaJnO
set_option linter.unusedVariables false
set_option linter.unusedSimpArgs false
namespace Go.Proofs.Ytnnlmnjbmbflpaa
open Go.RowKit
def Jn.cost (rs : List (List UInt8)) : Nat := (rs.map (fun r => min r.length 20000 + 8)).sum
def Jn.total (bs : List Aj) : Nat := (bs.map (fun a => Jn.cost a.rs)).sum
theorem cost_take (rs : List (List UInt8)) (q : Nat) (h : q < rs.length) : Jn.cost (rs.take (q + 1)) = Jn.cost (rs.take q) + (min rs[q].length 20000 + 8) := by
  unfold Jn.cost
  rw [List.take_succ_eq_append_getElem h, List.map_append, List.sum_append]
  simp
theorem total_take (bs : List Aj) (j : Nat) (h : j < bs.length) : Jn.total (bs.take (j + 1)) = Jn.total (bs.take j) + Jn.cost bs[j].rs := by
  unfold Jn.total
  rw [List.take_succ_eq_append_getElem h, List.map_append, List.sum_append]
  simp
theorem frames_cost : ∀ rs : List (List UInt8), Jn.All rs → (Jn.frames rs).length = Jn.cost rs
  | [], _ => rfl
  | r :: rs, h => by
    rw [Jn.frames_cons, List.length_append, Jn.frame_length, frames_cost rs (fun q hq => h q (by simp [hq]))]
    have := (h r (by simp)).2
    simp [Jn.cost]
    omega
def FarS (bs : List Aj) (e : Ending) : Prop := ∃ x, e = .returned (.bool x) ∧ (x = false → (∀ a ∈ bs, a.rs.length ≤ 20) ∧ Jn.total bs ≤ 20000)
set_option maxHeartbeats 4000000 in
set_option maxRecDepth 100000 in
theorem far10_sum {w : World} {v : Value} {as9 : List Aj} (h : RJs w v as9) (hl : as9.length ≤ maxLen) :
    Calls Try.prog 21 #[v] w fun e w' => FarS (as9.take 40) e ∧ Below w.heap.size w w' := by
  have hS := short10_any h hl
  have hlen : (as9.take 40).length ≤ 40 := by simp; omega
  have HH := hide9 h
  clear h hl
  generalize as9.take 40 = bs at *
  go_enter Try.func21, Try.ntmps21
  go_wp2_with (go_at_call 25; refine hS.mono ?_; rintro e w2 ⟨v', rfl, hv'', he⟩; replace he := he.symm; subst he; have hv' := hv'' _ HH.out; clear hv''; obtain ⟨a, c, rfl, hc⟩ := hv'.form; clear hS)
  go_loopw [3, 11] (fun x i wr => ∃ (j : Nat) (n : Nat), j ≤ bs.length ∧ i = .int .i64 (j : Int) ∧ x = .int .i64 (n : Int) ∧ Hid (n = Jn.total (bs.take j)) ∧ n ≤ 500000 * j ∧ Hid (∀ a ∈ bs.take j, a.rs.length ≤ 20) ∧ Below w.heap.size w wr) (fun _ i _ => bs.length - (intOf i).toNat)
  case atStart => exact ⟨0, 0, Nat.zero_le _, rfl, rfl, (rfl : 0 = Jn.total (bs.take 0)), by omega, (fun a ha => by simp at ha : ∀ a ∈ bs.take 0, a.rs.length ≤ 20), Below.refl _ _⟩
  case round =>
    obtain ⟨j, n, hj, rfl, rfl, HN, hn1, HT, hB⟩ := hrel
    by_cases hlt : j < bs.length
    · obtain ⟨-, -, b, o, rfl, hr, hA⟩ := RJs.at (hv'.below hB) hlt
      have hone := one_row hA.rb
      obtain ⟨va, vc, hvf⟩ := hA.rb.form
      have hal := hA.len
      unfold maxLen at hal
      have HT2 := hide9 (take_all hlt HT.out)
      have HN2 := hide9 (total_take bs j hlt)
      have HA := hide9 hA
      have HB : Hid (Below w.heap.size w wr) := hB
      have hi1 : (j : Int) < (bs.length : Int) := by omega
      clear hA hB
      generalize bs[j] = ac at *
      by_cases h20 : 20 < ac.rs.length
      · go_wp2_with (first
          | ((with_reducible show wpList _ _ _ ({ op := Op.load 63 _, .. } :: _) _ _); refine wpList_load_J rfl _ rfl _ _ rfl ac hr ?_)
          | ((with_reducible show wpList _ _ _ ({ op := Op.store 63 _ _, .. } :: _) _ _); refine wpList_store_J _ _ rfl rfl _ ac _ rfl rfl (heap_new _ _) rfl hone ?_; intro wn hAn hOn; have c1 : wn.cell? ⟨wr.heap.size, 1, none⟩ = some ac.rv := hAn.cell 1; rw [hvf] at c1))
        go_ret
        exact ⟨⟨true, rfl, fun hx => (by cases hx)⟩, (HB.out.alloc HB.out.size _).trans (hOn.below (fun k hk => by rw [hk]; exact HB.out.size) (by have := HB.out.size; simp; omega))⟩
      · go_wp2_with (first
          | ((with_reducible show wpList _ _ _ ({ op := Op.load 63 _, .. } :: _) _ _); refine wpList_load_J rfl _ rfl _ _ rfl ac hr ?_)
          | ((with_reducible show wpList _ _ _ ({ op := Op.store 63 _ _, .. } :: _) _ _); refine wpList_store_J _ _ rfl rfl _ ac _ rfl rfl (heap_new _ _) rfl hone ?_; intro wn hAn hOn; have c1 : wn.cell? ⟨wr.heap.size, 1, none⟩ = some ac.rv := hAn.cell 1; rw [hvf] at c1))
        have hBn : Below wr.heap.size wr wn := ((Below.refl _ wr).alloc (Nat.le_refl _) _).trans (hOn.below (fun k hk => by rw [hk]; exact Nat.le_refl _) (by simp))
        have HR := hide9 (HA.out.rb.below hBn)
        have HE := hide9 HA.out.each
        rw [hvf] at HR
        have HBn := hide9 hBn
        clear hBn hOn
        go_loopw [3, 22] (fun x i wr2 => ∃ (q : Nat) (m : Nat), q ≤ ac.rs.length ∧ i = .int .i64 (q : Int) ∧ x = .int .i64 (m : Int) ∧ Hid (m = n + Jn.cost (ac.rs.take q)) ∧ m ≤ n + 20008 * q ∧ wn = wr2) (fun _ i _ => ac.rs.length - (intOf i).toNat)
        case atStart => exact ⟨0, n, Nat.zero_le _, rfl, rfl, (rfl : n = n + Jn.cost (ac.rs.take 0)), by omega, rfl⟩
        case round =>
          obtain ⟨q, m, hq, rfl, rfl, HM, hm1, rfl⟩ := hrel
          by_cases hqt : q < ac.rs.length
          · obtain ⟨-, hcc, b2, o2, rfl, x2, hx2, hr2⟩ := HR.out.at (List.getElem?_eq_getElem hqt)
            obtain ⟨ya, yc, rfl⟩ := hr2.form
            have hz := HE.out _ (List.getElem_mem hqt)
            unfold maxLen at hz
            have HM2 := hide9 (cost_take ac.rs q hqt)
            generalize ac.rs[q].length = rl at *
            have hq20 : q < 20 := by omega
            have HM3 : Hid (m + (min rl 20000 + 8) = n + Jn.cost (ac.rs.take (q + 1))) := by
              show m + (min rl 20000 + 8) = n + Jn.cost (ac.rs.take (q + 1))
              rw [HM2.out, HM.out]
              omega
            go_wp2
            refine ⟨⟨q + 1, m + (min rl 20000 + 8), by omega, by go_num, ?_, HM3, by omega, trivial⟩, by simp [intOf]; omega⟩
            congr 1
            first | (split <;> omega) | omega
          · have hqe : ac.rs.take q = ac.rs := List.take_of_length_le (by omega)
            rw [hqe] at HM
            have HN3 : Hid (m = Jn.total (bs.take (j + 1))) := by
              show m = Jn.total (bs.take (j + 1))
              rw [HN2.out, HM.out, HN.out]
            go_wp2
            have HT3 := hide9 (HT2.out (by omega))
            exact ⟨⟨j + 1, m, by omega, by go_num, rfl, HN3, by omega, HT3, bel HB.out HBn.out⟩, by simp [intOf]; omega⟩
    · have hi1 : ¬ (j : Int) < (bs.length : Int) := by omega
      have hjl : bs.take j = bs := List.take_of_length_le (by omega)
      rw [hjl] at HT HN
      go_wp2
      go_ret
      exact ⟨⟨_, rfl, fun hx => ⟨HT.out, by have := of_decide_eq_false hx; have := HN.out; omega⟩⟩, hB⟩
end Go.Proofs.Ytnnlmnjbmbflpaa
