/- The contract of the laws' far: where it is not, the pairs are at most sixty. -/
import Derived.Test.YtoahjdpkhnkfiaaDoorPPairs
namespace Go.Proofs.YtoahjdpkhnkfiaaDoor
open Go.RowKit
set_option maxHeartbeats 2000000 in
set_option maxRecDepth 100000 in
theorem far_any (v : Value) (ps : List Pct.Pr) (w : World) (hv : ReadsPairs w v ps) (hl : ps.length ≤ 9223372036854775807) :
    Calls Tryd.prog 15 #[v] w fun e w' => ∃ r : Bool, e = .returned (.bool r) ∧ (r = false → ps.length ≤ 60) ∧ Below w.heap.size w w' := by
  obtain ⟨a1, c1, rfl⟩ := hv.form
  have HV : Hid (ReadsPairs w (.slice a1 ps.length c1) ps) := hv
  have hcap : ps.length ≤ c1 := by
    rcases hv with ⟨a, c, h, rfl⟩ | ⟨b, o, c, h, hc, _⟩
    · exact Nat.zero_le _
    · cases h; exact hc
  clear hv
  by_cases h60 : ps.length ≤ 60
  · go_enter Tryd.func15, Tryd.ntmps15
    go_wp2
    go_loopw [3, 12] (fun x i wr => ∃ (k : Nat) (n : Nat), k ≤ ps.length ∧ i = .int .i64 k ∧ x = .int .i64 n ∧ n ≤ 6000 * k ∧ Below w.heap.size w wr) (fun _ i _ => ps.length - (intOf i).toNat)
    case atStart => exact ⟨0, 0, Nat.zero_le _, rfl, rfl, Nat.le_refl _, Below.refl _ _⟩
    case round =>
      obtain ⟨k, n, hk, rfl, rfl, hn, hbel⟩ := hrel
      by_cases hlt : k < ps.length
      · obtain ⟨p, hp⟩ : ∃ p, ps[k]? = some p := ⟨_, List.getElem?_eq_getElem (by omega)⟩
        obtain ⟨b, o, rfl, hc, hbl, h1, h2⟩ := HV.out.at hp
        have g1 := (hbel.cell (p := ⟨b, o + k * 2, none⟩) hbl).trans h1
        have g2 := (hbel.cell (p := ⟨b, o + k * 2 + 1, none⟩) hbl).trans h2
        have hsz := hbel.size
        clear hp h1 h2
        generalize str p.1 = s1 at g1 ⊢
        generalize str p.2 = s2 at g2 ⊢
        by_cases q1 : 3000 < s1.size <;> by_cases q2 : 3000 < s2.size
        all_goals go_wp2
        all_goals go_roundw
        all_goals first
          | (simp [intOf]; omega)
          | exact ⟨k + 1, n + (3000 + 3000), by omega, by go_num, by go_num, by omega, hbel.alloc hsz _⟩
          | exact ⟨k + 1, n + (3000 + s2.size), by omega, by go_num, by go_num, by omega, hbel.alloc hsz _⟩
          | exact ⟨k + 1, n + (s1.size + 3000), by omega, by go_num, by go_num, by omega, hbel.alloc hsz _⟩
          | exact ⟨k + 1, n + (s1.size + s2.size), by omega, by go_num, by go_num, by omega, hbel.alloc hsz _⟩
      · go_wp2
        go_ret
        exact ⟨_, rfl, fun _ => h60, hbel⟩
  · go_enter Tryd.func15, Tryd.ntmps15
    go_wp2
    go_loopw [3, 12] (fun x i wr => ∃ (k : Nat) (n : Nat), k ≤ 60 ∧ i = .int .i64 k ∧ x = .int .i64 n ∧ n ≤ 6000 * k ∧ Below w.heap.size w wr) (fun _ i _ => 60 - (intOf i).toNat)
    case atStart => exact ⟨0, 0, Nat.zero_le _, rfl, rfl, Nat.le_refl _, Below.refl _ _⟩
    case round =>
      obtain ⟨k, n, hk, rfl, rfl, hn, hbel⟩ := hrel
      by_cases hlt : k < 60
      · obtain ⟨p, hp⟩ : ∃ p, ps[k]? = some p := ⟨_, List.getElem?_eq_getElem (by omega)⟩
        obtain ⟨b, o, rfl, hc, hbl, h1, h2⟩ := HV.out.at hp
        have g1 := (hbel.cell (p := ⟨b, o + k * 2, none⟩) hbl).trans h1
        have g2 := (hbel.cell (p := ⟨b, o + k * 2 + 1, none⟩) hbl).trans h2
        have hsz := hbel.size
        clear hp h1 h2
        generalize str p.1 = s1 at g1 ⊢
        generalize str p.2 = s2 at g2 ⊢
        by_cases q1 : 3000 < s1.size <;> by_cases q2 : 3000 < s2.size
        all_goals go_wp2
        all_goals go_roundw
        all_goals first
          | (simp [intOf]; omega)
          | exact ⟨k + 1, n + (3000 + 3000), by omega, by go_num, by go_num, by omega, hbel.alloc hsz _⟩
          | exact ⟨k + 1, n + (3000 + s2.size), by omega, by go_num, by go_num, by omega, hbel.alloc hsz _⟩
          | exact ⟨k + 1, n + (s1.size + 3000), by omega, by go_num, by go_num, by omega, hbel.alloc hsz _⟩
          | exact ⟨k + 1, n + (s1.size + s2.size), by omega, by go_num, by go_num, by omega, hbel.alloc hsz _⟩
      · go_wp2
        go_ret
        exact ⟨rfl, hbel⟩
end Go.Proofs.YtoahjdpkhnkfiaaDoor
