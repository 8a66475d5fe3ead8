/- The contract of the reference's names. -/
import Derived.Test.YtdllcnifkiebjaaDoorRfR
set_option linter.unusedVariables false
set_option linter.unusedSimpArgs false
namespace Go.Proofs.YtdllcnifkiebjaaDoor
open Go.RowKit
theorem cellsN_at : ∀ (T : Rf.Tab) (k : Nat) (p : List UInt8 × Int), T[k]? = some p → (cellsN T)[2 * k]? = some (.string (str p.1)) ∧ (cellsN T)[2 * k + 1]? = some (.int .i32 p.2)
  | [], k, p, h => by simp at h
  | q :: T, 0, p, h => by
    simp at h
    subst h
    exact ⟨rfl, rfl⟩
  | q :: T, k + 1, p, h => by
    have := cellsN_at T k p (by simpa using h)
    have e : cellsN (q :: T) = .string (str q.1) :: .int .i32 q.2 :: cellsN T := rfl
    rw [e, show 2 * (k + 1) = 2 * k + 1 + 1 from by omega]
    exact this
theorem readsTab_new (w : World) (T : Rf.Tab) (t : Nat) : ReadsTab (w.alloc (.cells (cellsN T).toArray t)) w.heap.size T := by
  intro k p hk
  have h := cellsN_at T k p hk
  refine ⟨?_, ?_⟩
  · rw [Lib.cell_of_heap (heap_new w _)]
    simpa using h.1
  · rw [Lib.cell_of_heap (heap_new w _)]
    simpa using h.2
theorem cells_names : (cellsN Rf.names).toArray = #[.string ⟨#[97,109,112]⟩, .int .i32 38, .string ⟨#[108,116]⟩, .int .i32 60, .string ⟨#[103,116]⟩, .int .i32 62, .string ⟨#[113,117,111,116]⟩, .int .i32 34, .string ⟨#[97,112,111,115]⟩, .int .i32 39, .string ⟨#[110,98,115,112]⟩, .int .i32 160, .string ⟨#[99,111,112,121]⟩, .int .i32 169, .string ⟨#[114,101,103]⟩, .int .i32 174, .string ⟨#[99,101,110,116]⟩, .int .i32 162, .string ⟨#[112,111,117,110,100]⟩, .int .i32 163, .string ⟨#[121,101,110]⟩, .int .i32 165, .string ⟨#[115,101,99,116]⟩, .int .i32 167, .string ⟨#[100,101,103]⟩, .int .i32 176, .string ⟨#[112,108,117,115,109,110]⟩, .int .i32 177, .string ⟨#[112,97,114,97]⟩, .int .i32 182, .string ⟨#[109,105,100,100,111,116]⟩, .int .i32 183, .string ⟨#[108,97,113,117,111]⟩, .int .i32 171, .string ⟨#[114,97,113,117,111]⟩, .int .i32 187, .string ⟨#[102,114,97,99,49,50]⟩, .int .i32 189, .string ⟨#[116,105,109,101,115]⟩, .int .i32 215, .string ⟨#[100,105,118,105,100,101]⟩, .int .i32 247, .string ⟨#[97,103,114,97,118,101]⟩, .int .i32 224, .string ⟨#[97,97,99,117,116,101]⟩, .int .i32 225, .string ⟨#[97,99,105,114,99]⟩, .int .i32 226, .string ⟨#[97,117,109,108]⟩, .int .i32 228, .string ⟨#[97,114,105,110,103]⟩, .int .i32 229, .string ⟨#[97,101,108,105,103]⟩, .int .i32 230, .string ⟨#[99,99,101,100,105,108]⟩, .int .i32 231, .string ⟨#[101,103,114,97,118,101]⟩, .int .i32 232, .string ⟨#[101,97,99,117,116,101]⟩, .int .i32 233, .string ⟨#[101,99,105,114,99]⟩, .int .i32 234, .string ⟨#[105,97,99,117,116,101]⟩, .int .i32 237, .string ⟨#[110,116,105,108,100,101]⟩, .int .i32 241, .string ⟨#[111,97,99,117,116,101]⟩, .int .i32 243, .string ⟨#[111,117,109,108]⟩, .int .i32 246, .string ⟨#[111,115,108,97,115,104]⟩, .int .i32 248, .string ⟨#[117,97,99,117,116,101]⟩, .int .i32 250, .string ⟨#[117,117,109,108]⟩, .int .i32 252, .string ⟨#[115,122,108,105,103]⟩, .int .i32 223, .string ⟨#[65,117,109,108]⟩, .int .i32 196, .string ⟨#[79,117,109,108]⟩, .int .i32 214, .string ⟨#[85,117,109,108]⟩, .int .i32 220, .string ⟨#[69,97,99,117,116,101]⟩, .int .i32 201, .string ⟨#[110,100,97,115,104]⟩, .int .i32 8211, .string ⟨#[109,100,97,115,104]⟩, .int .i32 8212, .string ⟨#[108,115,113,117,111]⟩, .int .i32 8216, .string ⟨#[114,115,113,117,111]⟩, .int .i32 8217, .string ⟨#[108,100,113,117,111]⟩, .int .i32 8220, .string ⟨#[114,100,113,117,111]⟩, .int .i32 8221, .string ⟨#[98,117,108,108]⟩, .int .i32 8226, .string ⟨#[104,101,108,108,105,112]⟩, .int .i32 8230, .string ⟨#[101,117,114,111]⟩, .int .i32 8364, .string ⟨#[116,114,97,100,101]⟩, .int .i32 8482, .string ⟨#[108,97,114,114]⟩, .int .i32 8592, .string ⟨#[114,97,114,114]⟩, .int .i32 8594, .string ⟨#[104,101,97,114,116,115]⟩, .int .i32 9829] := by kernel_rfl
set_option maxHeartbeats 4000000 in
set_option maxRecDepth 100000 in
theorem names_any (w : World) :
    Calls Tryd.prog 25 #[] w fun e w' => ∃ b, e = .returned (.slice (some ⟨b, 0, none⟩) 56 56) ∧ ReadsTab w' b Rf.names ∧ Below w.heap.size w w' := by
  have h := readsTab_new w Rf.names 43
  rw [cells_names] at h
  have H : Hid (ReadsTab _ w.heap.size Rf.names) := h
  clear h
  go_enter Tryd.func25, Tryd.ntmps25
  go_wp2
  go_ret
  exact ⟨w.heap.size, rfl, H.out, (Below.refl _ w).alloc (Nat.le_refl _) _⟩
end Go.Proofs.YtdllcnifkiebjaaDoor
