/- A set of keys in memory; the contracts of isNew and of the parser's key. -/
import Derived.Test.YtfjgmejobldjoaaGreatDoorKYJ
import Derived.Maps.Own
import Derived.Maps.OwnSet
set_option linter.unusedVariables false
set_option linter.unusedSimpArgs false
namespace Go.Proofs.YtfjgmejobldjoaaGreatDoor
open Go.RowKit Go.Maps Go.WideMaps
theorem lawS : Keyed Tryz.prog 9 := string_keyed Tryz.underlying9
/-- The map at g is the set of these keys; at most c were put into it. -/
def SetAt (g c : Nat) (ks : List (List UInt8)) (w : World) : Prop :=
  ∃ n D, n ≤ c ∧ w.ownsMap Tryz.prog 9 (unitElem (H := Unit)) g n D ∧ (∀ t : List UInt8, Maps.has D (.string t) = decide (t ∈ ks)) ∧ Maps.size D = ks.length
theorem SetAt.keep {g c : Nat} {ks : List (List UInt8)} {w w' : World} (h : SetAt g c ks w) (hb : w'.heap[g]? = w.heap[g]?) : SetAt g c ks w' := by
  obtain ⟨n, D, hn, ⟨es, clock, h1, h2⟩, h3⟩ := h
  exact ⟨n, D, hn, ⟨es, clock, hb.trans h1, h2⟩, h3⟩
theorem SetAt.lt {g c : Nat} {ks : List (List UInt8)} {w : World} (h : SetAt g c ks w) : g < w.heap.size := by
  obtain ⟨n, D, hn, ⟨es, clock, h1, h2⟩, h3⟩ := h
  exact (Array.getElem?_eq_some_iff.1 h1).1
theorem SetAt.made (w : World) (c : Nat) : SetAt w.heap.size c [] (w.alloc (.map #[] 0)) :=
  ⟨0, .map [], Nat.zero_le _, World.ownsMap_made _ _ _ _, fun t => rfl, rfl⟩
theorem Kept.grown {b : Nat} {w w' : World} (h : w.grownBy w' (some b)) : Kept b w w' := ⟨h.os, h.tape, h.output, h.size, fun k hk hne => h.block k hk (fun e => hne (Option.some.inj e))⟩
/-- The keys, with one more. -/
def withKey (ks : List (List UInt8)) (t : List UInt8) : List (List UInt8) := if t ∈ ks then ks else ks ++ [t]
set_option maxHeartbeats 1000000 in
theorem isNew_any (g c : Nat) (ks : List (List UInt8)) (t : List UInt8) (w : World) (h : SetAt g c ks w) (ht : t.length ≤ 1000000000) (hc : c ≤ 1000000000) :
    Calls Tryz.prog 42 #[.map (some g), .string (str t)] w fun e w' => e = .returned (.bool (decide (t ∉ ks))) ∧ SetAt g (c + 1) (withKey ks t) w' ∧ Kept g w w' := by
  obtain ⟨n, D, hn, hown, hhas, hsz⟩ := h
  have hkey : keyOf Tryz.prog 9 (.string (str t)) = some (.string t) := by
    have := keyOf_string_mk (s := str t) Tryz.underlying9 (by rw [str_size]; unfold maxLen; omega)
    rw [str_data] at this
    exact this
  have htidy := hown.tidy lawS
  have hput := size_put (k := .string t) htidy (.agg [] : DataW Unit)
  rw [hhas t] at hput
  have hsame := has_put_same (k := .string t) htidy.isMap trivial (.agg [] : DataW Unit)
  have hoth : ∀ x : List UInt8, x ≠ t → Maps.has (D.put (.string t) (.agg [])) (.string x) = Maps.has D (.string x) := fun x hx => has_put_other (fun e => hx (Lit.string.inj e)) _
  have HF : Hid ((∀ x : List UInt8, Maps.has (D.put (.string t) (.agg [])) (.string x) = decide (x ∈ withKey ks t)) ∧ Maps.size (D.put (.string t) (.agg [])) = (withKey ks t).length) := by
    refine ⟨fun x => ?_, ?_⟩
    · by_cases hx : x = t
      · rw [hx, hsame]
        symm
        unfold withKey
        split <;> simp_all
      · rw [hoth x hx, hhas x]
        unfold withKey
        split
        · rfl
        · simp [hx]
    · rw [hput, hsz]
      unfold withKey
      by_cases hm : t ∈ ks
      · simp [hm]
      · simp [hm]
  have HG : Hid (decide (Maps.size D < Maps.size (D.put (.string t) (.agg []))) = decide (t ∉ ks)) := by
    show _ = _
    rw [hput, hsz]
    by_cases hm : t ∈ ks
    · simp [hm]
    · simp [hm]
  clear hput hsame hoth htidy hhas hsz
  go_enter Tryz.func42, Tryz.ntmps42
  go_wp2_with (first
    | (at_len; refine wpList_len_own _ rfl _ 77 rfl 9 103 Tryz.underlying77 _ g n D rfl hown ?_)
    | (at_mapUpdate; refine wpList_mapUpdate_own _ rfl _ _ _ 77 rfl 9 103 lawS Tryz.underlying77 (unitElem (H := Unit)) g n D rfl hown (by unfold maxLen; omega) _ _ _ rfl rfl hkey (.agg []) [] unitElem_mk ?_; intro w1 hown1 hgrow1)
    | (at_len; refine wpList_len_own _ rfl _ 77 rfl 9 103 Tryz.underlying77 _ g (n + 1) _ rfl hown1 ?_))
  go_ret
  exact ⟨ret_bool (by first | exact HG.out | (rw [← HG.out])), ⟨n + 1, _, by omega, hown1, HF.out.1, HF.out.2⟩, Kept.grown hgrow1⟩
end Go.Proofs.YtfjgmejobldjoaaGreatDoor
