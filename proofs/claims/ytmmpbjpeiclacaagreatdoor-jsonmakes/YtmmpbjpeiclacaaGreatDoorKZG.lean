/- The contract of Same. -/
import Derived.Test.YtmmpbjpeiclacaaGreatDoorKZef
set_option linter.unusedVariables false
set_option linter.unusedSimpArgs false
namespace Jsn
mutual
/-- Whether two are the same. -/
def sameJ : J → J → Bool
  | .mk k t ks cs, .mk k2 t2 ks2 cs2 => decide (k = k2) && (decide (t = t2) && (decide (ks = ks2) && sameL cs cs2))
def sameL : List J → List J → Bool
  | [], [] => true
  | a :: l, c :: cs => sameJ a c && sameL l cs
  | [], _ :: _ => false
  | _ :: _, [] => false
end
theorem sameL_refl : ∀ cs : List J, (∀ c ∈ cs, sameJ c c = true) → sameL cs cs = true
  | [], _ => by unfold sameL; rfl
  | a :: cs, h => by
    unfold sameL
    rw [h a (by simp), sameL_refl cs (fun c hc => h c (by simp [hc]))]
    rfl
theorem sameJ_refl (v : J) : sameJ v v = true := by
  induction v using J.ind with
  | h k t ks cs ih =>
    unfold sameJ
    simp [sameL_refl cs ih]
theorem sameL_len : ∀ (a c : List J), ¬ a.length = c.length → sameL a c = false
  | [], [], h => absurd rfl h
  | [], _ :: _, _ => by unfold sameL; rfl
  | _ :: _, [], _ => by unfold sameL; rfl
  | a :: l, c :: cs, h => by
    unfold sameL
    rw [sameL_len l cs (by simpa using h), Bool.and_false]
theorem sameL_cons (a c : J) (l cs : List J) : sameL (a :: l) (c :: cs) = (sameJ a c && sameL l cs) := by rw [sameL]
end Jsn
namespace Go.Proofs.YtmmpbjpeiclacaaGreatDoor
open Go.RowKit
theorem RTs.len {Q : Nat → Prop} {w : World} {ts : List (List UInt8)} {v : Value} (h : RTs Q w ts v) (hz : ts = []) : ∃ a c, v = .slice a 0 c := by
  obtain ⟨a, c, rfl⟩ := h.form
  subst hz
  exact ⟨a, c, rfl⟩
theorem getD_str (ts : List (List UInt8)) (j : Nat) (h : j < ts.length) : (ts.map str).getD j ByteArray.empty = str ts[j] := by
  rw [List.getD_eq_getElem?_getD, List.getElem?_map, List.getElem?_eq_getElem h]
  rfl
theorem map_str_inj {a c : List (List UInt8)} (h : a.map str = c.map str) : a = c := by
  have : (a.map str).map (fun b => b.data.toList) = (c.map str).map (fun b => b.data.toList) := by rw [h]
  simpa [List.map_map, Function.comp_def, str_data] using this
theorem RV.below {w w' : World} {t : Jsn.J} {v : Value} (h : RV (fun _ => True) w t v) (hB : Below w.heap.size w w') : RV (fun _ => True) w' t v := RV.keep hB.size (fun k _ hl => ⟨trivial, hB.block k hl⟩) h
end Go.Proofs.YtmmpbjpeiclacaaGreatDoor
