/- The contract of the document's quoted. -/
import Derived.Test.YtmmpbjpeiclacaaGreatDoorKBase
import Derived.Test.YtmmpbjpeiclacaaGreatDoorKJson
import Derived.Laws.AppendOwn
import Derived.Deep.AppendLies
import Derived.Deep.RegionHeld3
import Derived.Deep.RegionWith
import Derived.Deep.CutBlock
import Derived.WalkMore
set_option linter.unusedVariables false
set_option linter.unusedSimpArgs false
namespace Jsn
def escF : List UInt8 := [8, 9, 10, 12, 13, 34, 92]
theorem escP_le (c : UInt8) : escP c ≤ 7 := by revert c; apply byte_all; decide +kernel
theorem escP_before (c : UInt8) : ∀ k : Fin 7, k.val < escP c → escF.getD k.val 0 ≠ c := by revert c; apply byte_all; decide +kernel
theorem escP_at (c : UInt8) : escP c < 7 → escF.getD (escP c) 0 = c := by revert c; apply byte_all; decide +kernel
theorem hex_at (n : Nat) (h : n < 16) : (({ data := #[48, 49, 50, 51, 52, 53, 54, 55, 56, 57, 97, 98, 99, 100, 101, 102] } : ByteArray)[n]'(by show n < 16; exact h)) = hexC n := by
  have : ∀ i : Fin 16, (({ data := #[48, 49, 50, 51, 52, 53, 54, 55, 56, 57, 97, 98, 99, 100, 101, 102] } : ByteArray)[i.val]'(by show i.val < 16; exact i.isLt)) = hexC i.val := by decide
  exact this ⟨n, h⟩
theorem hex_atI (m : Nat) (i : Int) (hi : i = (m : Int)) (h : m < 16) : (({ data := #[48, 49, 50, 51, 52, 53, 54, 55, 56, 57, 97, 98, 99, 100, 101, 102] } : ByteArray)[i.toNat]'(by subst hi; show m < 16; exact h)) = hexC m := by
  subst hi
  exact hex_at m h
end Jsn
namespace Go.Proofs.YtmmpbjpeiclacaaGreatDoor
open Go.RowKit
theorem hideQ {p : Prop} (h : p) : Hid p := h
theorem cellsB_appQ (l m : List UInt8) : cellsB (l ++ m) = cellsB l ++ cellsB m := by unfold cellsB; rw [List.map_append]
theorem ownsRow_drew {w : World} {B : Nat} {e : TypeId} {size n : Nat} {v : Value} {xs : List Value} (h : w.ownsRow B e size v n xs) : w.drew.ownsRow B e size v n xs := h
theorem takeH {md : Region.Mode} {ops : Array Oper} {Q : Exit → Act → World → Prop} {S : World → Prop} {fuel : Nat} {listed : Array Bool} {a : Act} {w : World} (i d : Nat) (v : Value) {oi : Oper} (hi : ops[i]? = some oi) (hd : oi.dst = some d)
    (hs : Region.noSelect ops = true) (hf : Region.free md ops listed i = true) (hr : (Region.ready md ops listed).contains i = true)
    (hQ : ∀ c a w, Q (.panic c) (a.put (some d) v) w → Q (.panic c) a w) (hy : YieldsIf Tryz.prog ops S oi v a) (hS : S w)
    (h : wpAnyH Tryz.prog md ops Q S fuel (listed.setIfInBounds i true) (a.put (some d) v) w) : wpAnyH Tryz.prog md ops Q S (fuel + 1) listed a w :=
  wpAnyH_take hi hs hf hr (by rw [hd]; exact hQ) hy hS (by rw [hd]; exact h)
theorem newcells (w : World) (C : Array Value) (e : TypeId) : ∀ j u, C.toList[j]? = some u → (w.alloc (.cells C e)).cell? ((⟨w.heap.size, 0, none⟩ : Addr).add j) = some u := by
  intro j u hj
  have hh : (w.alloc (.cells C e)).heap[w.heap.size]? = some (.cells C e) := by
    show (w.heap.push _)[w.heap.size]? = _
    simp
  have ha : (⟨w.heap.size, 0, none⟩ : Addr).add j = ⟨w.heap.size, j, none⟩ := by unfold Addr.add; simp; omega
  rw [ha, Lib.cell_of_heap hh, ← Array.getElem?_toList]
  exact hj
set_option maxHeartbeats 4000000 in
set_option maxRecDepth 100000 in
theorem Rquoted_any (l : List UInt8) (w : World) (hl : l.length ≤ 100000000) :
    Calls Tryz.prog 28 #[.string (str l)] w fun e w' => e = .returned (.string (str (Jsn.quoteJ l))) ∧ Below w.heap.size w w' := by
  obtain ⟨i0, hi0, hz0, hz1, hz2⟩ := info_parts infoByte
  obtain ⟨X, HX⟩ : ∃ X, Hid (X = Jsn.quoteJ l) := ⟨_, rfl⟩
  rw [← HX.out]
  have hsz := str_size l
  go_enter Tryz.func28, Tryz.ntmps28
  go_wp2
  go_loopw [4, 5] (fun y i wr => ∃ j : Nat, j ≤ l.length ∧ i = .int .i64 j ∧ OwnsBytes wr w.heap.size y ((l.take j).flatMap Jsn.escB) ∧ Below w.heap.size w wr) (fun _ i _ => l.length - (intOf i).toNat)
  case atStart => exact ⟨0, Nat.zero_le _, rfl, OwnsBytes.nil _ _, Below.refl _ _⟩
  case round =>
    obtain ⟨j, hj, rfl, hO, hB⟩ := hrel
    by_cases hlt : j < l.length
    · have hbl : ((l.take j).flatMap Jsn.escB).length ≤ 600000000 := by
        have h1 := Jsn.escLen_le (l.take j)
        unfold Jsn.escLen at h1
        rw [List.length_take] at h1
        omega
      have HE : Hid ((l.take (j + 1)).flatMap Jsn.escB = (l.take j).flatMap Jsn.escB ++ Jsn.escB l[j]) := by
        show (l.take (j + 1)).flatMap Jsn.escB = _
        rw [List.take_succ_eq_append_getElem hlt, List.flatMap_append]
        simp
      have hat : ((str l)[j]'(by rw [str_size]; exact hlt)) = l[j] := rfl
      have hc := l[j].toNat_lt
      generalize l[j] = c at *
      have hPle := Jsn.escP_le c
      have HPB := hideQ (Jsn.escP_before c)
      have HPA := hideQ (Jsn.escP_at c)
      generalize (l.take j).flatMap Jsn.escB = f at *
      go_wp2_with fail
      go_loopw [7] (fun k wr2 => ∃ n : Nat, n ≤ Jsn.escP c ∧ k = .int .i64 n ∧ wr = wr2) (fun i _ => 7 - (intOf i).toNat)
      case atStart => exact ⟨0, Nat.zero_le _, rfl, rfl⟩
      case round =>
        obtain ⟨n, hn, rfl, rfl⟩ := hrel
        by_cases hnp : n < Jsn.escP c
        · have hne := HPB.out ⟨n, by omega⟩ hnp
          have hne' : ¬ ((Jsn.escF.getD n 0).toNat = c.toNat) := fun h => hne (UInt8.toNat_inj.mp h)
          clear hne
          rcases (by omega : n = 0 ∨ n = 1 ∨ n = 2 ∨ n = 3 ∨ n = 4 ∨ n = 5 ∨ n = 6) with rfl | rfl | rfl | rfl | rfl | rfl | rfl
          · have hq0 : ¬ (8 : Int) = (c.toNat : Int) := fun h => hne' (show 8 = c.toNat by omega)
            have hq : ((8 : Int) == (c.toNat : Int)) = false := by simpa using hq0
            have hq2 : ((8 : Int) != (c.toNat : Int)) = true := by simpa using hq0
            have hix : (({ data := #[8, 9, 10, 12, 13, 34, 92] } : ByteArray)[0]'(by decide)) = 8 := rfl
            clear hne' hq0
            go_wp2_with fail
            exact ⟨⟨1, by omega, rfl, trivial⟩, by decide⟩
          · have hq0 : ¬ (9 : Int) = (c.toNat : Int) := fun h => hne' (show 9 = c.toNat by omega)
            have hq : ((9 : Int) == (c.toNat : Int)) = false := by simpa using hq0
            have hq2 : ((9 : Int) != (c.toNat : Int)) = true := by simpa using hq0
            have hix : (({ data := #[8, 9, 10, 12, 13, 34, 92] } : ByteArray)[1]'(by decide)) = 9 := rfl
            clear hne' hq0
            go_wp2_with fail
            exact ⟨⟨2, by omega, rfl, trivial⟩, by decide⟩
          · have hq0 : ¬ (10 : Int) = (c.toNat : Int) := fun h => hne' (show 10 = c.toNat by omega)
            have hq : ((10 : Int) == (c.toNat : Int)) = false := by simpa using hq0
            have hq2 : ((10 : Int) != (c.toNat : Int)) = true := by simpa using hq0
            have hix : (({ data := #[8, 9, 10, 12, 13, 34, 92] } : ByteArray)[2]'(by decide)) = 10 := rfl
            clear hne' hq0
            go_wp2_with fail
            exact ⟨⟨3, by omega, rfl, trivial⟩, by decide⟩
          · have hq0 : ¬ (12 : Int) = (c.toNat : Int) := fun h => hne' (show 12 = c.toNat by omega)
            have hq : ((12 : Int) == (c.toNat : Int)) = false := by simpa using hq0
            have hq2 : ((12 : Int) != (c.toNat : Int)) = true := by simpa using hq0
            have hix : (({ data := #[8, 9, 10, 12, 13, 34, 92] } : ByteArray)[3]'(by decide)) = 12 := rfl
            clear hne' hq0
            go_wp2_with fail
            exact ⟨⟨4, by omega, rfl, trivial⟩, by decide⟩
          · have hq0 : ¬ (13 : Int) = (c.toNat : Int) := fun h => hne' (show 13 = c.toNat by omega)
            have hq : ((13 : Int) == (c.toNat : Int)) = false := by simpa using hq0
            have hq2 : ((13 : Int) != (c.toNat : Int)) = true := by simpa using hq0
            have hix : (({ data := #[8, 9, 10, 12, 13, 34, 92] } : ByteArray)[4]'(by decide)) = 13 := rfl
            clear hne' hq0
            go_wp2_with fail
            exact ⟨⟨5, by omega, rfl, trivial⟩, by decide⟩
          · have hq0 : ¬ (34 : Int) = (c.toNat : Int) := fun h => hne' (show 34 = c.toNat by omega)
            have hq : ((34 : Int) == (c.toNat : Int)) = false := by simpa using hq0
            have hq2 : ((34 : Int) != (c.toNat : Int)) = true := by simpa using hq0
            have hix : (({ data := #[8, 9, 10, 12, 13, 34, 92] } : ByteArray)[5]'(by decide)) = 34 := rfl
            clear hne' hq0
            go_wp2_with fail
            exact ⟨⟨6, by omega, rfl, trivial⟩, by decide⟩
          · have hq0 : ¬ (92 : Int) = (c.toNat : Int) := fun h => hne' (show 92 = c.toNat by omega)
            have hq : ((92 : Int) == (c.toNat : Int)) = false := by simpa using hq0
            have hq2 : ((92 : Int) != (c.toNat : Int)) = true := by simpa using hq0
            have hix : (({ data := #[8, 9, 10, 12, 13, 34, 92] } : ByteArray)[6]'(by decide)) = 92 := rfl
            clear hne' hq0
            go_wp2_with fail
            exact ⟨⟨7, by omega, rfl, trivial⟩, by decide⟩
        · have hnx : n = Jsn.escP c := by omega
          by_cases h7 : Jsn.escP c < 7
          · have hcc := HPA.out h7
            rw [← hnx] at hcc h7
            have HEE : Hid (Jsn.escB c = [92, Jsn.escT.getD n 0]) := by
              show Jsn.escB c = _
              rw [Jsn.esc_eq, hnx, if_pos (by omega)]
            clear HPB HPA hnx hPle hnp
            rcases (by omega : n = 0 ∨ n = 1 ∨ n = 2 ∨ n = 3 ∨ n = 4 ∨ n = 5 ∨ n = 6) with rfl | rfl | rfl | rfl | rfl | rfl | rfl
            · obtain rfl : c = 8 := hcc.symm
              clear hcc
              have hix : (({ data := #[8, 9, 10, 12, 13, 34, 92] } : ByteArray)[0]'(by decide)) = 8 := rfl
              have hiy : (({ data := #[98, 116, 110, 102, 114, 34, 92] } : ByteArray)[0]'(by decide)) = 98 := rfl
              go_wp2_with (at_builtin; refine wpList_append_own _ rfl _ _ 51 rfl w.heap.size 5 i0 (.int .u8 0) 1 1 Tryz.underlying51 hi0 hz0 hz1 hz2 rfl (by decide) _ _ _ rfl (World.ownsRow.alloc hO _) ⟨wr.heap.size, 0, none⟩ 2 2 [.int .u8 92, .int .u8 98] rfl rfl (newcells wr _ _) (fun x hx => by simp at hx; rcases hx with rfl | rfl <;> rfl) (by unfold maxLen; omega) (by omega) (by have := hB.size; simp; omega) ?_; intro v3 w3 hO3 hG3 _)
              exact ⟨⟨j + 1, by omega, by go_num, by rw [HE.out, HEE.out]; unfold OwnsBytes; rw [List.length_append, cellsB_appQ]; exact hO3, (hB.alloc hB.size _).grown hG3 (by have := hB.size; simp; omega) (fun q hq => (World.ownsRow.lt hO q hq).1)⟩, by simp [intOf]; omega⟩
            · obtain rfl : c = 9 := hcc.symm
              clear hcc
              have hix : (({ data := #[8, 9, 10, 12, 13, 34, 92] } : ByteArray)[1]'(by decide)) = 9 := rfl
              have hiy : (({ data := #[98, 116, 110, 102, 114, 34, 92] } : ByteArray)[1]'(by decide)) = 116 := rfl
              go_wp2_with (at_builtin; refine wpList_append_own _ rfl _ _ 51 rfl w.heap.size 5 i0 (.int .u8 0) 1 1 Tryz.underlying51 hi0 hz0 hz1 hz2 rfl (by decide) _ _ _ rfl (World.ownsRow.alloc hO _) ⟨wr.heap.size, 0, none⟩ 2 2 [.int .u8 92, .int .u8 116] rfl rfl (newcells wr _ _) (fun x hx => by simp at hx; rcases hx with rfl | rfl <;> rfl) (by unfold maxLen; omega) (by omega) (by have := hB.size; simp; omega) ?_; intro v3 w3 hO3 hG3 _)
              exact ⟨⟨j + 1, by omega, by go_num, by rw [HE.out, HEE.out]; unfold OwnsBytes; rw [List.length_append, cellsB_appQ]; exact hO3, (hB.alloc hB.size _).grown hG3 (by have := hB.size; simp; omega) (fun q hq => (World.ownsRow.lt hO q hq).1)⟩, by simp [intOf]; omega⟩
            · obtain rfl : c = 10 := hcc.symm
              clear hcc
              have hix : (({ data := #[8, 9, 10, 12, 13, 34, 92] } : ByteArray)[2]'(by decide)) = 10 := rfl
              have hiy : (({ data := #[98, 116, 110, 102, 114, 34, 92] } : ByteArray)[2]'(by decide)) = 110 := rfl
              go_wp2_with (at_builtin; refine wpList_append_own _ rfl _ _ 51 rfl w.heap.size 5 i0 (.int .u8 0) 1 1 Tryz.underlying51 hi0 hz0 hz1 hz2 rfl (by decide) _ _ _ rfl (World.ownsRow.alloc hO _) ⟨wr.heap.size, 0, none⟩ 2 2 [.int .u8 92, .int .u8 110] rfl rfl (newcells wr _ _) (fun x hx => by simp at hx; rcases hx with rfl | rfl <;> rfl) (by unfold maxLen; omega) (by omega) (by have := hB.size; simp; omega) ?_; intro v3 w3 hO3 hG3 _)
              exact ⟨⟨j + 1, by omega, by go_num, by rw [HE.out, HEE.out]; unfold OwnsBytes; rw [List.length_append, cellsB_appQ]; exact hO3, (hB.alloc hB.size _).grown hG3 (by have := hB.size; simp; omega) (fun q hq => (World.ownsRow.lt hO q hq).1)⟩, by simp [intOf]; omega⟩
            · obtain rfl : c = 12 := hcc.symm
              clear hcc
              have hix : (({ data := #[8, 9, 10, 12, 13, 34, 92] } : ByteArray)[3]'(by decide)) = 12 := rfl
              have hiy : (({ data := #[98, 116, 110, 102, 114, 34, 92] } : ByteArray)[3]'(by decide)) = 102 := rfl
              go_wp2_with (at_builtin; refine wpList_append_own _ rfl _ _ 51 rfl w.heap.size 5 i0 (.int .u8 0) 1 1 Tryz.underlying51 hi0 hz0 hz1 hz2 rfl (by decide) _ _ _ rfl (World.ownsRow.alloc hO _) ⟨wr.heap.size, 0, none⟩ 2 2 [.int .u8 92, .int .u8 102] rfl rfl (newcells wr _ _) (fun x hx => by simp at hx; rcases hx with rfl | rfl <;> rfl) (by unfold maxLen; omega) (by omega) (by have := hB.size; simp; omega) ?_; intro v3 w3 hO3 hG3 _)
              exact ⟨⟨j + 1, by omega, by go_num, by rw [HE.out, HEE.out]; unfold OwnsBytes; rw [List.length_append, cellsB_appQ]; exact hO3, (hB.alloc hB.size _).grown hG3 (by have := hB.size; simp; omega) (fun q hq => (World.ownsRow.lt hO q hq).1)⟩, by simp [intOf]; omega⟩
            · obtain rfl : c = 13 := hcc.symm
              clear hcc
              have hix : (({ data := #[8, 9, 10, 12, 13, 34, 92] } : ByteArray)[4]'(by decide)) = 13 := rfl
              have hiy : (({ data := #[98, 116, 110, 102, 114, 34, 92] } : ByteArray)[4]'(by decide)) = 114 := rfl
              go_wp2_with (at_builtin; refine wpList_append_own _ rfl _ _ 51 rfl w.heap.size 5 i0 (.int .u8 0) 1 1 Tryz.underlying51 hi0 hz0 hz1 hz2 rfl (by decide) _ _ _ rfl (World.ownsRow.alloc hO _) ⟨wr.heap.size, 0, none⟩ 2 2 [.int .u8 92, .int .u8 114] rfl rfl (newcells wr _ _) (fun x hx => by simp at hx; rcases hx with rfl | rfl <;> rfl) (by unfold maxLen; omega) (by omega) (by have := hB.size; simp; omega) ?_; intro v3 w3 hO3 hG3 _)
              exact ⟨⟨j + 1, by omega, by go_num, by rw [HE.out, HEE.out]; unfold OwnsBytes; rw [List.length_append, cellsB_appQ]; exact hO3, (hB.alloc hB.size _).grown hG3 (by have := hB.size; simp; omega) (fun q hq => (World.ownsRow.lt hO q hq).1)⟩, by simp [intOf]; omega⟩
            · obtain rfl : c = 34 := hcc.symm
              clear hcc
              have hix : (({ data := #[8, 9, 10, 12, 13, 34, 92] } : ByteArray)[5]'(by decide)) = 34 := rfl
              have hiy : (({ data := #[98, 116, 110, 102, 114, 34, 92] } : ByteArray)[5]'(by decide)) = 34 := rfl
              go_wp2_with (at_builtin; refine wpList_append_own _ rfl _ _ 51 rfl w.heap.size 5 i0 (.int .u8 0) 1 1 Tryz.underlying51 hi0 hz0 hz1 hz2 rfl (by decide) _ _ _ rfl (World.ownsRow.alloc hO _) ⟨wr.heap.size, 0, none⟩ 2 2 [.int .u8 92, .int .u8 34] rfl rfl (newcells wr _ _) (fun x hx => by simp at hx; rcases hx with rfl | rfl <;> rfl) (by unfold maxLen; omega) (by omega) (by have := hB.size; simp; omega) ?_; intro v3 w3 hO3 hG3 _)
              exact ⟨⟨j + 1, by omega, by go_num, by rw [HE.out, HEE.out]; unfold OwnsBytes; rw [List.length_append, cellsB_appQ]; exact hO3, (hB.alloc hB.size _).grown hG3 (by have := hB.size; simp; omega) (fun q hq => (World.ownsRow.lt hO q hq).1)⟩, by simp [intOf]; omega⟩
            · obtain rfl : c = 92 := hcc.symm
              clear hcc
              have hix : (({ data := #[8, 9, 10, 12, 13, 34, 92] } : ByteArray)[6]'(by decide)) = 92 := rfl
              have hiy : (({ data := #[98, 116, 110, 102, 114, 34, 92] } : ByteArray)[6]'(by decide)) = 92 := rfl
              go_wp2_with (at_builtin; refine wpList_append_own _ rfl _ _ 51 rfl w.heap.size 5 i0 (.int .u8 0) 1 1 Tryz.underlying51 hi0 hz0 hz1 hz2 rfl (by decide) _ _ _ rfl (World.ownsRow.alloc hO _) ⟨wr.heap.size, 0, none⟩ 2 2 [.int .u8 92, .int .u8 92] rfl rfl (newcells wr _ _) (fun x hx => by simp at hx; rcases hx with rfl | rfl <;> rfl) (by unfold maxLen; omega) (by omega) (by have := hB.size; simp; omega) ?_; intro v3 w3 hO3 hG3 _)
              exact ⟨⟨j + 1, by omega, by go_num, by rw [HE.out, HEE.out]; unfold OwnsBytes; rw [List.length_append, cellsB_appQ]; exact hO3, (hB.alloc hB.size _).grown hG3 (by have := hB.size; simp; omega) (fun q hq => (World.ownsRow.lt hO q hq).1)⟩, by simp [intOf]; omega⟩
          · have hn7 : n = 7 := by omega
            subst hn7
            clear HPA HPB hnp
            by_cases h32 : c.toNat < 32 ∨ c.toNat = 127
            · have HEE : Hid (Jsn.escB c = [92, 117, 48, 48, Jsn.hexC (c.toNat / 16), Jsn.hexC (c.toNat % 16)]) := by
                show Jsn.escB c = _
                rw [Jsn.esc_eq, if_neg h7, if_pos (by rcases h32 with h | h; exact .inl (UInt8.lt_iff_toNat_lt.2 h); exact .inr (UInt8.toNat_inj.mp h))]
              clear hPle hnx h7
              have d1 : (c.toNat : Int) < 32 ∨ (c.toNat : Int) = 127 := by omega
              have hx1 := Jsn.hex_at (c.toNat / 16) (by omega)
              have hx2 := Jsn.hex_at (c.toNat % 16) (by omega)
              have wq : IntKind.u8.wrap ((c.toNat : Int) / 16) = (c.toNat : Int) / 16 := by simp [IntKind.wrap, IntKind.bits, IntKind.signed]; omega
              have tq : (c.toNat : Int).tmod 16 = (c.toNat : Int) % 16 := Int.tmod_eq_emod_of_nonneg (by omega)
              have hy1 := Jsn.hex_atI (c.toNat / 16) ((c.toNat : Int) / 16) (by omega) (by omega)
              have hy2 := Jsn.hex_atI (c.toNat % 16) ((c.toNat : Int) % 16) (by omega) (by omega)
              have b1 : 0 ≤ (c.toNat : Int) / 16 ∧ (c.toNat : Int) / 16 < 16 := by omega
              have b2 : 0 ≤ (c.toNat : Int) % 16 ∧ (c.toNat : Int) % 16 < 16 := by omega
              have k1 : c.toNat / 16 < 16 := by omega
              have k2 : c.toNat % 16 < 16 := by omega
              generalize Jsn.hexC (c.toNat / 16) = y1 at *
              generalize Jsn.hexC (c.toNat % 16) = y2 at *
              have hOd : OwnsBytes wr.drew w.heap.size u4 f := ownsRow_drew hO
              have hBd : Below w.heap.size w wr.drew := hB.drew
              by_cases h32' : (c.toNat : Int) < 32
              · clear d1 h32
                go_upto_region 15 with fail
                refine wp_region_held_drew (S := fun _ => True) (by kernel_rfl) trivial (fun hS => ?_)
                generalize wr.drew = wd at *
                refine takeH 0 54 (u4) rfl rfl (by kernel_rfl) (by kernel_rfl) (by kernel_rfl) (fun _ _ _ h => h) (Or.inl ⟨by kernel_rfl, fun W _ => by go_simp⟩) hS ?_
                simp only [Act.put, List.setIfInBounds_toArray, List.set_cons_zero, List.set_cons_succ]
                refine takeH 1 55 (.string { data := #[48, 49, 50, 51, 52, 53, 54, 55, 56, 57, 97, 98, 99, 100, 101, 102] }) rfl rfl (by kernel_rfl) (by kernel_rfl) (by kernel_rfl) (fun _ _ _ h => h) (Or.inl ⟨by kernel_rfl, fun W _ => by go_simp⟩) hS ?_
                simp only [Act.put, List.setIfInBounds_toArray, List.set_cons_zero, List.set_cons_succ]
                refine takeH 2 56 (.int .u8 (c.toNat : Int)) rfl rfl (by kernel_rfl) (by kernel_rfl) (by kernel_rfl) (fun _ _ _ h => h) (Or.inl ⟨by kernel_rfl, fun W _ => by go_simp⟩) hS ?_
                simp only [Act.put, List.setIfInBounds_toArray, List.set_cons_zero, List.set_cons_succ]
                refine takeH 3 57 (.int .u8 ((c.toNat / 16 : Nat) : Int)) rfl rfl (by kernel_rfl) (by kernel_rfl) (by kernel_rfl) (fun _ _ _ h => h) (Or.inl ⟨by kernel_rfl, fun W _ => by go_simp⟩) hS ?_
                simp only [Act.put, List.setIfInBounds_toArray, List.set_cons_zero, List.set_cons_succ]
                refine takeH 4 58 (.int .u8 (y1.toNat : Int)) rfl rfl (by kernel_rfl) (by kernel_rfl) (by kernel_rfl) (fun _ _ _ h => h) (Or.inl ⟨by kernel_rfl, fun W _ => by go_simp; try (rw [dif_pos b1, hy1]; rfl)⟩) hS ?_
                simp only [Act.put, List.setIfInBounds_toArray, List.set_cons_zero, List.set_cons_succ]
                refine takeH 5 59 (.string { data := #[48, 49, 50, 51, 52, 53, 54, 55, 56, 57, 97, 98, 99, 100, 101, 102] }) rfl rfl (by kernel_rfl) (by kernel_rfl) (by kernel_rfl) (fun _ _ _ h => h) (Or.inl ⟨by kernel_rfl, fun W _ => by go_simp⟩) hS ?_
                simp only [Act.put, List.setIfInBounds_toArray, List.set_cons_zero, List.set_cons_succ]
                refine takeH 6 60 (.int .u8 (c.toNat : Int)) rfl rfl (by kernel_rfl) (by kernel_rfl) (by kernel_rfl) (fun _ _ _ h => h) (Or.inl ⟨by kernel_rfl, fun W _ => by go_simp⟩) hS ?_
                simp only [Act.put, List.setIfInBounds_toArray, List.set_cons_zero, List.set_cons_succ]
                refine takeH 7 61 (.int .u8 ((c.toNat % 16 : Nat) : Int)) rfl rfl (by kernel_rfl) (by kernel_rfl) (by kernel_rfl) (fun _ _ _ h => h) (Or.inl ⟨by kernel_rfl, fun W _ => by go_simp⟩) hS ?_
                simp only [Act.put, List.setIfInBounds_toArray, List.set_cons_zero, List.set_cons_succ]
                refine takeH 8 62 (.int .u8 (y2.toNat : Int)) rfl rfl (by kernel_rfl) (by kernel_rfl) (by kernel_rfl) (fun _ _ _ h => h) (Or.inl ⟨by kernel_rfl, fun W _ => by go_simp; try (rw [dif_pos b2, hy2]; rfl)⟩) hS ?_
                simp only [Act.put, List.setIfInBounds_toArray, List.set_cons_zero, List.set_cons_succ]
                refine wpAnyH_ready (rs := [9]) (by kernel_rfl) (by simp) ?_
                refine AllReadyH.cons rfl (fun K hK => ?_) AllReadyH.nil
                go_simp
                refine hK.out _ _ trivial (fun hS => ?_)
                clear hK K
                refine wpAnyH_ready (rs := [10]) (by kernel_rfl) (by simp) ?_
                refine AllReadyH.cons rfl (fun K hK => ?_) AllReadyH.nil
                refine step_append_lies _ rfl _ _ 51 rfl w.heap.size 5 i0 (.int .u8 0) 1 1 Tryz.underlying51 hi0 hz0 hz1 hz2 rfl (by decide) _ _ _ rfl (World.ownsRow.alloc hOd _) ⟨wd.heap.size, 0, none⟩ 6 6 [.int .u8 92, .int .u8 117, .int .u8 48, .int .u8 48, .int .u8 (y1.toNat : Int), .int .u8 (y2.toNat : Int)] rfl rfl (newcells wd _ _) (fun x hx => by simp at hx; rcases hx with rfl | rfl | rfl | rfl | rfl | rfl <;> rfl) (by decide) (by unfold maxLen; omega) (by omega) (by have := hBd.size; simp; omega) _ rfl ?_
                intro g3 cap3 w3 hO3 hG3 _ _
                refine hK.out _ _ trivial (fun hS => ?_)
                clear hK K
                refine takeH 11 4 (.slice (some ⟨g3, 0, none⟩) (f.length + 6) cap3) rfl rfl (by kernel_rfl) (by kernel_rfl) (by kernel_rfl) (fun _ _ _ h => h) (Or.inl ⟨by kernel_rfl, fun W _ => by go_simp⟩) hS ?_
                simp only [Act.put, List.setIfInBounds_toArray, List.set_cons_zero, List.set_cons_succ]
                refine wpAnyH_done (by kernel_rfl) ?_ _
                go_wp2
                exact ⟨⟨j + 1, by omega, by go_num, by rw [HE.out, HEE.out]; unfold OwnsBytes; rw [List.length_append, cellsB_appQ]; exact hO3, (hBd.alloc hBd.size _).grown hG3 (by have := hBd.size; simp; omega) (fun q hq => (World.ownsRow.lt hOd q hq).1)⟩, by simp [intOf]; omega⟩
              · have d2 : ((c.toNat : Int) == 127) = true := by simp; omega
                clear d1 h32
                go_upto_region 15 with fail
                refine wp_region_held_drew (S := fun _ => True) (by kernel_rfl) trivial (fun hS => ?_)
                generalize wr.drew = wd at *
                refine takeH 0 54 (u4) rfl rfl (by kernel_rfl) (by kernel_rfl) (by kernel_rfl) (fun _ _ _ h => h) (Or.inl ⟨by kernel_rfl, fun W _ => by go_simp⟩) hS ?_
                simp only [Act.put, List.setIfInBounds_toArray, List.set_cons_zero, List.set_cons_succ]
                refine takeH 1 55 (.string { data := #[48, 49, 50, 51, 52, 53, 54, 55, 56, 57, 97, 98, 99, 100, 101, 102] }) rfl rfl (by kernel_rfl) (by kernel_rfl) (by kernel_rfl) (fun _ _ _ h => h) (Or.inl ⟨by kernel_rfl, fun W _ => by go_simp⟩) hS ?_
                simp only [Act.put, List.setIfInBounds_toArray, List.set_cons_zero, List.set_cons_succ]
                refine takeH 2 56 (.int .u8 (c.toNat : Int)) rfl rfl (by kernel_rfl) (by kernel_rfl) (by kernel_rfl) (fun _ _ _ h => h) (Or.inl ⟨by kernel_rfl, fun W _ => by go_simp⟩) hS ?_
                simp only [Act.put, List.setIfInBounds_toArray, List.set_cons_zero, List.set_cons_succ]
                refine takeH 3 57 (.int .u8 ((c.toNat / 16 : Nat) : Int)) rfl rfl (by kernel_rfl) (by kernel_rfl) (by kernel_rfl) (fun _ _ _ h => h) (Or.inl ⟨by kernel_rfl, fun W _ => by go_simp⟩) hS ?_
                simp only [Act.put, List.setIfInBounds_toArray, List.set_cons_zero, List.set_cons_succ]
                refine takeH 4 58 (.int .u8 (y1.toNat : Int)) rfl rfl (by kernel_rfl) (by kernel_rfl) (by kernel_rfl) (fun _ _ _ h => h) (Or.inl ⟨by kernel_rfl, fun W _ => by go_simp; try (rw [dif_pos b1, hy1]; rfl)⟩) hS ?_
                simp only [Act.put, List.setIfInBounds_toArray, List.set_cons_zero, List.set_cons_succ]
                refine takeH 5 59 (.string { data := #[48, 49, 50, 51, 52, 53, 54, 55, 56, 57, 97, 98, 99, 100, 101, 102] }) rfl rfl (by kernel_rfl) (by kernel_rfl) (by kernel_rfl) (fun _ _ _ h => h) (Or.inl ⟨by kernel_rfl, fun W _ => by go_simp⟩) hS ?_
                simp only [Act.put, List.setIfInBounds_toArray, List.set_cons_zero, List.set_cons_succ]
                refine takeH 6 60 (.int .u8 (c.toNat : Int)) rfl rfl (by kernel_rfl) (by kernel_rfl) (by kernel_rfl) (fun _ _ _ h => h) (Or.inl ⟨by kernel_rfl, fun W _ => by go_simp⟩) hS ?_
                simp only [Act.put, List.setIfInBounds_toArray, List.set_cons_zero, List.set_cons_succ]
                refine takeH 7 61 (.int .u8 ((c.toNat % 16 : Nat) : Int)) rfl rfl (by kernel_rfl) (by kernel_rfl) (by kernel_rfl) (fun _ _ _ h => h) (Or.inl ⟨by kernel_rfl, fun W _ => by go_simp⟩) hS ?_
                simp only [Act.put, List.setIfInBounds_toArray, List.set_cons_zero, List.set_cons_succ]
                refine takeH 8 62 (.int .u8 (y2.toNat : Int)) rfl rfl (by kernel_rfl) (by kernel_rfl) (by kernel_rfl) (fun _ _ _ h => h) (Or.inl ⟨by kernel_rfl, fun W _ => by go_simp; try (rw [dif_pos b2, hy2]; rfl)⟩) hS ?_
                simp only [Act.put, List.setIfInBounds_toArray, List.set_cons_zero, List.set_cons_succ]
                refine wpAnyH_ready (rs := [9]) (by kernel_rfl) (by simp) ?_
                refine AllReadyH.cons rfl (fun K hK => ?_) AllReadyH.nil
                go_simp
                refine hK.out _ _ trivial (fun hS => ?_)
                clear hK K
                refine wpAnyH_ready (rs := [10]) (by kernel_rfl) (by simp) ?_
                refine AllReadyH.cons rfl (fun K hK => ?_) AllReadyH.nil
                refine step_append_lies _ rfl _ _ 51 rfl w.heap.size 5 i0 (.int .u8 0) 1 1 Tryz.underlying51 hi0 hz0 hz1 hz2 rfl (by decide) _ _ _ rfl (World.ownsRow.alloc hOd _) ⟨wd.heap.size, 0, none⟩ 6 6 [.int .u8 92, .int .u8 117, .int .u8 48, .int .u8 48, .int .u8 (y1.toNat : Int), .int .u8 (y2.toNat : Int)] rfl rfl (newcells wd _ _) (fun x hx => by simp at hx; rcases hx with rfl | rfl | rfl | rfl | rfl | rfl <;> rfl) (by decide) (by unfold maxLen; omega) (by omega) (by have := hBd.size; simp; omega) _ rfl ?_
                intro g3 cap3 w3 hO3 hG3 _ _
                refine hK.out _ _ trivial (fun hS => ?_)
                clear hK K
                refine takeH 11 4 (.slice (some ⟨g3, 0, none⟩) (f.length + 6) cap3) rfl rfl (by kernel_rfl) (by kernel_rfl) (by kernel_rfl) (fun _ _ _ h => h) (Or.inl ⟨by kernel_rfl, fun W _ => by go_simp⟩) hS ?_
                simp only [Act.put, List.setIfInBounds_toArray, List.set_cons_zero, List.set_cons_succ]
                refine wpAnyH_done (by kernel_rfl) ?_ _
                go_wp2
                exact ⟨⟨j + 1, by omega, by go_num, by rw [HE.out, HEE.out]; unfold OwnsBytes; rw [List.length_append, cellsB_appQ]; exact hO3, (hBd.alloc hBd.size _).grown hG3 (by have := hBd.size; simp; omega) (fun q hq => (World.ownsRow.lt hOd q hq).1)⟩, by simp [intOf]; omega⟩
            · have HEE : Hid (Jsn.escB c = [c]) := by
                show Jsn.escB c = _
                rw [Jsn.esc_eq, if_neg h7, if_neg (by rintro (h | h); exact h32 (.inl (UInt8.lt_iff_toNat_lt.1 h)); exact h32 (.inr (by rw [h]; rfl)))]
              have g1 : ¬ (c.toNat : Int) < 32 := by omega
              have g2 : ((c.toNat : Int) == 127) = false := by simp; omega
              clear hPle hnx h7 h32
              go_wp2_with (at_builtin; refine wpList_append_own _ rfl _ _ 51 rfl w.heap.size 5 i0 (.int .u8 0) 1 1 Tryz.underlying51 hi0 hz0 hz1 hz2 rfl (by decide) _ _ _ rfl (World.ownsRow.alloc hO _) ⟨wr.heap.size, 0, none⟩ 1 1 [.int .u8 (c.toNat : Int)] rfl rfl (newcells wr _ _) (fun x hx => by simp at hx; rcases hx with rfl <;> rfl) (by unfold maxLen; omega) (by omega) (by have := hB.size; simp; omega) ?_; intro v3 w3 hO3 hG3 _)
              exact ⟨⟨j + 1, by omega, by go_num, by rw [HE.out, HEE.out]; unfold OwnsBytes; rw [List.length_append, cellsB_appQ]; exact hO3, (hB.alloc hB.size _).grown hG3 (by have := hB.size; simp; omega) (fun q hq => (World.ownsRow.lt hO q hq).1)⟩, by simp [intOf]; omega⟩
    · have hjl : l.take j = l := List.take_of_length_le (by omega)
      rw [hjl] at hO
      have hlen : (l.flatMap Jsn.escB).length ≤ 600000000 := by
        have h1 := Jsn.escLen_le l
        unfold Jsn.escLen at h1
        omega
      have hcv := conv_owned hO
      have HQ : Hid (X = 34 :: (l.flatMap Jsn.escB ++ [34])) := HX.out
      generalize l.flatMap Jsn.escB = f at *
      have hs := str_size f
      go_wp2_with fail
      go_ret
      refine ⟨?_, hB⟩
      rw [HQ.out]
      exact ret_text (by simp [str])
end Go.Proofs.YtmmpbjpeiclacaaGreatDoor
