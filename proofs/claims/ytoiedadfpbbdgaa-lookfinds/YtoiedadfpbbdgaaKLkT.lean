/- Texts laid as one. -/
import Derived.Test.YtoiedadfpbbdgaaKTreMN
import Derived.Test.YtoiedadfpbbdgaaKLkA
import Derived.Test.YtoiedadfpbbdgaaKUBY
import Derived.Test.YtoiedadfpbbdgaaKRfLT
import Derived.Test.YtoiedadfpbbdgaaKTkIJ
import Derived.Deep.RegionHeldLaw
import Derived.Test.YtoiedadfpbbdgaaKAscii
import Derived.Test.YtoiedadfpbbdgaaKLkM
import Derived.Test.YtoiedadfpbbdgaaKTrqJE
/- A teller in memory: a builder that lies within it. -/
set_option linter.unusedVariables false
set_option linter.unusedSimpArgs false
namespace Go.Proofs.Ytoiedadfpbbdgaa
open Go.RowKit
set_option maxHeartbeats 1000000 in
set_option maxRecDepth 100000 in
theorem to_bare14 (b : Nat) (w : World) (hsh : w.shape? b = some (94, 4)) :
    (convert 89 138 (.pointer (some ⟨b, 2, none⟩))).run Try.prog w = .ok (.pointer (some ⟨b, 2, none⟩)) w := by
  obtain ⟨j, hj, hjs⟩ := Option.map_eq_some_iff.1 sizeBuilder
  simp [convert, run_underlying Try.underlying89, run_underlying Try.underlying138, Conv.unsafePointer, Conv.seenAt, viewAt, cellsIn, hsh, sizeOf, typeInfo, hj, hjs]
theorem liesW14 : liesAt Try.prog Try.prog.depth 94 (4 / Try.prog.cellsOf 94) 2 92 1 = true := by kernel_rfl
set_option maxHeartbeats 1000000 in
set_option maxRecDepth 100000 in
theorem of_bare14 (b : Nat) (w : World) (hsh : w.shape? b = some (94, 4)) :
    (convert 138 89 (.pointer (some ⟨b, 2, none⟩))).run Try.prog w = .ok (.pointer (some ⟨b, 2, none⟩)) w := by
  obtain ⟨j, hj, hjs⟩ := Option.map_eq_some_iff.1 sizeBuilder
  simp [convert, run_underlying Try.underlying89, run_underlying Try.underlying138, Conv.unsafePointer, Conv.seenAt, viewAt, hsh, variablesAt, liesW14, sizeOf, typeInfo, hj]
set_option maxHeartbeats 1000000 in
set_option maxRecDepth 100000 in
theorem copyCheck_fresh14 (b : Nat) (w : World) (h0 : w.cell? ⟨b, 2, none⟩ = some (.pointer none)) (hsh : w.shape? b = some (94, 4)) (hfz : w.frozen? ⟨b, 2, none⟩ = false) :
    Calls Try.prog 95 #[.pointer (some ⟨b, 2, none⟩)] w fun e w' => e = .returned (.tuple #[]) ∧ w' = w.setCell ⟨b, 2, none⟩ (.pointer (some ⟨b, 2, none⟩)) := by
  go_enter Try.func95, Try.ntmps95
  go_wp2
  rw [to_bare14 b w hsh]
  simp only [Result.andThen]
  rw [Oper.upon_value]
  go_wp2
  rw [run_callFunc_extern Try.func108 (by kernel_rfl) (by kernel_rfl) (by kernel_rfl) (e := Extern.AbiNoEscape.same) (by kernel_rfl)]
  rw [Lib.run_noEscape]
  simp only [Result.andThen]
  rw [Oper.upon_value]
  go_wp2
  rw [of_bare14 b w hsh]
  simp only [Result.andThen]
  rw [Oper.upon_value]
  go_wp2
  go_end0
  exact ⟨rfl, rfl⟩
set_option maxHeartbeats 1000000 in
set_option maxRecDepth 100000 in
theorem copyCheck_used14 (b : Nat) (w : World) (h0 : w.cell? ⟨b, 2, none⟩ = some (.pointer (some ⟨b, 2, none⟩))) :
    Calls Try.prog 95 #[.pointer (some ⟨b, 2, none⟩)] w fun e w' => e = .returned (.tuple #[]) ∧ w' = w := by
  obtain ⟨j, hj, hjs⟩ := Option.map_eq_some_iff.1 sizeBuilder
  go_enter Try.func95, Try.ntmps95
  go_wp2
  rw [Lib.run_neq_ptr_same w _ Try.underlying89 hj]
  go_wp2
  go_end0
  exact ⟨rfl, rfl⟩
/-- A writer's block: its nodes, and a builder with these bytes. -/
def TlAt (b : Nat) (w : World) (nv pv : Value) (acc : List UInt8) : Prop :=
  ∃ p v, w.heap[b]? = some (.cells #[nv, pv, p, v] 94 (0, 0)) ∧ (p = .pointer none ∨ p = .pointer (some ⟨b, 2, none⟩)) ∧ w.ownsRowF b 5 1 v acc.length (Lib.byteCells acc) ∧ v.ownBlock ≠ some b
theorem TlAt.lt {b : Nat} {w : World} {nv pv : Value} {acc : List UInt8} (h : TlAt b w nv pv acc) : b < w.heap.size := by
  obtain ⟨p, v, h1, _⟩ := h
  exact (Array.getElem?_eq_some_iff.1 h1).1
theorem shape14 {b : Nat} {w : World} {x0 x1 x2 x3 : Value} (h : w.heap[b]? = some (.cells #[x0, x1, x2, x3] 94 (0, 0))) : w.shape? b = some (94, 4) := by simp [World.shape?, h]
theorem ownsF14 {w : World} {B b i : Nat} {v u : Value} {bs : List Value} (h : w.ownsRowF B 5 1 v bs.length bs) (hne : v.ownBlock ≠ some b) : (w.setCell ⟨b, i, none⟩ u).ownsRowF B 5 1 v bs.length bs :=
  h.kept (row := some b) ⟨rfl, rfl, rfl, by simp [World.setCell], fun k _ hk => Below.heap_setCell _ _ _ _ (fun e => hk (by simp [e]))⟩ (Or.inr hne)
theorem TlAt.below {b : Nat} {w w' : World} {nv pv : Value} {acc : List UInt8} (h : TlAt b w nv pv acc) (hb : Below w.heap.size w w') : TlAt b w' nv pv acc := by
  obtain ⟨p, v, h1, h2, h3, h4⟩ := h
  refine ⟨p, v, (hb.block b (Array.getElem?_eq_some_iff.1 h1).1).trans h1, h2, ?_, h4⟩
  refine ⟨h3.1, ?_⟩
  rcases h3.2 with hn | ⟨g, cap, cur, fz, e, hB, hg, rest⟩
  · exact .inl hn
  · exact .inr ⟨g, cap, cur, fz, e, hB, (hb.block g (Array.getElem?_eq_some_iff.1 hg).1).trans hg, rest⟩
/-- What a writer's call keeps: what lies below its block, and what is neither that block nor one of bytes. -/
structure Wr14 (b : Nat) (w w' : World) : Prop where
  bel : Below b w w'
  others : Lib.OthersKept 5 (some b) w w'
theorem Wr14.refl (b : Nat) (w : World) : Wr14 b w w := ⟨Below.refl _ _, Lib.OthersKept.refl _ _ _⟩
theorem Wr14.trans {b : Nat} {a c d : World} (h : Wr14 b a c) (k : Wr14 b c d) : Wr14 b a d := ⟨h.bel.trans k.bel, h.others.trans k.others⟩
theorem Wr14.of {b : Nat} {w w' : World} (h : Below w.heap.size w w') (hb : b ≤ w.heap.size) : Wr14 b w w' :=
  ⟨h.mono hb, fun k o hk _ _ => (h.block k (Array.getElem?_eq_some_iff.1 hk).1).trans hk⟩
set_option maxHeartbeats 1000000 in
set_option maxRecDepth 100000 in
theorem copyCheck14 {b : Nat} {w : World} {nv pv : Value} {acc : List UInt8} (h : TlAt b w nv pv acc) :
    Calls Try.prog 95 #[.pointer (some ⟨b, 2, none⟩)] w fun e w' => e = .returned (.tuple #[]) ∧ Wr14 b w w' ∧ ∃ v, w'.heap[b]? = some (.cells #[nv, pv, .pointer (some ⟨b, 2, none⟩), v] 94 (0, 0)) ∧ w'.ownsRowF b 5 1 v acc.length (Lib.byteCells acc) ∧ v.ownBlock ≠ some b := by
  obtain ⟨p, v, h1, h2, h3, h4⟩ := h
  rcases h2 with rfl | rfl
  · refine (copyCheck_fresh14 b w (Lib.cell_of_heap h1 2) (shape14 h1) (Lib.frozen_of_heap h1 2)).mono ?_
    rintro e w' ⟨rfl, rfl⟩
    refine ⟨rfl, ⟨(Below.refl b w).setCell (p := ⟨b, 2, none⟩) (Nat.le_refl _) _, (Lib.OthersKept.refl _ _ w).setCell ⟨b, 2, none⟩ rfl _⟩, v, ?_, ?_, h4⟩
    · simp [World.setCell, Array.getElem?_modify, h1]
    · have hl : acc.length = (Lib.byteCells acc).length := (Lib.byteCells_length _).symm
      rw [hl] at h3 ⊢
      exact ownsF14 h3 h4
  · refine (copyCheck_used14 b w (Lib.cell_of_heap h1 2)).mono ?_
    rintro e w' ⟨rfl, rfl⟩
    exact ⟨rfl, Wr14.refl b _, v, h1, h3, h4⟩
set_option maxHeartbeats 4000000 in
set_option maxRecDepth 100000 in
theorem WriteString14 {b : Nat} {w : World} {nv pv : Value} {acc : List UInt8} (s : List UInt8) (h : TlAt b w nv pv acc) (hl : acc.length + s.length ≤ 10000000000) :
    Calls Try.prog 82 #[.pointer (some ⟨b, 2, none⟩), .string (str s)] w fun e w' => (∃ u, e = .returned u) ∧ TlAt b w' nv pv (acc ++ s) ∧ Wr14 b w w' := by
  obtain ⟨i0, hi, hz0, hz1, hz2⟩ := info_parts infoByte
  have hss := str_size s
  have hbl := h.lt
  have hlen := Lib.byteCells_length acc
  go_enter Try.func82, Try.ntmps82
  go_wp2_with (go_at_call 95; refine (copyCheck14 h).mono ?_)
  rintro e w1 ⟨rfl, hb1, v, hbk, hown, hne⟩
  have hsz := hb1.bel.size
  have c1 : w1.cell? ⟨b, 2, none⟩ = some (.pointer (some ⟨b, 2, none⟩)) := by rw [Lib.cell_of_heap hbk]; rfl
  have c2 : w1.cell? ⟨b, 3, none⟩ = some v := by rw [Lib.cell_of_heap hbk]; rfl
  have hlt : b < w1.heap.size := (Array.getElem?_eq_some_iff.1 hbk).1
  go_wp2_with (at_builtin; refine Lib.wpList_append_own_stringF _ rfl _ _ 90 9 rfl b 5 i0 Try.underlying90 Try.underlying9 hi hz0 hz1 hz2 _ _ _ rfl hown (str s) rfl (by unfold maxLen; omega) (by omega) (by omega) ?_)
  intro v' w2 hown' hgrow _
  have hb2 : w2.heap[b]? = some (.cells #[nv, pv, .pointer (some ⟨b, 2, none⟩), v] 94 (0, 0)) := by
    rw [hgrow.block b hlt (fun e => hne e.symm)]
    exact hbk
  have d1 : w2.cell? ⟨b, 2, none⟩ = some (.pointer (some ⟨b, 2, none⟩)) := by rw [Lib.cell_of_heap hb2]; rfl
  have d2 : w2.cell? ⟨b, 3, none⟩ = some v := by rw [Lib.cell_of_heap hb2]; rfl
  have f2 : w2.frozen? ⟨b, 3, none⟩ = false := Lib.frozen_of_heap hb2 3
  obtain ⟨ao, n', cap, rfl⟩ : ∃ ao n' cap, v' = .slice ao n' cap := by
    rcases hown'.2 with ⟨hv, _⟩ | ⟨g, cap, cur, fz, hv, _⟩
    · exact ⟨_, _, _, hv⟩
    · exact ⟨_, _, _, hv⟩
  have hne' : (Value.slice ao n' cap).ownBlock ≠ some b := fun e => by
    rcases hown'.2 with ⟨hv, _⟩ | ⟨g, cap2, cur, fz, hv, hB, hg, _⟩
    · rw [hv] at e
      cases e
    · rw [hv] at e
      cases e
      rw [hb2] at hg
      cases hg
  have hown2 : w2.ownsRowF b 5 1 (.slice ao n' cap) (Lib.byteCells (acc ++ s)).length (Lib.byteCells (acc ++ s)) := by
    rw [Lib.byteCells_append, List.length_append, ← strCells_str s, hlen, Lib.strCells_length]
    exact hown'
  go_wp2
  go_ret2
  refine ⟨⟨_, rfl⟩, ⟨_, _, ?_, .inr rfl, ?_, hne'⟩, ⟨(hb1.bel.grown hgrow (by omega) (fun k hk => (hown.lt k hk).1)).setCell (p := ⟨b, 3, none⟩) (Nat.le_refl _) _, (hb1.others.grown hgrow (Lib.ownsRowF_kind hown)).setCell ⟨b, 3, none⟩ rfl _⟩⟩
  · simp [World.setCell, Array.getElem?_modify, hb2]
  · rw [← Lib.byteCells_length (acc ++ s)]
    exact ownsF14 hown2 hne'
set_option maxHeartbeats 4000000 in
set_option maxRecDepth 100000 in
theorem String14 {b : Nat} {w : World} {nv pv : Value} {acc : List UInt8} (h : TlAt b w nv pv acc) (hl : acc.length ≤ 10000000000) :
    Calls Try.prog 67 #[.pointer (some ⟨b, 2, none⟩)] w fun e w' => e = .returned (.string (str acc)) ∧ Below b w w' := by
  have hbl := h.lt
  have mixed : Try.prog.follows Departure.mixedOrders = true := by kernel_rfl
  obtain ⟨p, v, hbk, hp, hown, hne⟩ := h
  have hbkd : w.drew.heap[b]? = some (.cells #[nv, pv, p, v] 94 (0, 0)) := hbk
  have c2 := Lib.cell_of_heap hbkd 3
  have c20 := Lib.cell_of_heap hbk 3
  have hBd : Below b w w.drew := (Below.refl b w).drew
  by_cases h0 : acc = []
  · subst h0
    have hUS := fun (W : World) (q : Option Addr) => Lib.run_unsafeString_none (P := Try.prog) W 116 3 9 q
    have HE : Hid (str [] = ByteArray.empty) := rfl
    rcases hown.2 with ⟨rfl, _⟩ | ⟨g, cap, cur, fz, rfl, hbg, hg, hrest⟩
    · have hSD : (Builtin.unsafeSliceData_ #[90] 116 #[.slice none 0 0]).run Try.prog w.drew = .ok (.pointer none) w.drew := rfl
      have HB := hideT hBd
      clear hbk hp hown hne hbkd hBd
      go_enter Try.func67, Try.ntmps67
      go_wp2
      go_region_o
      all_goals (go_wp2; go_ret; exact ⟨rfl, HB.out⟩)
    · by_cases hc0 : cap = 0
      · subst hc0
        have hgd : w.drew.heap[g]? = some (.cells cur 5 fz) := hg
        have hSD : (Builtin.unsafeSliceData_ #[90] 116 #[.slice (some ⟨g, 0, none⟩) 0 0]).run Try.prog w.drew = .ok (.pointer (some ⟨w.drew.heap.size, 0, none⟩)) (w.drew.alloc (.view ⟨g, 0, none⟩ 5)) :=
          Lib.run_unsafeSliceData_zero w.drew _ _ 5 Try.underlying116 ⟨g, 0, none⟩ 0 (5, cur.size) (by simp [World.shape?, hgd])
        have c5 : (w.drew.alloc (.view ⟨g, 0, none⟩ 5)).cell? ⟨b, 3, none⟩ = some (.slice (some ⟨g, 0, none⟩) 0 0) := by
          have : (w.drew.alloc (.view ⟨g, 0, none⟩ 5)).heap[b]? = _ := (Lib.alloc_old w.drew _ b hbl).trans hbkd
          rw [Lib.cell_of_heap this]; rfl
        have c6 : (w.alloc (.view ⟨g, 0, none⟩ 5)).drew.cell? ⟨b, 3, none⟩ = some (.slice (some ⟨g, 0, none⟩) 0 0) := c5
        have HB : Hid (Below b w (w.drew.alloc (.view ⟨g, 0, none⟩ 5))) := hBd.alloc (Nat.le_of_lt hbl) _
        clear hbk hp hown hne hbkd hBd hrest hg hgd
        go_enter Try.func67, Try.ntmps67
        go_wp2
        go_region_o
        all_goals (go_wp2; go_ret; exact ⟨rfl, HB.out⟩)
      · have hSD : (Builtin.unsafeSliceData_ #[90] 116 #[.slice (some ⟨g, 0, none⟩) 0 cap]).run Try.prog w.drew = .ok (.pointer (some ⟨g, 0, none⟩)) w.drew :=
          Lib.run_unsafeSliceData_row _ _ _ _ _ _ hc0
        have HB := hideT hBd
        clear hbk hp hown hne hbkd hBd hrest hg hc0
        go_enter Try.func67, Try.ntmps67
        go_wp2
        go_region_o
        all_goals (go_wp2; go_ret; exact ⟨rfl, HB.out⟩)
  · have hl0 : acc.length ≠ 0 := fun e => h0 (List.length_eq_zero_iff.1 e)
    rcases hown.2 with ⟨_, hz⟩ | ⟨g, cap, cur, fz, rfl, hbg, hg, hfz, hnc, hcm, hcs, htake⟩
    · exact absurd hz hl0
    · have hgd : w.drew.heap[g]? = some (.cells cur 5 fz) := hg
      have hSD : (Builtin.unsafeSliceData_ #[90] 116 #[.slice (some ⟨g, 0, none⟩) acc.length cap]).run Try.prog w.drew = .ok (.pointer (some ⟨g, 0, none⟩)) w.drew :=
        Lib.run_unsafeSliceData_row _ _ _ _ _ _ (by omega)
      have hUS : (Builtin.unsafeString_ #[116, 3] 9 #[.pointer (some ⟨g, 0, none⟩), .int .i64 acc.length]).run Try.prog w.drew = .ok (.string ⟨acc.toArray⟩) (w.drew.freeze ⟨g, 0, none⟩ acc.length) := by
        refine Lib.run_unsafeString_row w.drew 116 3 9 5 Try.underlying116 (by kernel_rfl) g cur.size (by simp [World.shape?, hgd]) acc h0 (by omega) (by unfold maxLen at hcm; omega) ?_
        intro j x hx
        exact hown.cells (g := g) rfl j (.int .u8 x.toNat) (by simp [Lib.byteCells, hx])
      have HB : Hid (Below b w (w.drew.freeze ⟨g, 0, none⟩ acc.length)) := Lib.below_freeze hBd (p := ⟨g, 0, none⟩) hbg _
      clear hbk hp hown hne hbkd hBd hg hgd hfz hnc hcm hcs htake
      go_enter Try.func67, Try.ntmps67
      go_wp2
      go_region_o
      all_goals (go_wp2; go_ret; exact ⟨rfl, HB.out⟩)
end Go.Proofs.Ytoiedadfpbbdgaa
/- The contracts of look's ofImage and standsFor. -/

namespace Go.Proofs.Ytoiedadfpbbdgaa
open Go.RowKit
theorem cat14 (a b : List UInt8) : str a ++ str b = str (a ++ b) := by
  apply str_eq
  rw [ByteArray.data_append]
  simp [str]
set_option maxHeartbeats 2000000 in
set_option maxRecDepth 100000 in
theorem ofImage14_any (n : Nd) (aa : Option Addr) (ac : Nat) (ka : Option Addr) (kc : Nat) (w : World) (hv : ReadsPairs w (.slice aa n.attrs.length ac) n.attrs) (hl : n.attrs.length ≤ 1000000) (ha : ∀ a ∈ n.attrs, a.2.length ≤ 100000) :
    Calls Try.prog 109 #[nodeV n aa ac ka kc] w fun e w' => e = .returned (.string (str (Lk.image n.attrs))) ∧ Below w.heap.size w w' := by
  obtain ⟨k, nm, ats, tx, up, ks⟩ := n
  simp only at hv hl ha
  have hb0 : Below w.heap.size w (w.alloc (.cells #[.int .i64 k, .string (str nm), .slice aa ats.length ac, .string (str tx), .int .i64 up, .slice ka ks.length kc] 50)) := (Below.refl _ w).alloc (Nat.le_refl _) _
  have hh := heap_new w (.cells #[.int .i64 k, .string (str nm), .slice aa ats.length ac, .string (str tx), .int .i64 up, .slice ka ks.length kc] 50)
  have hrng : (w.alloc (.cells #[.int .i64 k, .string (str nm), .slice aa ats.length ac, .string (str tx), .int .i64 up, .slice ka ks.length kc] 50)).rangeAt w.heap.size 0 [.int .i64 k, .string (str nm), .slice aa ats.length ac, .string (str tx), .int .i64 up, .slice ka ks.length kc] := by
    intro j v hj
    have := Lib.cell_of_heap hh (0 + j)
    rw [this]
    rw [Nat.zero_add]
    simpa using hj
  have HR := hideT hrng
  have HV := hideT (hv.below hb0)
  have HB0 := hideT hb0
  have hlt : w.heap.size < (w.alloc (.cells #[.int .i64 k, .string (str nm), .slice aa ats.length ac, .string (str tx), .int .i64 up, .slice ka ks.length kc] 50)).heap.size := by simp
  have hA := fun W h => attr14_any ⟨k, nm, ats, tx, up, ks⟩ aa ac ka kc Lk.altN W h hl
  have hS := fun W h => attr14_any ⟨k, nm, ats, tx, up, ks⟩ aa ac ka kc Lk.srcN W h hl
  rw [show str Lk.altN = ⟨#[97, 108, 116]⟩ from rfl] at hA
  rw [show str Lk.srcN = ⟨#[115, 114, 99]⟩ from rfl] at hS
  simp only at hA hS
  have HA := hideT hA
  have HS := hideT hS
  have HX : Hid (Lk.image ats = if (Lk.attrF ats Lk.altN).2 = true then (Lk.attrF ats Lk.altN).1 else if (Lk.attrF ats Lk.srcN).2 = true then 32 :: ((Lk.attrF ats Lk.srcN).1 ++ [32]) else []) := rfl
  have hsl : (Lk.attrF ats Lk.srcN).1.length ≤ 100000 := by
    rcases Lk.attr_mem (q := Lk.srcN) ats with e | ⟨a, h, e⟩
    · rw [e]; exact Nat.zero_le _
    · rw [e]; exact ha a h
  clear hv hb0 hrng hA hS hh ha
  generalize Lk.attrF ats Lk.altN = pa at *
  generalize Lk.attrF ats Lk.srcN = ps at *
  obtain ⟨va, ba⟩ := pa
  obtain ⟨vs, bs⟩ := ps
  simp only at HX hsl
  go_enter Try.func109, Try.ntmps109
  go_upto_region 1 with fail
  generalize (w.alloc (.cells #[.int .i64 k, .string (str nm), .slice aa ats.length ac, .string (str tx), .int .i64 up, .slice ka ks.length kc] 50)) = W0 at *
  cases ba
  · cases bs
    · go_wp2_with (first
        | ((with_reducible show wpList _ _ _ ({ op := Op.load 50 _, .. } :: _) _ _); refine wpList_load_N (by rfl) _ rfl w.heap.size 0 rfl _ _ _ _ _ _ HR.out ?_)
        | (go_at_call 34; refine (HA.out _ HV.out).mono ?_; rintro e w2 ⟨rfl, b2⟩; have HB2 := hideT b2; have HR2 := hideT (fun i v hi => (b2.cell (p := ⟨w.heap.size, 0 + i, none⟩) hlt).trans (HR.out i v hi)); clear b2 HA)
        | ((with_reducible show wpList _ _ _ ({ op := Op.load 50 _, .. } :: _) _ _); refine wpList_load_N (by rfl) _ rfl w.heap.size 0 rfl _ _ _ _ _ _ HR2.out ?_)
        | (go_at_call 34; refine (HS.out _ (HV.out.below HB2.out)).mono ?_; rintro e w3 ⟨rfl, b3⟩; have HB3 := hideT (bel HB2.out b3); clear b3 HS))
      go_ret
      exact ⟨by rw [HX.out]; rfl, bel HB0.out HB3.out⟩
    · have hcat1 : (⟨#[32]⟩ : ByteArray) ++ str vs = str (32 :: vs) := cat14 [32] vs
      have hcat2 : str (32 :: vs) ++ (⟨#[32]⟩ : ByteArray) = str (32 :: (vs ++ [32])) := cat14 (32 :: vs) [32]
      have s1 := str_size vs
      have s2 := str_size (32 :: vs)
      have s3 : (32 :: vs).length = vs.length + 1 := rfl
      go_wp2_with (first
        | ((with_reducible show wpList _ _ _ ({ op := Op.load 50 _, .. } :: _) _ _); refine wpList_load_N (by rfl) _ rfl w.heap.size 0 rfl _ _ _ _ _ _ HR.out ?_)
        | (go_at_call 34; refine (HA.out _ HV.out).mono ?_; rintro e w2 ⟨rfl, b2⟩; have HB2 := hideT b2; have HR2 := hideT (fun i v hi => (b2.cell (p := ⟨w.heap.size, 0 + i, none⟩) hlt).trans (HR.out i v hi)); clear b2 HA)
        | ((with_reducible show wpList _ _ _ ({ op := Op.load 50 _, .. } :: _) _ _); refine wpList_load_N (by rfl) _ rfl w.heap.size 0 rfl _ _ _ _ _ _ HR2.out ?_)
        | (go_at_call 34; refine (HS.out _ (HV.out.below HB2.out)).mono ?_; rintro e w3 ⟨rfl, b3⟩; have HB3 := hideT (bel HB2.out b3); clear b3 HS))
      go_ret
      exact ⟨by rw [HX.out]; rfl, bel HB0.out HB3.out⟩
  · go_wp2_with (first
        | ((with_reducible show wpList _ _ _ ({ op := Op.load 50 _, .. } :: _) _ _); refine wpList_load_N (by rfl) _ rfl w.heap.size 0 rfl _ _ _ _ _ _ HR.out ?_)
        | (go_at_call 34; refine (HA.out _ HV.out).mono ?_; rintro e w2 ⟨rfl, b2⟩; have HB2 := hideT b2; clear b2 HA))
    go_ret
    exact ⟨by rw [HX.out]; rfl, bel HB0.out HB2.out⟩
set_option maxHeartbeats 2000000 in
set_option maxRecDepth 100000 in
theorem standsFor14_any (n : Nd) (aa : Option Addr) (ac : Nat) (ka : Option Addr) (kc : Nat) (w : World) (hv : ReadsPairs w (.slice aa n.attrs.length ac) n.attrs) (hl : n.attrs.length ≤ 1000000) (ha : ∀ a ∈ n.attrs, a.2.length ≤ 100000) :
    Calls Try.prog 96 #[nodeV n aa ac ka kc] w fun e w' => e = .returned (.string (str (Lk.stands n))) ∧ Below w.heap.size w w' := by
  obtain ⟨k, nm, ats, tx, up, ks⟩ := n
  have hb0 : Below w.heap.size w (w.alloc (.cells #[.int .i64 k, .string (str nm), .slice aa ats.length ac, .string (str tx), .int .i64 up, .slice ka ks.length kc] 50)) := (Below.refl _ w).alloc (Nat.le_refl _) _
  have hh := heap_new w (.cells #[.int .i64 k, .string (str nm), .slice aa ats.length ac, .string (str tx), .int .i64 up, .slice ka ks.length kc] 50)
  have hrng : (w.alloc (.cells #[.int .i64 k, .string (str nm), .slice aa ats.length ac, .string (str tx), .int .i64 up, .slice ka ks.length kc] 50)).rangeAt w.heap.size 0 [.int .i64 k, .string (str nm), .slice aa ats.length ac, .string (str tx), .int .i64 up, .slice ka ks.length kc] := by
    intro j v hj
    have := Lib.cell_of_heap hh (0 + j)
    rw [this]
    rw [Nat.zero_add]
    simpa using hj
  have HR := hideT hrng
  have HI := hideT (ofImage14_any ⟨k, nm, ats, tx, up, ks⟩ aa ac ka kc _ (hv.below hb0) hl ha)
  have HB0 := hideT hb0
  have c1 := Lib.cell_of_heap hh 1
  clear hv hb0 hrng hh ha hl
  by_cases n1 : nm = Lk.brN
  · have q1 : ((str nm).toList == [98, 114]) = true := lit13_yes n1
    have HX : Hid (Lk.stands ⟨k, nm, ats, tx, up, ks⟩ = [10]) := if_pos n1
    clear n1 HI
    go_enter Try.func96, Try.ntmps96
    go_wp2
    go_ret
    exact ⟨by rw [HX.out]; rfl, HB0.out⟩
  · have q1 : ((str nm).toList == [98, 114]) = false := lit13_no n1
    by_cases n2 : nm = Lk.imgN
    · have q2 : ((str nm).toList == [105, 109, 103]) = true := lit13_yes n2
      have HX : Hid (Lk.stands ⟨k, nm, ats, tx, up, ks⟩ = Lk.image ats) := by
        show _ = _
        unfold Lk.stands
        rw [if_neg n1, if_pos n2]
      clear n1 n2
      go_enter Try.func96, Try.ntmps96
      go_wp2_with (first
        | ((with_reducible show wpList _ _ _ ({ op := Op.load 50 _, .. } :: _) _ _); refine wpList_load_N (by rfl) _ rfl w.heap.size 0 rfl _ _ _ _ _ _ HR.out ?_)
        | (go_at_call 109; refine HI.out.mono ?_; rintro e w2 ⟨rfl, b2⟩; have HB2 := hideT (bel HB0.out b2); clear b2))
      go_ret
      exact ⟨by rw [HX.out]; rfl, HB2.out⟩
    · have q2 : ((str nm).toList == [105, 109, 103]) = false := lit13_no n2
      have HX : Hid (Lk.stands ⟨k, nm, ats, tx, up, ks⟩ = []) := by
        show _ = _
        unfold Lk.stands
        rw [if_neg n1, if_neg n2]
      clear n1 n2 HI
      go_enter Try.func96, Try.ntmps96
      go_wp2
      go_ret
      exact ⟨by rw [HX.out]; rfl, HB0.out⟩
end Go.Proofs.Ytoiedadfpbbdgaa
/- The contracts of a teller's kids and element (written by tools/mklkt.py). -/
namespace Go.Proofs.Ytoiedadfpbbdgaa
open Go.RowKit
theorem flat_le14 (ks : List Int) (f : Int → List UInt8) (j : Nat) : ((ks.take j).flatMap f).length ≤ (ks.flatMap f).length := by
  conv => rhs; rw [← List.take_append_drop j ks, List.flatMap_append, List.length_append]
  exact Nat.le_add_right _ _
theorem flat_take14 (ks : List Int) (f : Int → List UInt8) (j : Nat) (h : j < ks.length) : (ks.take (j + 1)).flatMap f = (ks.take j).flatMap f ++ f ks[j] := by
  rw [List.take_succ_eq_append_getElem h, List.flatMap_append, List.flatMap_cons, List.flatMap_nil, List.append_nil]
theorem hyN14 {ops : Array Oper} {S : World → Prop} {op : Oper} {a : Act} (x : Operand) (ho : op.op = .load 50 x) (hw : Region.wanted op (yielded ops a.tmps) = true) (b o : Nat) (x0 x1 x2 x3 x4 x5 : Value) (hx : a.eval x = .pointer (some ⟨b, o, none⟩)) (hS : ∀ w, S w → w.rangeAt b o [x0, x1, x2, x3, x4, x5]) : YieldsIf Try.prog ops S op (.agg #[x0, x1, x2, x3, x4, x5]) a :=
  yieldsIf_load_mid hw _ x ho b o hx [x0, x1, x2, x3, x4, x5] _ hS Try.underlying50 rfl sizeN
def hid3 : List (List UInt8) := [Tre.script, Tre.style, Lk.templateN]
theorem hid3_con (nm : List UInt8) : hid3.contains nm = Lk.hidN nm := by
  unfold hid3 Lk.hidN
  simp only [List.contains_cons, List.contains_nil, Bool.or_false]
section
variable {ns : List Nd} {w0 : World} {a0 : Option Addr} {c0 b : Nat} {p : Bool}
def TKidsC (ns : List Nd) (w0 : World) (nv : Value) (p : Bool) (b i : Nat) : Prop := ∀ w acc, TlAt b w nv (.bool p) acc → Below w0.heap.size w0 w → acc.length + (Lk.joinT ns p i).length ≤ 1000000000 →
  Calls Try.prog 66 #[.pointer (some ⟨b, 0, none⟩), .int .i64 (i : Int)] w fun e w' => e = .returned (.tuple #[]) ∧ TlAt b w' nv (.bool p) (acc ++ Lk.joinT ns p i) ∧ Wr14 b w w'
def TElemC (ns : List Nd) (w0 : World) (nv : Value) (p : Bool) (b i : Nat) : Prop := ∀ w acc, TlAt b w nv (.bool p) acc → Below w0.heap.size w0 w → acc.length + (Lk.kidT ns p i).length ≤ 1000000000 →
  Calls Try.prog 83 #[.pointer (some ⟨b, 0, none⟩), .int .i64 (i : Int)] w fun e w' => e = .returned (.tuple #[]) ∧ TlAt b w' nv (.bool p) (acc ++ Lk.kidT ns p i) ∧ Wr14 b w w'
theorem TlAt.nodes {w : World} {nv pv : Value} {acc : List UInt8} (h : TlAt b w nv pv acc) : w.cell? ⟨b, 0, none⟩ = some nv ∧ w.cell? ⟨b, 1, none⟩ = some pv := by
  obtain ⟨x, v, h1, _⟩ := h
  exact ⟨Lib.cell_of_heap h1 0, Lib.cell_of_heap h1 1⟩
set_option maxHeartbeats 8000000 in
set_option maxRecDepth 100000 in
theorem tkids_any (hns : ReadsN w0 (.slice a0 ns.length c0) ns) (hf : Fair14 ns) (hm : Tre.mayB ns = true) (hwb : w0.heap.size ≤ b) {i : Nat} (hi : i < ns.length) (ih : ∀ k, i < k → k < ns.length → (Tre.ndAt ns k).kind ≠ 3 → TElemC ns w0 (.slice a0 ns.length c0) p b k) : TKidsC ns w0 (.slice a0 ns.length c0) p b i := by
  intro w acc h hbel ha
  obtain ⟨g, o, rfl, hcc, hgl, hall⟩ := hns.spot (by omega)
  obtain ⟨xa0, xc0, xk0, xd0, hr0⟩ := hall i hi
  have hr := hr0.below hbel
  have hnl := hf.few hm
  have HMem := hideT (fun k hk => Tre.may_kid hm hi (k := k) hk)
  have HKind := hideT (fun k (hk : k < ns.length) (h0 : k ≠ 0) => Lk.may_kind hm hk h0)
  have HText := hideT (fun k (hk : k < ns.length) h3 => Lk.kid_text hm p hk h3)
  have HTx := hideT (hf.txt hm)
  have HE : Hid (Lk.joinT ns p i = (Tre.ndAt ns i).kids.flatMap fun k => Lk.kidT ns p k.toNat) := rfl
  have HHid := hideT (hid3_con (Tre.ndAt ns i).name)
  have hkl : (Tre.ndAt ns i).kids.length ≤ 1000 := by
    rw [Tre.may_kids hm hi]
    exact Nat.le_trans (Tre.kidsTo_le ns i _) hnl
  have hjl : ((Tre.ndAt ns i).kids.flatMap fun k => Lk.kidT ns p k.toNat).length = (Lk.joinT ns p i).length := rfl
  have c5 := hr.c5
  have hbw := h.lt
  obtain ⟨cb, cp⟩ := h.nodes
  have HA0 := hideT h
  have HBel := hideT hbel
  have HIH := hideT ih
  have HRK := hideT hr0.kds
  have HAll := hideT hall
  have hrng := hideT hr.rng
  have hrng2 : w.rangeAt g (o + i * 6) [.int .i64 (Tre.ndAt ns i).kind, .string (str (Tre.ndAt ns i).name), .slice xa0 (Tre.ndAt ns i).attrs.length xc0, .string (str (Tre.ndAt ns i).text), .int .i64 (Tre.ndAt ns i).up, .slice xk0 (Tre.ndAt ns i).kids.length xd0] := hr.rng
  have HRng := hideT hrng2
  clear hrng hrng2 hns hbel h ih hr hr0 hall hf
  obtain ⟨nd, hnd⟩ : ∃ nd, Tre.ndAt ns i = nd := ⟨_, rfl⟩
  have HND := hideT hnd
  rw [hnd] at HMem HE HHid hkl hjl c5 HRK HRng
  clear hnd
  have hof := fun W v (h : ReadsTexts W v hid3) => isOf14_any nd xa0 xc0 xk0 xd0 hid3 v W h (by decide)
  obtain ⟨hd, hdd⟩ : ∃ hd, Lk.hidN nd.name = hd := ⟨_, rfl⟩
  have HDN := hideT hdd
  rw [HHid.out, hdd] at hof
  have HOf := hideT hof
  clear hdd hof
  go_enter Try.func66, Try.ntmps66
  go_upto_region 1 with (first
    | ((with_reducible show wpList _ _ _ ({ op := Op.load 50 _, .. } :: _) _ _); refine wpList_load_N (by rfl) _ rfl g (o + i * 6) rfl _ _ _ _ _ _ HRng.out ?_)
    | (go_at_call 46; refine (HOf.out _ _ (OwnsTexts.reads (own_lit w hid3 (by decide)))).mono ?_; rintro e w1 ⟨rfl, b1⟩))
  have hb1 : Below w.heap.size w w1 := bel ((Below.refl _ w).alloc (Nat.le_refl _) _) b1
  have HT1 := hideT (HA0.out.below hb1)
  have HW1 := hideT (Wr14.of hb1 (Nat.le_of_lt hbw))
  have cb1 := (hb1.cell (p := ⟨b, 0, none⟩) hbw).trans cb
  have c51 := (hb1.cell (p := ⟨g, o + i * 6 + 5, none⟩) (cell_lt c5)).trans c5
  clear hb1 b1 cb cp c5 HRng
  go_wp2
  go_loopw [26] (fun s wr => ∃ j : Nat, s = .int .i64 j ∧ j ≤ nd.kids.length ∧ Hid (TlAt b wr (.slice (some ⟨g, o, none⟩) ns.length c0) (.bool p) (acc ++ (nd.kids.take j).flatMap fun k => Lk.kidT ns p k.toNat)) ∧ Hid (Wr14 b w wr)) (fun s _ => nd.kids.length - (intOf s).toNat)
  case atStart => exact ⟨0, by go_num, Nat.zero_le _, by show TlAt b w1 _ _ (acc ++ []); rw [List.append_nil]; exact HT1.out, HW1⟩
  case round =>
    obtain ⟨j, rfl, hj, HT, HW⟩ := hrel
    rename World => X
    by_cases hjk : j < nd.kids.length
    · have hBX : Below w0.heap.size w0 X := HBel.out.trans (HW.out.bel.mono hwb)
      obtain ⟨kb, ko, rfl, hkc, hkb, hcell⟩ := ReadsIs.at (HRK.out.below hBX) (List.getElem?_eq_getElem hjk)
      obtain ⟨k, hk, hik, hkn, hku⟩ := HMem.out nd.kids[j] (List.getElem_mem hjk)
      have HN := hideT (flat_take14 nd.kids (fun k => Lk.kidT ns p k.toNat) j hjk)
      have hle := flat_le14 nd.kids (fun k => Lk.kidT ns p k.toNat) (j + 1)
      rw [HN.out] at hle
      rw [hk] at hcell HN hle
      simp only [Int.toNat_natCast] at HN hle
      obtain ⟨xa, xc, xk, xd, hr⟩ := HAll.out k hkn
      have hrx := hr.below hBX
      have hrng0 : X.rangeAt g (o + k * 6) [.int .i64 (Tre.ndAt ns k).kind, .string (str (Tre.ndAt ns k).name), .slice xa (Tre.ndAt ns k).attrs.length xc, .string (str (Tre.ndAt ns k).text), .int .i64 (Tre.ndAt ns k).up, .slice xk (Tre.ndAt ns k).kids.length xd] := hrx.rng
      have hrng := hideT hrng0
      have hform := HKind.out k hkn (by omega)
      have HKT := hideT (HText.out k hkn)
      have hupk : (Tre.ndAt ns (Tre.ndAt ns k).up.toNat).name = nd.name := by rw [hku, Int.toNat_natCast]; exact congrArg (·.name) HND.out
      have htl := HTx.out k hkn
      obtain ⟨cbX, _⟩ := HT.out.nodes
      have HEl := hideT (fun W A (hT : TlAt b W (.slice (some ⟨g, o, none⟩) ns.length c0) (.bool p) A) (hB : Wr14 b w W) (h3 : (Tre.ndAt ns k).kind ≠ 3) hl => HIH.out k hik hkn h3 W A hT (HBel.out.trans (hB.bel.mono hwb)) hl)
      have HJ : Hid (j + 1 ≤ nd.kids.length) := hjk
      have hbX : b < X.heap.size := HT.out.lt
      rw [List.length_append] at hle
      have hdn := HDN.out
      clear hrng0 hr hrx hk hkb hBX hku
      rw [hupk] at HKT
      clear hupk
      generalize hS : ((nd.kids.take j).flatMap fun k => Lk.kidT ns p k.toNat) = S0 at *
      clear hS
      generalize Lk.kidT ns p k = tk at *
      generalize Tre.ndAt ns k = q at *
      obtain ⟨qk, qn, qa, qx, qu, qs⟩ := q
      simp only at hform HKT htl HEl
      have hb1 : Below X.heap.size X (X.alloc (.cells #[.int .i64 qk, .string (str qn), .slice xa qa.length xc, .string (str qx), .int .i64 qu, .slice xk qs.length xd] 50)) := (Below.refl _ _).alloc (Nat.le_refl _) _
      have hq1 := heap_new X (.cells #[.int .i64 qk, .string (str qn), .slice xa qa.length xc, .string (str qx), .int .i64 qu, .slice xk qs.length xd] 50)
      have HT2 := hideT (HT.out.below hb1)
      have HW2 := hideT (HW.out.trans (Wr14.of hb1 (Nat.le_of_lt hbX)))
      have q0 := Lib.cell_of_heap hq1 0
      have q3 := Lib.cell_of_heap hq1 3
      have HQ1 := hideT hq1
      by_cases hk3 : qk = 3
      · subst hk3
        have hkt := HKT.out rfl
        cases hd
        · have HTK : Hid (tk = qx) := by
            show _ = _
            rw [hkt, hdn]
            rfl
          clear hform HKT HEl hkt hdn
          go_upto_region 6 with ((with_reducible show wpList _ _ _ ({ op := Op.load 50 _, .. } :: _) _ _); refine wpList_load_N (by rfl) _ rfl g (o + k * 6) rfl _ _ _ _ _ _ hrng.out ?_)
          obtain ⟨S, hS1⟩ : ∃ S : World → Prop, ∀ W, S W ↔ W.heap[X.heap.size]? = some (.cells #[.int .i64 3, .string (str qn), .slice xa qa.length xc, .string (str qx), .int .i64 qu, .slice xk qs.length xd] 50 (0, 0)) := ⟨_, fun _ => Iff.rfl⟩
          have hTd : TlAt b (X.alloc (.cells #[.int .i64 3, .string (str qn), .slice xa qa.length xc, .string (str qx), .int .i64 qu, .slice xk qs.length xd] 50)).drew (.slice (some ⟨g, o, none⟩) ns.length c0) (.bool p) (acc ++ S0) := HT2.out.below ((Below.refl _ _).drew)
          have hWd : Wr14 b w (X.alloc (.cells #[.int .i64 3, .string (str qn), .slice xa qa.length xc, .string (str qx), .int .i64 qu, .slice xk qs.length xd] 50)).drew := HW2.out.trans (Wr14.of ((Below.refl _ _).drew) (by simp; omega))
          refine wp_region_held_drew (S := S) (by kernel_rfl) ((hS1 _).2 hq1) (fun hS => ?_)
          clear hq1 q0 q3
          refine takeH12 0 45 (.pointer (some ⟨b, 0, none⟩)) rfl rfl (by kernel_rfl) (by kernel_rfl) (by kernel_rfl) (fun _ _ _ h => h) (Or.inl ⟨by kernel_rfl, fun W _ => by go_simp⟩) hS ?_
          simp only [Act.put, List.setIfInBounds_toArray, List.set_cons_zero, List.set_cons_succ]
          refine takeH12 1 46 (.pointer (some ⟨b, 0, none⟩)) rfl rfl (by kernel_rfl) (by kernel_rfl) (by kernel_rfl) (fun _ _ _ h => h) (Or.inl ⟨by kernel_rfl, fun W _ => by go_simp⟩) hS ?_
          simp only [Act.put, List.setIfInBounds_toArray, List.set_cons_zero, List.set_cons_succ]
          refine takeH12 2 47 (.pointer (some ⟨b, 2, none⟩)) rfl rfl (by kernel_rfl) (by kernel_rfl) (by kernel_rfl) (fun _ _ _ h => h) (Or.inl ⟨by kernel_rfl, fun W _ => by go_simp⟩) hS ?_
          simp only [Act.put, List.setIfInBounds_toArray, List.set_cons_zero, List.set_cons_succ]
          refine takeH12 3 48 (.pointer (some ⟨X.heap.size, 3, none⟩)) rfl rfl (by kernel_rfl) (by kernel_rfl) (by kernel_rfl) (fun _ _ _ h => h) (Or.inl ⟨by kernel_rfl, fun W _ => by go_simp⟩) hS ?_
          simp only [Act.put, List.setIfInBounds_toArray, List.set_cons_zero, List.set_cons_succ]
          refine takeH12 4 49 (.string (str qx)) rfl rfl (by kernel_rfl) (by kernel_rfl) (by kernel_rfl) (fun _ _ _ h => h) (Or.inl ⟨by kernel_rfl, fun W hW => by have hc := (Lib.cell_of_heap ((hS1 W).1 hW) 3); go_simp⟩) hS ?_
          simp only [Act.put, List.setIfInBounds_toArray, List.set_cons_zero, List.set_cons_succ]
          refine wpAnyH_ready (rs := [5]) (by kernel_rfl) (by simp) ?_
          refine AllReadyH.cons rfl (fun K hK => ?_) AllReadyH.nil
          go_simp
          refine (WriteString14 qx hTd (by rw [List.length_append]; have := htl; omega)).mono ?_
          rintro e w5 ⟨⟨u50, rfl⟩, hT5, hR5⟩
          refine hK.out _ _ ((hS1 _).2 (hR5.others _ _ ((hS1 _).1 hS) (by simp; omega) (fun c fz e => by cases e))) (fun hS => ?_)
          clear hK K
          refine wpAnyH_done (by kernel_rfl) ?_ _
          have HT5 := hideT hT5
          have HW5 := hideT (hWd.trans hR5)
          clear hT5 hR5 hTd hWd
          go_wp2
          go_roundw
          case rel => exact ⟨j + 1, by go_num, HJ.out, by rw [HN.out, HTK.out, ← List.append_assoc]; exact HT5.out, HW5⟩
          case measure => have := HJ.out; simp [intOf]; omega
        · have HTK : Hid (tk = []) := by
            show _ = _
            rw [hkt, hdn]
            rfl
          clear hform HKT HEl hkt hdn hq1
          go_wp2_with ((with_reducible show wpList _ _ _ ({ op := Op.load 50 _, .. } :: _) _ _); refine wpList_load_N (by rfl) _ rfl g (o + k * 6) rfl _ _ _ _ _ _ hrng.out ?_)
          go_roundw
          case rel => exact ⟨j + 1, by go_num, HJ.out, by rw [HN.out, HTK.out, List.append_nil]; exact HT2.out, HW2⟩
          case measure => have := HJ.out; simp [intOf]; omega
      · have hk2 : qk = 2 := by
          rcases hform with h9 | h9
          · exact h9
          · exact absurd h9 hk3
        subst hk2
        have HEC := hideT (fun W hT hB => HEl.out W (acc ++ S0) hT hB (by decide) (by rw [List.length_append]; omega))
        clear hform HKT HEl hdn hq1 hk3
        go_wp2_with (first
          | ((with_reducible show wpList _ _ _ ({ op := Op.load 50 _, .. } :: _) _ _); refine wpList_load_N (by rfl) _ rfl g (o + k * 6) rfl _ _ _ _ _ _ hrng.out ?_)
          | (go_at_call 83; refine (HEC.out _ HT2.out HW2.out).mono ?_; rintro e w5 ⟨rfl, hT5, hR5⟩; have HT5 := hideT hT5; have HW5 := hideT (HW2.out.trans hR5); clear hT5 hR5))
        go_roundw
        case rel => exact ⟨j + 1, by go_num, HJ.out, by rw [HN.out, ← List.append_assoc]; exact HT5.out, HW5⟩
        case measure => have := HJ.out; simp [intOf]; omega
    · have hje : j = nd.kids.length := by omega
      have HFin : Hid (TlAt b X (.slice (some ⟨g, o, none⟩) ns.length c0) (.bool p) (acc ++ Lk.joinT ns p i)) := by
        have h := HT.out
        rw [hje, List.take_length] at h
        show TlAt _ _ _ _ _
        rw [HE.out]
        exact h
      clear hje HT
      go_wp2
      go_end0
      exact ⟨rfl, HFin.out, HW.out⟩
set_option maxHeartbeats 8000000 in
set_option maxRecDepth 100000 in
theorem telem_any (hns : ReadsN w0 (.slice a0 ns.length c0) ns) (hf : Fair14 ns) (hm : Tre.mayB ns = true) (hwb : w0.heap.size ≤ b) {i : Nat} (hi : i < ns.length) (hk3 : (Tre.ndAt ns i).kind ≠ 3) (hk : TKidsC ns w0 (.slice a0 ns.length c0) p b i) : TElemC ns w0 (.slice a0 ns.length c0) p b i := by
  intro w acc h hbel ha
  obtain ⟨g, o, xa, xc, xk, xd, rfl, hcc, hr0⟩ := hns.at hi
  have hn4 := hf.few hm
  have HX := hideT (Lk.kid_elem hm p hi hk3)
  rw [HX.out, List.length_append] at ha
  have hbw := h.lt
  obtain ⟨cb, cp⟩ := h.nodes
  have hgl : g < w0.heap.size := hr0.lt
  have hgb : g < b := Nat.lt_of_lt_of_le hgl hwb
  have HBel := hideT hbel
  cases p
  · have HK := hideT (fun hl => hk w acc h hbel hl)
    have HX2 : Hid (Lk.kidT ns false i = Lk.joinT ns false i) := by
      show _ = _
      rw [HX.out]
      rfl
    have hal : acc.length + (Lk.joinT ns false i).length ≤ 1000000000 := by simp only [Bool.false_eq_true, if_false, List.length_nil] at ha; omega
    clear h hns hf hm hk hbel ha hr0
    go_enter Try.func83, Try.ntmps83
    go_wp2_with (go_at_call 66; refine (HK.out hal).mono ?_; rintro e w5 ⟨rfl, hT5, hR5⟩; have HT5 := hideT hT5; have HW5 := hideT hR5; clear hT5 hR5)
    go_end0
    exact ⟨rfl, by rw [HX2.out]; exact HT5.out, HW5.out⟩
  · have hat := hf.ats (by omega) i hi
    have hav := fun a ha => (hf.val hm i hi a ha).2
    have HStd := hideT (fun W (hB : Below w0.heap.size w0 W) => standsFor14_any (Tre.ndAt ns i) xa xc xk xd W (hr0.below hB).ats hat hav)
    have HX2 : Hid (Lk.kidT ns true i = Lk.stands (Tre.ndAt ns i) ++ Lk.joinT ns true i) := by
      show _ = _
      rw [HX.out]
      rfl
    have hal : acc.length + ((Lk.stands (Tre.ndAt ns i)).length + (Lk.joinT ns true i).length) ≤ 1000000000 := by simpa using ha
    have hrng := (hr0.below hbel).rng
    have HK := hideT hk
    have hTd : TlAt b w.drew (.slice (some ⟨g, o, none⟩) ns.length c0) (.bool true) acc := h.below ((Below.refl _ _).drew)
    have hWd : Wr14 b w w.drew := Wr14.of ((Below.refl _ _).drew) (Nat.le_of_lt hbw)
    clear hns hf hm hk ha hr0 hat hav
    generalize Lk.stands (Tre.ndAt ns i) = st at *
    generalize Tre.ndAt ns i = q at *
    obtain ⟨qk, qn, qa, qx, qu, qs⟩ := q
    simp only at *
    go_enter Try.func83, Try.ntmps83
    go_upto_region 1 with fail
    obtain ⟨S, hS1⟩ : ∃ S : World → Prop, ∀ W, S W ↔ W.cell? ⟨b, 0, none⟩ = some (.slice (some ⟨g, o, none⟩) ns.length c0) ∧ W.rangeAt g (o + i * 6) [.int .i64 qk, .string (str qn), .slice xa qa.length xc, .string (str qx), .int .i64 qu, .slice xk qs.length xd] := ⟨_, fun _ => Iff.rfl⟩
    refine wp_region_held_drew (S := S) (by kernel_rfl) ((hS1 _).2 ⟨cb, hrng⟩) (fun hS => ?_)
    clear cb cp hrng h hbel
    refine takeH12 0 8 (.pointer (some ⟨b, 0, none⟩)) rfl rfl (by kernel_rfl) (by kernel_rfl) (by kernel_rfl) (fun _ _ _ h => h) (Or.inl ⟨by kernel_rfl, fun W _ => by go_simp⟩) hS ?_
    simp only [Act.put, List.setIfInBounds_toArray, List.set_cons_zero, List.set_cons_succ]
    refine takeH12 1 9 (.pointer (some ⟨b, 0, none⟩)) rfl rfl (by kernel_rfl) (by kernel_rfl) (by kernel_rfl) (fun _ _ _ h => h) (Or.inl ⟨by kernel_rfl, fun W _ => by go_simp⟩) hS ?_
    simp only [Act.put, List.setIfInBounds_toArray, List.set_cons_zero, List.set_cons_succ]
    refine takeH12 2 10 (.pointer (some ⟨b, 2, none⟩)) rfl rfl (by kernel_rfl) (by kernel_rfl) (by kernel_rfl) (fun _ _ _ h => h) (Or.inl ⟨by kernel_rfl, fun W _ => by go_simp⟩) hS ?_
    simp only [Act.put, List.setIfInBounds_toArray, List.set_cons_zero, List.set_cons_succ]
    refine takeH12 3 11 (.pointer (some ⟨b, 0, none⟩)) rfl rfl (by kernel_rfl) (by kernel_rfl) (by kernel_rfl) (fun _ _ _ h => h) (Or.inl ⟨by kernel_rfl, fun W _ => by go_simp⟩) hS ?_
    simp only [Act.put, List.setIfInBounds_toArray, List.set_cons_zero, List.set_cons_succ]
    refine takeH12 4 12 (.pointer (some ⟨b, 0, none⟩)) rfl rfl (by kernel_rfl) (by kernel_rfl) (by kernel_rfl) (fun _ _ _ h => h) (Or.inl ⟨by kernel_rfl, fun W _ => by go_simp⟩) hS ?_
    simp only [Act.put, List.setIfInBounds_toArray, List.set_cons_zero, List.set_cons_succ]
    refine takeH12 5 13 (.pointer (some ⟨b, 0, none⟩)) rfl rfl (by kernel_rfl) (by kernel_rfl) (by kernel_rfl) (fun _ _ _ h => h) (Or.inl ⟨by kernel_rfl, fun W _ => by go_simp⟩) hS ?_
    simp only [Act.put, List.setIfInBounds_toArray, List.set_cons_zero, List.set_cons_succ]
    refine takeH12 6 14 (.slice (some ⟨g, o, none⟩) ns.length c0) rfl rfl (by kernel_rfl) (by kernel_rfl) (by kernel_rfl) (fun _ _ _ h => h) (Or.inl ⟨by kernel_rfl, fun W hW => by have hc := (((hS1 W).1 hW).1); go_simp⟩) hS ?_
    simp only [Act.put, List.setIfInBounds_toArray, List.set_cons_zero, List.set_cons_succ]
    refine takeH12 7 15 (.int .i64 (i : Int)) rfl rfl (by kernel_rfl) (by kernel_rfl) (by kernel_rfl) (fun _ _ _ h => h) (Or.inl ⟨by kernel_rfl, fun W _ => by go_simp⟩) hS ?_
    simp only [Act.put, List.setIfInBounds_toArray, List.set_cons_zero, List.set_cons_succ]
    refine takeH12 8 16 (.pointer (some ⟨g, o + i * 6, none⟩)) rfl rfl (by kernel_rfl) (by kernel_rfl) (by kernel_rfl) (fun _ _ _ h => h) (Or.inl ⟨by kernel_rfl, fun W _ => by go_simp⟩) hS ?_
    simp only [Act.put, List.setIfInBounds_toArray, List.set_cons_zero, List.set_cons_succ]
    refine takeH12 9 17 (.agg #[.int .i64 qk, .string (str qn), .slice xa qa.length xc, .string (str qx), .int .i64 qu, .slice xk qs.length xd]) rfl rfl (by kernel_rfl) (by kernel_rfl) (by kernel_rfl) (fun _ _ _ h => h) (hyN14 _ rfl (by kernel_rfl) g (o + i * 6) _ _ _ _ _ _ rfl (fun W hW => ((hS1 W).1 hW).2)) hS ?_
    simp only [Act.put, List.setIfInBounds_toArray, List.set_cons_zero, List.set_cons_succ]
    refine wpAnyH_ready (rs := [10]) (by kernel_rfl) (by simp) ?_
    refine AllReadyH.cons rfl (fun K hK => ?_) AllReadyH.nil
    go_simp
    refine (HStd.out _ (by first | exact HBel.out.drew | exact HBel.out)).mono ?_
    rintro e w4 ⟨rfl, hb4⟩
    refine hK.out _ _ ((hS1 _).2 ⟨(hb4.cell (p := ⟨b, 0, none⟩) hbw).trans ((hS1 _).1 hS).1, fun j v hj => (hb4.cell (p := ⟨g, o + i * 6 + j, none⟩) (Nat.lt_of_lt_of_le hgl HBel.out.size)).trans (((hS1 _).1 hS).2 j v hj)⟩) (fun hS => ?_)
    clear hK K
    refine wpAnyH_ready (rs := [11]) (by kernel_rfl) (by simp) ?_
    refine AllReadyH.cons rfl (fun K hK => ?_) AllReadyH.nil
    go_simp
    refine (WriteString14 st (hTd.below hb4) (by omega)).mono ?_
    rintro e w5 ⟨⟨u50, rfl⟩, hT5, hR5⟩
    refine hK.out _ _ ((hS1 _).2 ⟨hT5.nodes.1, fun j v hj => (hR5.bel.cell (p := ⟨g, o + i * 6 + j, none⟩) hgb).trans (((hS1 _).1 hS).2 j v hj)⟩) (fun hS => ?_)
    clear hK K
    refine wpAnyH_done (by kernel_rfl) ?_ _
    have HT5 := hideT hT5
    have hW4 : Wr14 b w w4 := hWd.trans (Wr14.of hb4 (by simpa using Nat.le_of_lt hbw))
    have HW5 := hideT (hW4.trans hR5)
    clear hT5 hR5 hTd hWd hb4 hW4
    go_wp2_with (go_at_call 66; refine (HK.out w5 _ HT5.out (HBel.out.trans (HW5.out.bel.mono hwb)) (by rw [List.length_append]; omega)).mono ?_; rintro e w6 ⟨rfl, hT6, hR6⟩; have HT6 := hideT hT6; have HW6 := hideT (HW5.out.trans hR6); clear hT6 hR6)
    go_end0
    exact ⟨rfl, by rw [HX2.out, ← List.append_assoc]; exact HT6.out, HW6.out⟩
theorem tells_any (hns : ReadsN w0 (.slice a0 ns.length c0) ns) (hf : Fair14 ns) (hm : Tre.mayB ns = true) (hwb : w0.heap.size ≤ b) :
    ∀ f i, i < ns.length → ns.length - i ≤ f → TKidsC ns w0 (.slice a0 ns.length c0) p b i ∧ ((Tre.ndAt ns i).kind ≠ 3 → TElemC ns w0 (.slice a0 ns.length c0) p b i) := by
  intro f
  induction f with
  | zero => intro i hi hf; omega
  | succ f ih =>
    intro i hi hff
    have hk : TKidsC ns w0 (.slice a0 ns.length c0) p b i := tkids_any hns hf hm hwb hi (fun k hik hkn h3 => (ih k hkn (by omega)).2 h3)
    exact ⟨hk, fun h3 => telem_any hns hf hm hwb hi h3 hk⟩
end
end Go.Proofs.Ytoiedadfpbbdgaa
/- The contract of look's Only (written by tools/mklko.py). -/
namespace Go.Proofs.Ytoiedadfpbbdgaa
open Go.RowKit
def onlyR14 (ns : List Nd) (at_ : Int) (nl : List (List UInt8)) : Int :=
  match kidsR14 ns at_ with
  | [k] => if nl ≠ [] ∧ Lk.nameK ns nl k = false then -1 else k
  | _ => -1
theorem only_none {ns : List Nd} {at_ : Int} {nl : List (List UInt8)} (h : (kidsR14 ns at_).length ≠ 1) : onlyR14 ns at_ nl = -1 := by
  unfold onlyR14
  split
  · rename_i k e
    rw [e] at h
    exact absurd rfl h
  · rfl
theorem only_free {ns : List Nd} {at_ : Int} {k : Int} (h : kidsR14 ns at_ = [k]) : onlyR14 ns at_ [] = k := by
  unfold onlyR14
  rw [h]
  simp
theorem only_named {ns : List Nd} {at_ : Int} {k : Int} {nl : List (List UInt8)} (h : kidsR14 ns at_ = [k]) (hn : nl ≠ []) : onlyR14 ns at_ nl = if Lk.nameK ns nl k = false then -1 else k := by
  unfold onlyR14
  rw [h]
  by_cases hk : Lk.nameK ns nl k = false
  · simp [hn, hk]
  · simp [hk]
theorem kidsR14_mem {ns : List Nd} {at_ : Int} {k : Int} (h : k ∈ kidsR14 ns at_) : ∃ kx : Nat, k = (kx : Int) ∧ kx < ns.length := by
  unfold kidsR14 at h
  split at h
  · rename_i hp
    obtain ⟨i, rfl, hi, hm⟩ := Lk.place_yes hp
    rw [Int.toNat_natCast] at h
    obtain ⟨j, h1, h2, h3, _⟩ := Tre.may_kid hm hi (List.mem_filter.1 h).1
    exact ⟨j, h1, h3⟩
  · cases h
set_option maxHeartbeats 8000000 in
set_option maxRecDepth 100000 in
theorem Only14_any (ns : List Nd) (v : Value) (at_ : Int) (nl : List (List UInt8)) (nv : Value) (w : World) (hv : ReadsN w v ns) (hf : Fair14 ns) (hn : ReadsTexts w nv nl) (hnl : nl.length ≤ 1000000) :
    Calls Try.prog 26 #[.agg #[v], .int .i64 at_, nv] w fun e w' => e = .returned (.int .i64 (onlyR14 ns at_ nl)) ∧ Below w.heap.size w w' := by
  obtain ⟨a, c, rfl⟩ := hv.form
  obtain ⟨xn, xm, rfl⟩ := ReadsTexts13.form hn
  have hb0 : Below w.heap.size w (w.alloc (.cells #[.slice a ns.length c] 24)) := (Below.refl _ _).alloc (Nat.le_refl _) _
  have cc0 := doc_cell (heap_new w (.cells #[.slice a ns.length c] 24))
  have lc := cell_lt cc0
  have HK := hideT (Kids14_any ns _ at_ _ (hv.below hb0) hf)
  have HB0 := hideT hb0
  have HV0 := hideT (hv.below hb0)
  have HN0 := hideT (ReadsTexts13.below hn hb0)
  have HMem := hideT (fun k (h : k ∈ kidsR14 ns at_) => kidsR14_mem h)
  clear hv hn hb0 hf
  go_enter Try.func26, Try.ntmps26
  go_upto_region 2 with (go_at_call 22; refine HK.out.mono ?_; rintro e w1 ⟨x1, rfl, hO1, hb1⟩)
  have HQ := hideT (bel HB0.out hb1)
  have cc1 := (hb1.cell (p := ⟨w.heap.size, 0, none⟩) lc).trans cc0
  have lc1 := Nat.lt_of_lt_of_le lc hb1.size
  have HV1 := hideT (HV0.out.below hb1)
  have HN1 := hideT (ReadsTexts13.below HN0.out hb1)
  have hrd := OwnsI.reads hO1
  by_cases hlen : (kidsR14 ns at_).length = 1
  · obtain ⟨k, hk⟩ := List.length_eq_one_iff.1 hlen
    obtain ⟨kx, rfl, hkn⟩ := HMem.out k (by rw [hk]; simp)
    have hX1 := fun h => only_named (nl := nl) hk h
    have hX0 := only_free hk
    rw [hk] at hrd
    obtain ⟨ka, kc, rfl⟩ := hrd.form
    obtain ⟨kb, ko, rfl, hkc, hkb, hcell⟩ := hrd.at (k := 0) (x := (kx : Int)) rfl
    rw [show ko + 0 = ko from rfl] at hcell
    clear hlen hk hrd hO1 hb1 HK HV0 HN0 HMem cc0 lc
    by_cases hnz : nl = []
    · subst hnz
      have HX := hideT hX0
      clear hX1 hX0
      obtain ⟨S, hS1⟩ : ∃ S : World → Prop, ∀ W, S W ↔ Below w1.heap.size w1 W := ⟨_, fun _ => Iff.rfl⟩
      refine wp_region_held_drew (S := S) (by kernel_rfl) ((hS1 _).2 ((Below.refl _ _).drew)) (fun hS => ?_)
      refine takeH12 0 11 (.slice (some ⟨kb, ko, none⟩) 1 kc) rfl rfl (by kernel_rfl) (by kernel_rfl) (by kernel_rfl) (fun _ _ _ h => h) (Or.inl ⟨by kernel_rfl, fun W _ => by go_simp⟩) hS ?_
      simp only [Act.put, List.setIfInBounds_toArray, List.set_cons_zero, List.set_cons_succ]
      refine takeH12 1 12 (.int .i64 1) rfl rfl (by kernel_rfl) (by kernel_rfl) (by kernel_rfl) (fun _ _ _ h => h) (Or.inl ⟨by kernel_rfl, fun W _ => by go_simp⟩) hS ?_
      simp only [Act.put, List.setIfInBounds_toArray, List.set_cons_zero, List.set_cons_succ]
      refine takeH12 2 13 (.bool false) rfl rfl (by kernel_rfl) (by kernel_rfl) (by kernel_rfl) (fun _ _ _ h => h) (Or.inl ⟨by kernel_rfl, fun W _ => by go_simp; (try (first | omega | simp_all))⟩) hS ?_
      simp only [Act.put, List.setIfInBounds_toArray, List.set_cons_zero, List.set_cons_succ]
      refine takeH12 3 14 (.bool false) rfl rfl (by kernel_rfl) (by kernel_rfl) (by kernel_rfl) (fun _ _ _ h => h) (Or.inl ⟨by kernel_rfl, fun W _ => by go_simp⟩) hS ?_
      simp only [Act.put, List.setIfInBounds_toArray, List.set_cons_zero, List.set_cons_succ]
      refine takeH12 4 15 (.slice xn 0 xm) rfl rfl (by kernel_rfl) (by kernel_rfl) (by kernel_rfl) (fun _ _ _ h => h) (Or.inl ⟨by kernel_rfl, fun W _ => by go_simp⟩) hS ?_
      simp only [Act.put, List.setIfInBounds_toArray, List.set_cons_zero, List.set_cons_succ]
      refine takeH12 5 16 (.int .i64 0) rfl rfl (by kernel_rfl) (by kernel_rfl) (by kernel_rfl) (fun _ _ _ h => h) (Or.inl ⟨by kernel_rfl, fun W _ => by go_simp⟩) hS ?_
      simp only [Act.put, List.setIfInBounds_toArray, List.set_cons_zero, List.set_cons_succ]
      refine takeH12 6 17 (.bool false) rfl rfl (by kernel_rfl) (by kernel_rfl) (by kernel_rfl) (fun _ _ _ h => h) (Or.inl ⟨by kernel_rfl, fun W _ => by go_simp; (try (first | omega | simp_all))⟩) hS ?_
      simp only [Act.put, List.setIfInBounds_toArray, List.set_cons_zero, List.set_cons_succ]
      refine takeH12 7 18 (.bool false) rfl rfl (by kernel_rfl) (by kernel_rfl) (by kernel_rfl) (fun _ _ _ h => h) (Or.inl ⟨by kernel_rfl, fun W _ => by go_simp⟩) hS ?_
      simp only [Act.put, List.setIfInBounds_toArray, List.set_cons_zero, List.set_cons_succ]
      refine takeH12 8 19 (undef) rfl rfl (by kernel_rfl) (by kernel_rfl) (by kernel_rfl) (fun _ _ _ h => h) (Or.inr ⟨by kernel_rfl, rfl⟩) hS ?_
      simp only [Act.put, List.setIfInBounds_toArray, List.set_cons_zero, List.set_cons_succ]
      refine takeH12 9 20 (undef) rfl rfl (by kernel_rfl) (by kernel_rfl) (by kernel_rfl) (fun _ _ _ h => h) (Or.inr ⟨by kernel_rfl, rfl⟩) hS ?_
      simp only [Act.put, List.setIfInBounds_toArray, List.set_cons_zero, List.set_cons_succ]
      refine takeH12 10 21 (undef) rfl rfl (by kernel_rfl) (by kernel_rfl) (by kernel_rfl) (fun _ _ _ h => h) (Or.inr ⟨by kernel_rfl, rfl⟩) hS ?_
      simp only [Act.put, List.setIfInBounds_toArray, List.set_cons_zero, List.set_cons_succ]
      refine takeH12 11 22 (undef) rfl rfl (by kernel_rfl) (by kernel_rfl) (by kernel_rfl) (fun _ _ _ h => h) (Or.inr ⟨by kernel_rfl, rfl⟩) hS ?_
      simp only [Act.put, List.setIfInBounds_toArray, List.set_cons_zero, List.set_cons_succ]
      refine takeH12 12 23 (undef) rfl rfl (by kernel_rfl) (by kernel_rfl) (by kernel_rfl) (fun _ _ _ h => h) (Or.inr ⟨by kernel_rfl, rfl⟩) hS ?_
      simp only [Act.put, List.setIfInBounds_toArray, List.set_cons_zero, List.set_cons_succ]
      refine takeH12 13 24 (undef) rfl rfl (by kernel_rfl) (by kernel_rfl) (by kernel_rfl) (fun _ _ _ h => h) (Or.inr ⟨by kernel_rfl, rfl⟩) hS ?_
      simp only [Act.put, List.setIfInBounds_toArray, List.set_cons_zero, List.set_cons_succ]
      refine takeH12 14 25 (undef) rfl rfl (by kernel_rfl) (by kernel_rfl) (by kernel_rfl) (fun _ _ _ h => h) (Or.inr ⟨by kernel_rfl, rfl⟩) hS ?_
      simp only [Act.put, List.setIfInBounds_toArray, List.set_cons_zero, List.set_cons_succ]
      refine takeH12 15 26 (undef) rfl rfl (by kernel_rfl) (by kernel_rfl) (by kernel_rfl) (fun _ _ _ h => h) (Or.inr ⟨by kernel_rfl, rfl⟩) hS ?_
      simp only [Act.put, List.setIfInBounds_toArray, List.set_cons_zero, List.set_cons_succ]
      refine takeH12 16 27 (undef) rfl rfl (by kernel_rfl) (by kernel_rfl) (by kernel_rfl) (fun _ _ _ h => h) (Or.inr ⟨by kernel_rfl, rfl⟩) hS ?_
      simp only [Act.put, List.setIfInBounds_toArray, List.set_cons_zero, List.set_cons_succ]
      refine takeH12 17 28 (undef) rfl rfl (by kernel_rfl) (by kernel_rfl) (by kernel_rfl) (fun _ _ _ h => h) (Or.inr ⟨by kernel_rfl, rfl⟩) hS ?_
      simp only [Act.put, List.setIfInBounds_toArray, List.set_cons_zero, List.set_cons_succ]
      refine takeH12 18 29 (.bool false) rfl rfl (by kernel_rfl) (by kernel_rfl) (by kernel_rfl) (fun _ _ _ h => h) (Or.inl ⟨by kernel_rfl, fun W _ => by go_simp⟩) hS ?_
      simp only [Act.put, List.setIfInBounds_toArray, List.set_cons_zero, List.set_cons_succ]
      refine takeH12 19 30 (.bool false) rfl rfl (by kernel_rfl) (by kernel_rfl) (by kernel_rfl) (fun _ _ _ h => h) (Or.inl ⟨by kernel_rfl, fun W _ => by go_simp⟩) hS ?_
      simp only [Act.put, List.setIfInBounds_toArray, List.set_cons_zero, List.set_cons_succ]
      refine wpAnyH_done (by kernel_rfl) ?_ _
      have hbF := (hS1 _).1 hS
      have HF := hideT (bel HQ.out hbF)
      have hk5 := (hbF.cell (p := ⟨kb, ko, none⟩) hkb).trans hcell
      clear hbF
      go_wp2
      go_ret
      exact ⟨by rw [HX.out]; rfl, HF.out⟩
    · have hX := hX1 hnz
      have hpos : 0 < nl.length := List.length_pos_iff.2 hnz
      obtain ⟨g, o, xa, xc, xk, xd, rfl, hcc, hr1⟩ := HV1.out.at hkn
      have hof := fun W (h : Below w1.heap.size w1 W) => isOf14_any (Tre.ndAt ns kx) xa xc xk xd nl _ W (ReadsTexts13.below HN1.out h) hnl
      have hnk : Lk.nameK ns nl (kx : Int) = nl.contains (Tre.ndAt ns kx).name := by unfold Lk.nameK; rw [Int.toNat_natCast]
      rw [hnk] at hX
      obtain ⟨bq, hbq⟩ : ∃ bq, nl.contains (Tre.ndAt ns kx).name = bq := ⟨_, rfl⟩
      rw [hbq] at hX hof
      have HX := hideT hX
      have HOf := hideT hof
      generalize Tre.ndAt ns kx = q at *
      clear hX hof hnk hbq hX1 hX0 HN1 HV1 hnz
      cases bq
      · obtain ⟨S, hS1⟩ : ∃ S : World → Prop, ∀ W, S W ↔ Below w1.heap.size w1 W := ⟨_, fun _ => Iff.rfl⟩
        refine wp_region_held_drew (S := S) (by kernel_rfl) ((hS1 _).2 ((Below.refl _ _).drew)) (fun hS => ?_)
        refine takeH12 0 11 (.slice (some ⟨kb, ko, none⟩) 1 kc) rfl rfl (by kernel_rfl) (by kernel_rfl) (by kernel_rfl) (fun _ _ _ h => h) (Or.inl ⟨by kernel_rfl, fun W _ => by go_simp⟩) hS ?_
        simp only [Act.put, List.setIfInBounds_toArray, List.set_cons_zero, List.set_cons_succ]
        refine takeH12 1 12 (.int .i64 1) rfl rfl (by kernel_rfl) (by kernel_rfl) (by kernel_rfl) (fun _ _ _ h => h) (Or.inl ⟨by kernel_rfl, fun W _ => by go_simp⟩) hS ?_
        simp only [Act.put, List.setIfInBounds_toArray, List.set_cons_zero, List.set_cons_succ]
        refine takeH12 2 13 (.bool false) rfl rfl (by kernel_rfl) (by kernel_rfl) (by kernel_rfl) (fun _ _ _ h => h) (Or.inl ⟨by kernel_rfl, fun W _ => by go_simp; (try (first | omega | simp_all))⟩) hS ?_
        simp only [Act.put, List.setIfInBounds_toArray, List.set_cons_zero, List.set_cons_succ]
        refine takeH12 3 14 (.bool false) rfl rfl (by kernel_rfl) (by kernel_rfl) (by kernel_rfl) (fun _ _ _ h => h) (Or.inl ⟨by kernel_rfl, fun W _ => by go_simp⟩) hS ?_
        simp only [Act.put, List.setIfInBounds_toArray, List.set_cons_zero, List.set_cons_succ]
        refine takeH12 4 15 (.slice xn nl.length xm) rfl rfl (by kernel_rfl) (by kernel_rfl) (by kernel_rfl) (fun _ _ _ h => h) (Or.inl ⟨by kernel_rfl, fun W _ => by go_simp⟩) hS ?_
        simp only [Act.put, List.setIfInBounds_toArray, List.set_cons_zero, List.set_cons_succ]
        refine takeH12 5 16 (.int .i64 (nl.length : Int)) rfl rfl (by kernel_rfl) (by kernel_rfl) (by kernel_rfl) (fun _ _ _ h => h) (Or.inl ⟨by kernel_rfl, fun W _ => by go_simp⟩) hS ?_
        simp only [Act.put, List.setIfInBounds_toArray, List.set_cons_zero, List.set_cons_succ]
        refine takeH12 6 17 (.bool true) rfl rfl (by kernel_rfl) (by kernel_rfl) (by kernel_rfl) (fun _ _ _ h => h) (Or.inl ⟨by kernel_rfl, fun W _ => by go_simp; (try (first | omega | simp_all))⟩) hS ?_
        simp only [Act.put, List.setIfInBounds_toArray, List.set_cons_zero, List.set_cons_succ]
        refine takeH12 7 18 (.bool true) rfl rfl (by kernel_rfl) (by kernel_rfl) (by kernel_rfl) (fun _ _ _ h => h) (Or.inl ⟨by kernel_rfl, fun W _ => by go_simp⟩) hS ?_
        simp only [Act.put, List.setIfInBounds_toArray, List.set_cons_zero, List.set_cons_succ]
        refine takeH12 8 19 (.pointer (some ⟨w.heap.size, 0, none⟩)) rfl rfl (by kernel_rfl) (by kernel_rfl) (by kernel_rfl) (fun _ _ _ h => h) (Or.inl ⟨by kernel_rfl, fun W _ => by go_simp⟩) hS ?_
        simp only [Act.put, List.setIfInBounds_toArray, List.set_cons_zero, List.set_cons_succ]
        refine takeH12 9 20 (.slice (some ⟨g, o, none⟩) ns.length c) rfl rfl (by kernel_rfl) (by kernel_rfl) (by kernel_rfl) (fun _ _ _ h => h) (Or.inl ⟨by kernel_rfl, fun W hW => by have hc := ((((hS1 W).1 hW).cell (p := ⟨w.heap.size, 0, none⟩) lc1).trans cc1); go_simp⟩) hS ?_
        simp only [Act.put, List.setIfInBounds_toArray, List.set_cons_zero, List.set_cons_succ]
        refine takeH12 10 21 (.slice (some ⟨kb, ko, none⟩) 1 kc) rfl rfl (by kernel_rfl) (by kernel_rfl) (by kernel_rfl) (fun _ _ _ h => h) (Or.inl ⟨by kernel_rfl, fun W _ => by go_simp⟩) hS ?_
        simp only [Act.put, List.setIfInBounds_toArray, List.set_cons_zero, List.set_cons_succ]
        refine takeH12 11 22 (.pointer (some ⟨kb, ko, none⟩)) rfl rfl (by kernel_rfl) (by kernel_rfl) (by kernel_rfl) (fun _ _ _ h => h) (Or.inl ⟨by kernel_rfl, fun W _ => by go_simp⟩) hS ?_
        simp only [Act.put, List.setIfInBounds_toArray, List.set_cons_zero, List.set_cons_succ]
        refine takeH12 12 23 (.int .i64 (kx : Int)) rfl rfl (by kernel_rfl) (by kernel_rfl) (by kernel_rfl) (fun _ _ _ h => h) (Or.inl ⟨by kernel_rfl, fun W hW => by have hc := ((((hS1 W).1 hW).cell (p := ⟨kb, ko, none⟩) hkb).trans hcell); go_simp⟩) hS ?_
        simp only [Act.put, List.setIfInBounds_toArray, List.set_cons_zero, List.set_cons_succ]
        refine takeH12 13 24 (.pointer (some ⟨g, o + kx * 6, none⟩)) rfl rfl (by kernel_rfl) (by kernel_rfl) (by kernel_rfl) (fun _ _ _ h => h) (Or.inl ⟨by kernel_rfl, fun W _ => by go_simp⟩) hS ?_
        simp only [Act.put, List.setIfInBounds_toArray, List.set_cons_zero, List.set_cons_succ]
        refine takeH12 14 25 (nodeV q xa xc xk xd) rfl rfl (by kernel_rfl) (by kernel_rfl) (by kernel_rfl) (fun _ _ _ h => h) (hyN14 _ rfl (by kernel_rfl) g (o + kx * 6) _ _ _ _ _ _ rfl (fun W hW => (hr1.below ((hS1 W).1 hW)).rng)) hS ?_
        simp only [Act.put, List.setIfInBounds_toArray, List.set_cons_zero, List.set_cons_succ]
        refine takeH12 15 26 (.slice xn nl.length xm) rfl rfl (by kernel_rfl) (by kernel_rfl) (by kernel_rfl) (fun _ _ _ h => h) (Or.inl ⟨by kernel_rfl, fun W _ => by go_simp⟩) hS ?_
        simp only [Act.put, List.setIfInBounds_toArray, List.set_cons_zero, List.set_cons_succ]
        refine wpAnyH_ready (rs := [16]) (by kernel_rfl) (by simp) ?_
        refine AllReadyH.cons rfl (fun K hK => ?_) AllReadyH.nil
        go_simp
        refine (HOf.out _ (by first | exact ((hS1 _).1 hS) | exact (Below.refl _ _).drew)).mono ?_
        rintro e w4 ⟨rfl, hb4⟩
        refine hK.out _ _ ((hS1 _).2 (bel ((hS1 _).1 hS) hb4)) (fun hS => ?_)
        clear hK K
        refine takeH12 17 28 (.bool true) rfl rfl (by kernel_rfl) (by kernel_rfl) (by kernel_rfl) (fun _ _ _ h => h) (Or.inl ⟨by kernel_rfl, fun W _ => by go_simp⟩) hS ?_
        simp only [Act.put, List.setIfInBounds_toArray, List.set_cons_zero, List.set_cons_succ]
        refine takeH12 18 29 (.bool true) rfl rfl (by kernel_rfl) (by kernel_rfl) (by kernel_rfl) (fun _ _ _ h => h) (Or.inl ⟨by kernel_rfl, fun W _ => by go_simp⟩) hS ?_
        simp only [Act.put, List.setIfInBounds_toArray, List.set_cons_zero, List.set_cons_succ]
        refine takeH12 19 30 (.bool true) rfl rfl (by kernel_rfl) (by kernel_rfl) (by kernel_rfl) (fun _ _ _ h => h) (Or.inl ⟨by kernel_rfl, fun W _ => by go_simp⟩) hS ?_
        simp only [Act.put, List.setIfInBounds_toArray, List.set_cons_zero, List.set_cons_succ]
        refine wpAnyH_done (by kernel_rfl) ?_ _
        have hbF := (hS1 _).1 hS
        have HF := hideT (bel HQ.out hbF)
        clear hbF
        go_wp2
        go_ret
        exact ⟨by rw [HX.out]; rfl, HF.out⟩
      · obtain ⟨S, hS1⟩ : ∃ S : World → Prop, ∀ W, S W ↔ Below w1.heap.size w1 W := ⟨_, fun _ => Iff.rfl⟩
        refine wp_region_held_drew (S := S) (by kernel_rfl) ((hS1 _).2 ((Below.refl _ _).drew)) (fun hS => ?_)
        refine takeH12 0 11 (.slice (some ⟨kb, ko, none⟩) 1 kc) rfl rfl (by kernel_rfl) (by kernel_rfl) (by kernel_rfl) (fun _ _ _ h => h) (Or.inl ⟨by kernel_rfl, fun W _ => by go_simp⟩) hS ?_
        simp only [Act.put, List.setIfInBounds_toArray, List.set_cons_zero, List.set_cons_succ]
        refine takeH12 1 12 (.int .i64 1) rfl rfl (by kernel_rfl) (by kernel_rfl) (by kernel_rfl) (fun _ _ _ h => h) (Or.inl ⟨by kernel_rfl, fun W _ => by go_simp⟩) hS ?_
        simp only [Act.put, List.setIfInBounds_toArray, List.set_cons_zero, List.set_cons_succ]
        refine takeH12 2 13 (.bool false) rfl rfl (by kernel_rfl) (by kernel_rfl) (by kernel_rfl) (fun _ _ _ h => h) (Or.inl ⟨by kernel_rfl, fun W _ => by go_simp; (try (first | omega | simp_all))⟩) hS ?_
        simp only [Act.put, List.setIfInBounds_toArray, List.set_cons_zero, List.set_cons_succ]
        refine takeH12 3 14 (.bool false) rfl rfl (by kernel_rfl) (by kernel_rfl) (by kernel_rfl) (fun _ _ _ h => h) (Or.inl ⟨by kernel_rfl, fun W _ => by go_simp⟩) hS ?_
        simp only [Act.put, List.setIfInBounds_toArray, List.set_cons_zero, List.set_cons_succ]
        refine takeH12 4 15 (.slice xn nl.length xm) rfl rfl (by kernel_rfl) (by kernel_rfl) (by kernel_rfl) (fun _ _ _ h => h) (Or.inl ⟨by kernel_rfl, fun W _ => by go_simp⟩) hS ?_
        simp only [Act.put, List.setIfInBounds_toArray, List.set_cons_zero, List.set_cons_succ]
        refine takeH12 5 16 (.int .i64 (nl.length : Int)) rfl rfl (by kernel_rfl) (by kernel_rfl) (by kernel_rfl) (fun _ _ _ h => h) (Or.inl ⟨by kernel_rfl, fun W _ => by go_simp⟩) hS ?_
        simp only [Act.put, List.setIfInBounds_toArray, List.set_cons_zero, List.set_cons_succ]
        refine takeH12 6 17 (.bool true) rfl rfl (by kernel_rfl) (by kernel_rfl) (by kernel_rfl) (fun _ _ _ h => h) (Or.inl ⟨by kernel_rfl, fun W _ => by go_simp; (try (first | omega | simp_all))⟩) hS ?_
        simp only [Act.put, List.setIfInBounds_toArray, List.set_cons_zero, List.set_cons_succ]
        refine takeH12 7 18 (.bool true) rfl rfl (by kernel_rfl) (by kernel_rfl) (by kernel_rfl) (fun _ _ _ h => h) (Or.inl ⟨by kernel_rfl, fun W _ => by go_simp⟩) hS ?_
        simp only [Act.put, List.setIfInBounds_toArray, List.set_cons_zero, List.set_cons_succ]
        refine takeH12 8 19 (.pointer (some ⟨w.heap.size, 0, none⟩)) rfl rfl (by kernel_rfl) (by kernel_rfl) (by kernel_rfl) (fun _ _ _ h => h) (Or.inl ⟨by kernel_rfl, fun W _ => by go_simp⟩) hS ?_
        simp only [Act.put, List.setIfInBounds_toArray, List.set_cons_zero, List.set_cons_succ]
        refine takeH12 9 20 (.slice (some ⟨g, o, none⟩) ns.length c) rfl rfl (by kernel_rfl) (by kernel_rfl) (by kernel_rfl) (fun _ _ _ h => h) (Or.inl ⟨by kernel_rfl, fun W hW => by have hc := ((((hS1 W).1 hW).cell (p := ⟨w.heap.size, 0, none⟩) lc1).trans cc1); go_simp⟩) hS ?_
        simp only [Act.put, List.setIfInBounds_toArray, List.set_cons_zero, List.set_cons_succ]
        refine takeH12 10 21 (.slice (some ⟨kb, ko, none⟩) 1 kc) rfl rfl (by kernel_rfl) (by kernel_rfl) (by kernel_rfl) (fun _ _ _ h => h) (Or.inl ⟨by kernel_rfl, fun W _ => by go_simp⟩) hS ?_
        simp only [Act.put, List.setIfInBounds_toArray, List.set_cons_zero, List.set_cons_succ]
        refine takeH12 11 22 (.pointer (some ⟨kb, ko, none⟩)) rfl rfl (by kernel_rfl) (by kernel_rfl) (by kernel_rfl) (fun _ _ _ h => h) (Or.inl ⟨by kernel_rfl, fun W _ => by go_simp⟩) hS ?_
        simp only [Act.put, List.setIfInBounds_toArray, List.set_cons_zero, List.set_cons_succ]
        refine takeH12 12 23 (.int .i64 (kx : Int)) rfl rfl (by kernel_rfl) (by kernel_rfl) (by kernel_rfl) (fun _ _ _ h => h) (Or.inl ⟨by kernel_rfl, fun W hW => by have hc := ((((hS1 W).1 hW).cell (p := ⟨kb, ko, none⟩) hkb).trans hcell); go_simp⟩) hS ?_
        simp only [Act.put, List.setIfInBounds_toArray, List.set_cons_zero, List.set_cons_succ]
        refine takeH12 13 24 (.pointer (some ⟨g, o + kx * 6, none⟩)) rfl rfl (by kernel_rfl) (by kernel_rfl) (by kernel_rfl) (fun _ _ _ h => h) (Or.inl ⟨by kernel_rfl, fun W _ => by go_simp⟩) hS ?_
        simp only [Act.put, List.setIfInBounds_toArray, List.set_cons_zero, List.set_cons_succ]
        refine takeH12 14 25 (nodeV q xa xc xk xd) rfl rfl (by kernel_rfl) (by kernel_rfl) (by kernel_rfl) (fun _ _ _ h => h) (hyN14 _ rfl (by kernel_rfl) g (o + kx * 6) _ _ _ _ _ _ rfl (fun W hW => (hr1.below ((hS1 W).1 hW)).rng)) hS ?_
        simp only [Act.put, List.setIfInBounds_toArray, List.set_cons_zero, List.set_cons_succ]
        refine takeH12 15 26 (.slice xn nl.length xm) rfl rfl (by kernel_rfl) (by kernel_rfl) (by kernel_rfl) (fun _ _ _ h => h) (Or.inl ⟨by kernel_rfl, fun W _ => by go_simp⟩) hS ?_
        simp only [Act.put, List.setIfInBounds_toArray, List.set_cons_zero, List.set_cons_succ]
        refine wpAnyH_ready (rs := [16]) (by kernel_rfl) (by simp) ?_
        refine AllReadyH.cons rfl (fun K hK => ?_) AllReadyH.nil
        go_simp
        refine (HOf.out _ (by first | exact ((hS1 _).1 hS) | exact (Below.refl _ _).drew)).mono ?_
        rintro e w4 ⟨rfl, hb4⟩
        refine hK.out _ _ ((hS1 _).2 (bel ((hS1 _).1 hS) hb4)) (fun hS => ?_)
        clear hK K
        refine takeH12 17 28 (.bool false) rfl rfl (by kernel_rfl) (by kernel_rfl) (by kernel_rfl) (fun _ _ _ h => h) (Or.inl ⟨by kernel_rfl, fun W _ => by go_simp⟩) hS ?_
        simp only [Act.put, List.setIfInBounds_toArray, List.set_cons_zero, List.set_cons_succ]
        refine takeH12 18 29 (.bool false) rfl rfl (by kernel_rfl) (by kernel_rfl) (by kernel_rfl) (fun _ _ _ h => h) (Or.inl ⟨by kernel_rfl, fun W _ => by go_simp⟩) hS ?_
        simp only [Act.put, List.setIfInBounds_toArray, List.set_cons_zero, List.set_cons_succ]
        refine takeH12 19 30 (.bool false) rfl rfl (by kernel_rfl) (by kernel_rfl) (by kernel_rfl) (fun _ _ _ h => h) (Or.inl ⟨by kernel_rfl, fun W _ => by go_simp⟩) hS ?_
        simp only [Act.put, List.setIfInBounds_toArray, List.set_cons_zero, List.set_cons_succ]
        refine wpAnyH_done (by kernel_rfl) ?_ _
        have hbF := (hS1 _).1 hS
        have HF := hideT (bel HQ.out hbF)
        have hk5 := (hbF.cell (p := ⟨kb, ko, none⟩) hkb).trans hcell
        clear hbF
        go_wp2
        go_ret
        exact ⟨by rw [HX.out]; rfl, HF.out⟩
  · have HX := hideT (only_none (nl := nl) hlen)
    have hlI : ((kidsR14 ns at_).length : Int) ≠ 1 := by omega
    obtain ⟨ka, kc, rfl⟩ := hrd.form
    clear hrd hO1 hb1 HK HV0 HN0 HMem hlen
    generalize hks : kidsR14 ns at_ = ks at *
    clear hks
    obtain ⟨S, hS1⟩ : ∃ S : World → Prop, ∀ W, S W ↔ Below w1.heap.size w1 W := ⟨_, fun _ => Iff.rfl⟩
    refine wp_region_held_drew (S := S) (by kernel_rfl) ((hS1 _).2 ((Below.refl _ _).drew)) (fun hS => ?_)
    refine takeH12 0 11 (.slice ka ks.length kc) rfl rfl (by kernel_rfl) (by kernel_rfl) (by kernel_rfl) (fun _ _ _ h => h) (Or.inl ⟨by kernel_rfl, fun W _ => by go_simp⟩) hS ?_
    simp only [Act.put, List.setIfInBounds_toArray, List.set_cons_zero, List.set_cons_succ]
    refine takeH12 1 12 (.int .i64 (ks.length : Int)) rfl rfl (by kernel_rfl) (by kernel_rfl) (by kernel_rfl) (fun _ _ _ h => h) (Or.inl ⟨by kernel_rfl, fun W _ => by go_simp⟩) hS ?_
    simp only [Act.put, List.setIfInBounds_toArray, List.set_cons_zero, List.set_cons_succ]
    refine takeH12 2 13 (.bool true) rfl rfl (by kernel_rfl) (by kernel_rfl) (by kernel_rfl) (fun _ _ _ h => h) (Or.inl ⟨by kernel_rfl, fun W _ => by go_simp; (try (first | omega | simp_all))⟩) hS ?_
    simp only [Act.put, List.setIfInBounds_toArray, List.set_cons_zero, List.set_cons_succ]
    refine takeH12 3 14 (.bool true) rfl rfl (by kernel_rfl) (by kernel_rfl) (by kernel_rfl) (fun _ _ _ h => h) (Or.inl ⟨by kernel_rfl, fun W _ => by go_simp⟩) hS ?_
    simp only [Act.put, List.setIfInBounds_toArray, List.set_cons_zero, List.set_cons_succ]
    refine takeH12 4 15 (undef) rfl rfl (by kernel_rfl) (by kernel_rfl) (by kernel_rfl) (fun _ _ _ h => h) (Or.inr ⟨by kernel_rfl, rfl⟩) hS ?_
    simp only [Act.put, List.setIfInBounds_toArray, List.set_cons_zero, List.set_cons_succ]
    refine takeH12 5 16 (undef) rfl rfl (by kernel_rfl) (by kernel_rfl) (by kernel_rfl) (fun _ _ _ h => h) (Or.inr ⟨by kernel_rfl, rfl⟩) hS ?_
    simp only [Act.put, List.setIfInBounds_toArray, List.set_cons_zero, List.set_cons_succ]
    refine takeH12 6 17 (undef) rfl rfl (by kernel_rfl) (by kernel_rfl) (by kernel_rfl) (fun _ _ _ h => h) (Or.inr ⟨by kernel_rfl, rfl⟩) hS ?_
    simp only [Act.put, List.setIfInBounds_toArray, List.set_cons_zero, List.set_cons_succ]
    refine takeH12 7 18 (undef) rfl rfl (by kernel_rfl) (by kernel_rfl) (by kernel_rfl) (fun _ _ _ h => h) (Or.inr ⟨by kernel_rfl, rfl⟩) hS ?_
    simp only [Act.put, List.setIfInBounds_toArray, List.set_cons_zero, List.set_cons_succ]
    refine takeH12 8 19 (undef) rfl rfl (by kernel_rfl) (by kernel_rfl) (by kernel_rfl) (fun _ _ _ h => h) (Or.inr ⟨by kernel_rfl, rfl⟩) hS ?_
    simp only [Act.put, List.setIfInBounds_toArray, List.set_cons_zero, List.set_cons_succ]
    refine takeH12 9 20 (undef) rfl rfl (by kernel_rfl) (by kernel_rfl) (by kernel_rfl) (fun _ _ _ h => h) (Or.inr ⟨by kernel_rfl, rfl⟩) hS ?_
    simp only [Act.put, List.setIfInBounds_toArray, List.set_cons_zero, List.set_cons_succ]
    refine takeH12 10 21 (undef) rfl rfl (by kernel_rfl) (by kernel_rfl) (by kernel_rfl) (fun _ _ _ h => h) (Or.inr ⟨by kernel_rfl, rfl⟩) hS ?_
    simp only [Act.put, List.setIfInBounds_toArray, List.set_cons_zero, List.set_cons_succ]
    refine takeH12 11 22 (undef) rfl rfl (by kernel_rfl) (by kernel_rfl) (by kernel_rfl) (fun _ _ _ h => h) (Or.inr ⟨by kernel_rfl, rfl⟩) hS ?_
    simp only [Act.put, List.setIfInBounds_toArray, List.set_cons_zero, List.set_cons_succ]
    refine takeH12 12 23 (undef) rfl rfl (by kernel_rfl) (by kernel_rfl) (by kernel_rfl) (fun _ _ _ h => h) (Or.inr ⟨by kernel_rfl, rfl⟩) hS ?_
    simp only [Act.put, List.setIfInBounds_toArray, List.set_cons_zero, List.set_cons_succ]
    refine takeH12 13 24 (undef) rfl rfl (by kernel_rfl) (by kernel_rfl) (by kernel_rfl) (fun _ _ _ h => h) (Or.inr ⟨by kernel_rfl, rfl⟩) hS ?_
    simp only [Act.put, List.setIfInBounds_toArray, List.set_cons_zero, List.set_cons_succ]
    refine takeH12 14 25 (undef) rfl rfl (by kernel_rfl) (by kernel_rfl) (by kernel_rfl) (fun _ _ _ h => h) (Or.inr ⟨by kernel_rfl, rfl⟩) hS ?_
    simp only [Act.put, List.setIfInBounds_toArray, List.set_cons_zero, List.set_cons_succ]
    refine takeH12 15 26 (undef) rfl rfl (by kernel_rfl) (by kernel_rfl) (by kernel_rfl) (fun _ _ _ h => h) (Or.inr ⟨by kernel_rfl, rfl⟩) hS ?_
    simp only [Act.put, List.setIfInBounds_toArray, List.set_cons_zero, List.set_cons_succ]
    refine takeH12 16 27 (undef) rfl rfl (by kernel_rfl) (by kernel_rfl) (by kernel_rfl) (fun _ _ _ h => h) (Or.inr ⟨by kernel_rfl, rfl⟩) hS ?_
    simp only [Act.put, List.setIfInBounds_toArray, List.set_cons_zero, List.set_cons_succ]
    refine takeH12 17 28 (undef) rfl rfl (by kernel_rfl) (by kernel_rfl) (by kernel_rfl) (fun _ _ _ h => h) (Or.inr ⟨by kernel_rfl, rfl⟩) hS ?_
    simp only [Act.put, List.setIfInBounds_toArray, List.set_cons_zero, List.set_cons_succ]
    refine takeH12 18 29 (undef) rfl rfl (by kernel_rfl) (by kernel_rfl) (by kernel_rfl) (fun _ _ _ h => h) (Or.inr ⟨by kernel_rfl, rfl⟩) hS ?_
    simp only [Act.put, List.setIfInBounds_toArray, List.set_cons_zero, List.set_cons_succ]
    refine takeH12 19 30 (.bool true) rfl rfl (by kernel_rfl) (by kernel_rfl) (by kernel_rfl) (fun _ _ _ h => h) (Or.inl ⟨by kernel_rfl, fun W _ => by go_simp⟩) hS ?_
    simp only [Act.put, List.setIfInBounds_toArray, List.set_cons_zero, List.set_cons_succ]
    refine wpAnyH_done (by kernel_rfl) ?_ _
    have hbF := (hS1 _).1 hS
    have HF := hideT (bel HQ.out hbF)
    clear hbF
    go_wp2
    go_ret
    exact ⟨by rw [HX.out]; rfl, HF.out⟩
end Go.Proofs.Ytoiedadfpbbdgaa
/- The contracts of look's told, Text and Plain. -/
namespace Go.Proofs.Ytoiedadfpbbdgaa
open Go.RowKit
theorem TlAt.fresh (w : World) (nv pv : Value) : TlAt w.heap.size (w.alloc (.cells #[nv, pv, .pointer none, .slice none 0 0] 94)) nv pv [] :=
  ⟨_, _, heap_new w _, .inl rfl, World.ownsRowF_nil _ _ _ _, by simp [Value.ownBlock]⟩
def toldR14 (ns : List Nd) (p : Bool) (at_ : Int) : List UInt8 := if Lk.placeB ns at_ = true then Lk.toldT ns p at_.toNat else []
theorem toldR14_len {ns : List Nd} (hf : Fair14 ns) (p : Bool) (at_ : Int) : (toldR14 ns p at_).length ≤ 200000000 := by
  unfold toldR14
  split
  · rename_i h
    obtain ⟨i, rfl, hi, hm⟩ := Lk.place_yes h
    have := Lk.told_most hm p (hf.few hm) (hf.txt hm) (fun i hi a ha => (hf.val hm i hi a ha).2) hi
    rw [Int.toNat_natCast]
    omega
  · exact Nat.zero_le _
set_option maxHeartbeats 4000000 in
set_option maxRecDepth 100000 in
theorem told14_any (ns : List Nd) (v : Value) (at_ : Int) (p : Bool) (w : World) (hv : ReadsN w v ns) (hf : Fair14 ns) :
    Calls Try.prog 49 #[.agg #[v], .int .i64 at_, .bool p] w fun e w' => e = .returned (.string (str (toldR14 ns p at_))) ∧ Below w.heap.size w w' := by
  obtain ⟨a, c, rfl⟩ := hv.form
  have hb0 : Below w.heap.size w (w.alloc (.cells #[.slice a ns.length c] 24)) := (Below.refl _ _).alloc (Nat.le_refl _) _
  have cc0 := doc_cell (heap_new w (.cells #[.slice a ns.length c] 24))
  have lc := cell_lt cc0
  have HI := hideT (isPlace_any ns _ at_ _ (hv.below hb0) hf)
  have HB0 := hideT hb0
  have hlen := toldR14_len hf p at_
  cases hp : Lk.placeB ns at_
  · have HX : Hid (toldR14 ns p at_ = []) := by
      show _ = _
      unfold toldR14
      rw [hp]
      rfl
    rw [hp] at HI
    clear hv hb0 hf hp lc
    go_enter Try.func49, Try.ntmps49
    go_wp2_with (go_at_call 33; refine HI.out.mono ?_; rintro e w1 ⟨rfl, b1⟩; have HQ := hideT (bel HB0.out b1); clear b1)
    go_ret
    exact ⟨by rw [HX.out]; rfl, HQ.out⟩
  · obtain ⟨i, rfl, hi, hm⟩ := Lk.place_yes hp
    have hn4 := hf.few hm
    have hX : toldR14 ns p (i : Int) = Lk.toldT ns p i := by
      unfold toldR14
      rw [hp, if_pos rfl, Int.toNat_natCast]
    rw [hX] at hlen
    have HX := hideT hX
    rw [hp] at HI
    have HV0 := hideT (hv.below hb0)
    obtain ⟨g, o, aa, ac, ka, kc, rfl, hcc, hr⟩ := (hv.below hb0).at hi
    have hin : (i : Int) < (ns.length : Int) := by omega
    have HR := hideT hr
    have HF := hideT hf
    have HM := hideT hm
    clear hv hb0 hf hp hm hr hX
    by_cases hk3 : (Tre.ndAt ns i).kind = 3
    · have HT : Hid (Lk.toldT ns p i = (Tre.ndAt ns i).text) := if_pos hk3
      clear HF HM HV0 hlen
      generalize Tre.ndAt ns i = n at *
      obtain ⟨qk, qn, qa, qx, qu, qs⟩ := n
      simp only at hk3 HT
      subst hk3
      go_enter Try.func49, Try.ntmps49
      go_upto_region 3 with (go_at_call 33; refine HI.out.mono ?_; rintro e w1 ⟨rfl, b1⟩; have HQ := hideT (bel HB0.out b1); have cc1 := (b1.cell (p := ⟨w.heap.size, 0, none⟩) lc).trans cc0; have HR1 := hideT (HR.out.below b1); clear b1 HR HI)
      have c0 := HR1.out.c0
      have c3 := HR1.out.c3
      go_wp2
      go_ret
      exact ⟨by rw [HX.out, HT.out]; rfl, HQ.out⟩
    · have hT : Lk.toldT ns p i = Lk.joinT ns p i := if_neg hk3
      rw [hT] at hlen
      have HT := hideT hT
      have q3 : ((Tre.ndAt ns i).kind == (3 : Int)) = false := beq_eq_false_iff_ne.2 hk3
      clear hk3 hT
      obtain ⟨kd, hkd⟩ : ∃ kd, (Tre.ndAt ns i).kind = kd := ⟨_, rfl⟩
      rw [hkd] at q3
      go_enter Try.func49, Try.ntmps49
      go_upto_region 3 with (go_at_call 33; refine HI.out.mono ?_; rintro e w1 ⟨rfl, b1⟩; have HQ := hideT (bel HB0.out b1); have cc1 := (b1.cell (p := ⟨w.heap.size, 0, none⟩) lc).trans cc0; have HR1 := hideT (HR.out.below b1); have HV1 := hideT (HV0.out.below b1); clear b1 HR HI HV0)
      have c0 := HR1.out.c0
      rw [hkd] at c0
      clear HR1 hkd
      have hbT : Below w1.heap.size w1 (w1.alloc (.cells #[.slice (some ⟨g, o, none⟩) ns.length c, .bool p, .pointer none, .slice none 0 0] 94)) := (Below.refl _ _).alloc (Nat.le_refl _) _
      have HK := hideT ((tells_any (p := p) (b := w1.heap.size) HV1.out HF.out HM.out (Nat.le_refl _) ns.length i hi (Nat.sub_le ..)).1 _ [] (TlAt.fresh w1 _ (.bool p)) hbT (by rw [List.length_nil, Nat.zero_add]; omega))
      have HBT := hideT hbT
      clear HV1 HF HM hbT
      go_wp2_with (first
        | (go_at_call 66; refine HK.out.mono ?_; rintro e w3 ⟨rfl, hT3, hR3⟩; rw [List.nil_append] at hT3; have HT3 := hideT hT3; have HB3 := hideT (HBT.out.trans hR3.bel); clear hT3 hR3 HK)
        | (go_at_call 67; refine (String14 HT3.out (by omega)).mono ?_; rintro e w4 ⟨rfl, b4⟩; have HB4 := hideT (HB3.out.trans b4); clear b4))
      go_ret
      exact ⟨by rw [HX.out, HT.out]; rfl, bel HQ.out HB4.out⟩
theorem plainR14 (ns : List Nd) (at_ : Int) : Lk.plainR ns at_ = Asc.trim (toldR14 ns true at_) := by
  unfold Lk.plainR toldR14
  split
  · rfl
  · rfl
set_option maxHeartbeats 1000000 in
set_option maxRecDepth 100000 in
theorem Plain14_any (ns : List Nd) (v : Value) (at_ : Int) (w : World) (hv : ReadsN w v ns) (hf : Fair14 ns) :
    Calls Try.prog 30 #[.agg #[v], .int .i64 at_] w fun e w' => e = .returned (.string (str (Lk.plainR ns at_))) ∧ Below w.heap.size w w' := by
  obtain ⟨a, c, rfl⟩ := hv.form
  have hb0 : Below w.heap.size w (w.alloc (.cells #[.slice a ns.length c] 24)) := (Below.refl _ _).alloc (Nat.le_refl _) _
  have cc0 := doc_cell (heap_new w (.cells #[.slice a ns.length c] 24))
  have HT := hideT (told14_any ns _ at_ true _ (hv.below hb0) hf)
  have hlen := toldR14_len hf true at_
  have HB0 := hideT hb0
  have HX := hideT (plainR14 ns at_)
  generalize toldR14 ns true at_ = tx at *
  have HTr := hideT (fun W => Trim_any (str tx) W (by rw [str_size]; omega))
  simp only [str_data] at HTr
  clear hv hb0 hf
  go_enter Try.func30, Try.ntmps30
  go_wp2_with (first
    | (go_at_call 49; refine HT.out.mono ?_; rintro e w1 ⟨rfl, b1⟩; have HQ := hideT (bel HB0.out b1); clear b1)
    | (go_at_call 50; refine (HTr.out _).mono ?_; rintro e w2 ⟨rfl, b2⟩; first | subst b2 | have HQ2 := hideT (bel HQ.out b2)))
  go_ret
  exact ⟨by rw [HX.out]; rfl, by first | exact HQ.out | exact HQ2.out⟩
end Go.Proofs.Ytoiedadfpbbdgaa
/- The contract of the alive of stage 14's laws; a tree that is not far is fair. -/
namespace Go.Proofs.Ytoiedadfpbbdgaa
open Go.RowKit
theorem fair_of {M K : Nat} {ns : List Nd} (hl : ns.length ≤ 140737488351232) (hM : 0 < M) (hM2 : M ≤ 100000) (hK : K ≤ 1000) (h : Lk.farL M K ns = false) : Fair14 ns :=
  ⟨hl, fun _ i hi => Nat.le_trans ((Lk.farL_no h).2.2 i hi) (by decide), fun hm i hi a ha => ⟨Nat.le_trans ((Lk.far_small h hM hm hi).2.2 a ha).1 hM2, Nat.le_trans ((Lk.far_small h hM hm hi).2.2 a ha).2 hM2⟩, fun hm i hi => Nat.le_trans (Lk.far_small h hM hm hi).2.1 hM2, fun hm => Nat.le_trans (Lk.farL_no h).1 hK⟩
theorem al_parse : parseR Lk.alS = (Lk.alN, 0) := by
  have h : allR Lk.alS = ([Lk.tP, Tk.textTok [120], Lk.tS Lk.brN, Tk.textTok [121], Lk.tE Lk.pN], 0) := by
    unfold allR
    rw [Lk.al_clean, Lk.al_all]
    rfl
  unfold parseR
  rw [h]
  simp only [if_true]
  rw [Lk.al_tree]
theorem al_fair : Fair14 Lk.alN := by
  have h1 : ∀ i : Fin Lk.alN.length, (Tre.ndAt Lk.alN i.val).attrs.length ≤ 1000000 := by decide +kernel
  have h2 : ∀ i : Fin Lk.alN.length, ∀ a ∈ (Tre.ndAt Lk.alN i.val).attrs, a.1.length ≤ 100000 ∧ a.2.length ≤ 100000 := by decide +kernel
  have h3 : ∀ i : Fin Lk.alN.length, (Tre.ndAt Lk.alN i.val).text.length ≤ 100000 := by decide +kernel
  exact ⟨by decide, fun _ i hi => h1 ⟨i, hi⟩, fun _ i hi => h2 ⟨i, hi⟩, fun _ i hi => h3 ⟨i, hi⟩, fun _ => by decide⟩
theorem al_words14 : wordsR14 Lk.alN 1 Lk.classN = [[97], [98]] := by
  have hp : Lk.placeB Lk.alN 1 = true := Lk.place_at (i := 1) (by decide) Lk.al_may
  unfold wordsR14 attrR14
  rw [if_pos hp]
  exact Lk.al_words
theorem al_has14 : hasR14 Lk.alN 1 [98] = true := by
  have hp : Lk.placeB Lk.alN 1 = true := Lk.place_at (i := 1) (by decide) Lk.al_may
  unfold hasR14 attrR14
  rw [if_pos hp]
  exact Lk.al_has
theorem al_only14 : onlyR14 Lk.alN 0 [] = 1 := by
  have hp : Lk.placeB Lk.alN 0 = true := Lk.place_at (i := 0) (by decide) Lk.al_may
  have hk : kidsR14 Lk.alN 0 = [1] := by
    unfold kidsR14
    rw [if_pos hp]
    exact Lk.al_kids
  exact only_free hk
theorem al_plain14 : Lk.plainR Lk.alN 0 = [120, 10, 121] := by
  have hp : Lk.placeB Lk.alN 0 = true := Lk.place_at (i := 0) (by decide) Lk.al_may
  unfold Lk.plainR
  rw [if_pos hp]
  exact Lk.al_plain
set_option maxHeartbeats 4000000 in
set_option maxRecDepth 100000 in
theorem alive14_any (w : World) : Calls Try.prog 9 #[] w fun e w' => e = .returned (.bool true) ∧ Below w.heap.size w w' := by
  have hP := RParse_any Lk.alS w
  rw [al_parse] at hP
  rw [show str Lk.alS = ⟨#[60, 112, 32, 99, 108, 97, 115, 115, 61, 34, 97, 32, 32, 98, 32, 97, 34, 62, 120, 60, 98, 114, 62, 121, 60, 47, 112, 62]⟩ from rfl] at hP
  have HWo := hideT (fun W v h => Words14_any Lk.alN v 1 Lk.classN W h al_fair)
  rw [al_words14, show str Lk.classN = ⟨#[99, 108, 97, 115, 115]⟩ from rfl] at HWo
  have HPl := hideT (fun W v h => Plain14_any Lk.alN v 0 W h al_fair)
  rw [al_plain14] at HPl
  have HHa := hideT (fun W v h => Has14_any Lk.alN v 1 [98] W h al_fair)
  rw [al_has14, show str [98] = ⟨#[98]⟩ from rfl] at HHa
  have HOn := hideT (fun W v h => Only14_any Lk.alN v 0 [] (.slice none 0 0) W h al_fair (.inl ⟨none, 0, rfl, rfl⟩) (Nat.zero_le _))
  rw [al_only14] at HOn
  have HLit : Hid (∀ W : World, OwnsTexts (W.alloc (.cells #[.string ⟨#[97]⟩, .string ⟨#[98]⟩] 9)) W.heap.size (.slice (some ⟨W.heap.size, 0, none⟩) 2 2) [[97], [98]]) := fun W => own_lit W [[97], [98]] (by decide)
  have t1 : ((str [120, 10, 121]).toList == [120, 10, 121]) = true := by rw [str_list]; rfl
  have hl5 : Lk.alN.length = 5 := rfl
  go_enter Try.func9, Try.ntmps9
  go_upto_region 2 with (go_at_call 32; refine hP.mono ?_; rintro e w1 ⟨v, rfl, hR, hb1⟩; obtain ⟨a, c, rfl⟩ := hR.form)
  have hbA : Below w1.heap.size w1 (w1.alloc (.cells #[.slice a Lk.alN.length c] 24)) := (Below.refl _ _).alloc (Nat.le_refl _) _
  have cd := doc_cell (heap_new w1 (.cells #[.slice a Lk.alN.length c] 24))
  have hR2 := hR.below hbA
  rw [hl5] at hR2 cd hbA
  have HB2 := hideT (hb1.trans (hbA.mono hb1.size))
  have HR2 := hideT hR2
  have hds : w1.heap.size < (w1.alloc (.cells #[.slice a 5 c] 24)).heap.size := cell_lt cd
  generalize (w1.alloc (.cells #[.slice a 5 c] 24)) = W2 at *
  generalize w1.heap.size = b at *
  clear hR hR2 hP hbA hb1
  go_wp2_with (first
    | (go_at_call 13; refine (HWo.out _ _ HR2.out).mono ?_; rintro e w3 ⟨x3, rfl, hO3, b3⟩; obtain ⟨a3, c3, rfl⟩ := ReadsTexts13.form hO3.reads; have HO3 := hideT hO3.reads; have HB3 := hideT b3; have cd3 := (b3.cell (p := ⟨b, 0, none⟩) hds).trans cd; have hds3 := Nat.lt_of_lt_of_le hds b3.size; clear b3 hO3 cd HWo)
    | (go_at_call 12; refine (Texts_any _ _ [[97], [98]] [[97], [98]] _ (ReadsTexts13.below HO3.out ((Below.refl _ w3).alloc (Nat.le_refl _) _)) (HLit.out w3).reads (by decide) (by decide)).mono ?_; rintro e w4 ⟨rfl, m4, rfl⟩; have hb4 : Below w3.heap.size w3 ((w3.alloc (.cells #[.string ⟨#[97]⟩, .string ⟨#[98]⟩] 9)).drewN m4) := bel ((Below.refl _ w3).alloc (Nat.le_refl _) _) (bel_quiet ⟨m4, rfl⟩); have HB4 := hideT (bel HB3.out hb4); have cd4 := (hb4.cell (p := ⟨b, 0, none⟩) hds3).trans cd3; have hds4 := Nat.lt_of_lt_of_le hds3 hb4.size; clear hb4 cd3; rw [decide_eq_true (rfl : ([[97], [98]] : List (List UInt8)) = [[97], [98]])]; generalize ((w3.alloc (.cells #[.string ⟨#[97]⟩, .string ⟨#[98]⟩] 9)).drewN m4) = W4 at *)
    | (go_at_call 30; refine (HPl.out _ _ (HR2.out.below HB4.out)).mono ?_; rintro e w5 ⟨rfl, b5⟩; have HB5 := hideT (bel HB4.out b5); have cd5 := (b5.cell (p := ⟨b, 0, none⟩) hds4).trans cd4; have hds5 := Nat.lt_of_lt_of_le hds4 b5.size; clear b5 cd4 HPl)
    | (go_at_call 15; refine (HHa.out _ _ (HR2.out.below HB5.out)).mono ?_; rintro e w6 ⟨rfl, b6⟩; have HB6 := hideT (bel HB5.out b6); have cd6 := (b6.cell (p := ⟨b, 0, none⟩) hds5).trans cd5; clear b6 cd5 HHa)
    | (go_at_call 26; refine (HOn.out _ _ (HR2.out.below HB6.out)).mono ?_; rintro e w7 ⟨rfl, b7⟩; have HB7 := hideT (bel HB6.out b7); clear b7 HOn))
  go_ret
  exact ⟨rfl, HB2.out.trans (HB7.out.mono HB2.out.size)⟩
end Go.Proofs.Ytoiedadfpbbdgaa
