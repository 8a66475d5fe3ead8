/- Texts laid as one. -/
import Derived.Test.YtmmpbjpeiclacaaGreatDoorKYA
import Derived.Test.YtmmpbjpeiclacaaGreatDoorKJson
import Derived.Shelf.Strings.SlTrimAscii
import Derived.Lib.Builder
import Derived.Lib.SmallJoins
import Derived.WalkLawsBesides
import Derived.Deep.RegionHeldLaw
/- A parser in memory, and the contracts of its small methods: peek, next, skipBlanks, part, takes, goesOn. -/
set_option linter.unusedVariables false
set_option linter.unusedSimpArgs false
namespace Go.Proofs.YtmmpbjpeiclacaaGreatDoor
open Go.RowKit
/-- All blocks but b are as they were. -/
structure Kept (b : Nat) (w w' : World) : Prop where
  os : w'.os = w.os
  tape : w'.tape = w.tape
  output : w'.output = w.output
  size : w.heap.size ≤ w'.heap.size
  block : ∀ k, k < w.heap.size → k ≠ b → w'.heap[k]? = w.heap[k]?
theorem Kept.refl (b : Nat) (w : World) : Kept b w w := ⟨rfl, rfl, rfl, Nat.le_refl _, fun _ _ _ => rfl⟩
theorem Kept.trans {b : Nat} {a c d : World} (h : Kept b a c) (k : Kept b c d) : Kept b a d :=
  ⟨k.os.trans h.os, k.tape.trans h.tape, k.output.trans h.output, Nat.le_trans h.size k.size, fun i hi hb => (k.block i (Nat.lt_of_lt_of_le hi h.size) hb).trans (h.block i hi hb)⟩
theorem Kept.of {b : Nat} {w w' : World} (h : Below w.heap.size w w') : Kept b w w' := ⟨h.os, h.tape, h.output, h.size, fun k hk _ => h.block k hk⟩
theorem Kept.set (b o : Nat) (w : World) (v : Value) : Kept b w (w.setCell ⟨b, o, none⟩ v) := by
  have h := (Below.refl 0 w).setCell (p := ⟨b, o, none⟩) (Nat.zero_le _) v
  exact ⟨h.os, h.tape, h.output, h.size, fun k _ hb => Below.heap_setCell _ _ _ _ hb⟩
theorem Kept.below {b : Nat} {w w' : World} (h : Kept b w w') (B : Nat) (h1 : B ≤ b) (h2 : B ≤ w.heap.size) : Below B w w' :=
  ⟨h.os, h.tape, h.output, h.size, fun k hk => h.block k (by omega) (by omega)⟩
theorem Kept.drew {b : Nat} {w w' : World} (h : Kept b w w') : Kept b w w'.drew := ⟨h.os, h.tape, h.output, h.size, h.block⟩
/-- The parser at b has the text s, of which l is left, and has met n values. -/
structure Ps (b : Nat) (s l : List UInt8) (n : Nat) (w : World) : Prop where
  at_ : w.heap[b]? = some (.cells #[.string (str s), .int .i64 ((s.length - l.length : Nat) : Int), .int .i64 (n : Int)] 78 (0, 0))
  suf : l <:+ s
  len : s.length ≤ 65536
  cnt : n ≤ 4096
theorem Ps.lt {b n : Nat} {s l : List UInt8} {w : World} (h : Ps b s l n w) : b < w.heap.size := (Array.getElem?_eq_some_iff.1 h.at_).1
theorem Ps.c0 {b n : Nat} {s l : List UInt8} {w : World} (h : Ps b s l n w) : w.cell? ⟨b, 0, none⟩ = some (.string (str s)) := Lib.cell_of_heap h.at_ 0
theorem Ps.c1 {b n : Nat} {s l : List UInt8} {w : World} (h : Ps b s l n w) : ∃ p : Nat, p + l.length = s.length ∧ w.cell? ⟨b, 1, none⟩ = some (.int .i64 (p : Int)) :=
  ⟨s.length - l.length, by have := h.suf.length_le; omega, Lib.cell_of_heap h.at_ 1⟩
theorem Ps.c2 {b n : Nat} {s l : List UInt8} {w : World} (h : Ps b s l n w) : w.cell? ⟨b, 2, none⟩ = some (.int .i64 (n : Int)) := Lib.cell_of_heap h.at_ 2
theorem Ps.free {b n : Nat} {s l : List UInt8} {w : World} (h : Ps b s l n w) (o : Nat) : w.frozen? ⟨b, o, none⟩ = false := Lib.frozen_of_heap h.at_ o
theorem Ps.le {b n : Nat} {s l : List UInt8} {w : World} (h : Ps b s l n w) : l.length ≤ s.length := h.suf.length_le
theorem Ps.drew {b n : Nat} {s l : List UInt8} {w : World} (h : Ps b s l n w) : Ps b s l n w.drew := ⟨h.at_, h.suf, h.len, h.cnt⟩
theorem Ps.setAt {b n : Nat} {s l z : List UInt8} {w : World} (q : Nat) (h : Ps b s l n w) (hz : z <:+ l) (hq : q + z.length = s.length) : Ps b s z n (w.setCell ⟨b, 1, none⟩ (.int .i64 (q : Int))) := by
  obtain rfl : q = s.length - z.length := by omega
  exact ⟨Go.Joins.block_setCell h.at_ _, hz.trans h.suf, h.len, h.cnt⟩
theorem Ps.setCnt {b n : Nat} {s l : List UInt8} {w : World} (m : Nat) (h : Ps b s l n w) (hm : m ≤ 4096) : Ps b s l m (w.setCell ⟨b, 2, none⟩ (.int .i64 (m : Int))) :=
  ⟨Go.Joins.block_setCell h.at_ _, h.suf, h.len, hm⟩
theorem Ps.step {b n : Nat} {s l : List UInt8} {w w' : World} (h : Ps b s l n w) (hb : Below w.heap.size w w') : Ps b s l n w' :=
  ⟨(hb.block b h.lt).trans h.at_, h.suf, h.len, h.cnt⟩
/-- What is left is the text's end. -/
theorem suf_from {l s : List UInt8} (h : l <:+ s) {p : Nat} (hp : p + l.length = s.length) : (str s).extract p s.length = str l := by
  obtain ⟨q, rfl⟩ := h
  obtain rfl : p = q.length := by simp at hp; omega
  rw [str_from]
  simp
theorem suf_at {c : UInt8} {r s : List UInt8} (h : c :: r <:+ s) {p : Nat} (hp : p + (r.length + 1) = s.length) (hi : p < (str s).size) : (str s)[p] = c := by
  obtain ⟨q, rfl⟩ := h
  obtain rfl : p = q.length := by simp at hp; omega
  have e : (str (q ++ c :: r)).data[q.length]? = some c := by rw [← Array.getElem?_toList, str_data]; simp
  exact (Array.getElem?_eq_some_iff.1 e).2
/-- A fault, thrown where so much is left. -/
abbrev boom (s : List UInt8) (why : Int) (left : Nat) : Ending := .panicked [{ v := .iface 41 (.agg #[.int .i64 why, .int .i64 ((s.length - left : Nat) : Int)]), recovered := false }]
/-- What a reader answers, as the walks have it. -/
def Ans {α : Type} (x : Jsn.R α) (good : α → List UInt8 → Prop) (bad : Int → Nat → Prop) : Prop := match x with
  | .ok a r => good a r
  | .err y k => bad y k
set_option maxHeartbeats 400000 in
theorem peek_ok {b n : Nat} {s r : List UInt8} {c : UInt8} {w : World} (h : Ps b s (c :: r) n w) :
    Calls Tryz.prog 100 #[.pointer (some ⟨b, 0, none⟩)] w fun e w' => e = .returned (.int .u8 c.toNat) ∧ Ps b s (c :: r) n w' ∧ Kept b w w' := by
  have c0 := h.c0
  obtain ⟨p, hp, c1⟩ := h.c1
  have hz := str_size s
  have hlen := h.len
  simp only [List.length_cons] at hp
  have hi := suf_at h.suf hp (by rw [hz]; omega)
  go_enter Tryz.func100, Tryz.ntmps100
  go_wp2
  go_region
  go_wp2
  go_region
  go_wp2
  go_ret
  exact ⟨rfl, h.drew.drew, (Kept.refl _ _).drew.drew⟩
set_option maxHeartbeats 400000 in
theorem peek_end {b n : Nat} {s : List UInt8} {w : World} (h : Ps b s [] n w) :
    Calls Tryz.prog 100 #[.pointer (some ⟨b, 0, none⟩)] w fun e w' => e = boom s 4 0 ∧ Kept b w w' := by
  have c0 := h.c0
  obtain ⟨p, hp, c1⟩ := h.c1
  have hz := str_size s
  have hlen := h.len
  simp only [List.length_nil, Nat.add_zero] at hp
  subst hp
  go_enter Tryz.func100, Tryz.ntmps100
  go_wp2
  go_region
  go_wp2
  exact ⟨rfl, rfl, (Kept.refl _ _).drew⟩
theorem Ps.tail {b n : Nat} {s r : List UInt8} {c : UInt8} {w : World} (p : Nat) (h : Ps b s (c :: r) n w) (hp : p + (r.length + 1) = s.length) : Ps b s r n (w.setCell ⟨b, 1, none⟩ (.int .i64 ((p : Int) + 1))) :=
  h.setAt (p + 1) (List.suffix_cons c r) (by omega)
set_option maxHeartbeats 400000 in
theorem next_ok {b n : Nat} {s r : List UInt8} {c : UInt8} {w : World} (h : Ps b s (c :: r) n w) :
    Calls Tryz.prog 104 #[.pointer (some ⟨b, 0, none⟩)] w fun e w' => e = .returned (.int .u8 c.toNat) ∧ Ps b s r n w' ∧ Kept b w w' := by
  go_enter Tryz.func104, Tryz.ntmps104
  go_wp2_with (first
    | (go_at_call 100; refine (peek_ok h).mono ?_; rintro e w1 ⟨rfl, hP, hK⟩; obtain ⟨p, hp, c1⟩ := hP.c1; have f1 := hP.free 1; have hlen := hP.len; simp only [List.length_cons] at hp))
  go_ret
  exact ⟨rfl, hP.tail p hp, hK.trans (Kept.set _ _ _ _)⟩
theorem next_end {b n : Nat} {s : List UInt8} {w : World} (h : Ps b s [] n w) :
    Calls Tryz.prog 104 #[.pointer (some ⟨b, 0, none⟩)] w fun e w' => e = boom s 4 0 ∧ Kept b w w' := by
  go_enter Tryz.func104, Tryz.ntmps104
  go_wp2_with (first
    | (go_at_call 100; refine (peek_end h).mono ?_; rintro e w1 ⟨rfl, hK⟩))
  exact ⟨rfl, rfl, hK⟩
theorem ws_set (c : UInt8) : [9, 10, 13, 32].contains c = Jsn.wsB c := by
  revert c; apply Jsn.byte_all; decide +kernel
theorem TrimWs_any (l : List UInt8) (w : World) :
    Calls Tryz.prog 87 #[.string (str l), .string ⟨#[9, 10, 13, 32]⟩] w fun e w' => e = .returned (.string (str (Jsn.skip l))) ∧ Below w.heap.size w w' := by
  have h := Any.strings_TrimLeft_laid Tryz.lays161 (by kernel_rfl) (str l) ⟨#[9, 10, 13, 32]⟩ w (by decide) (by
    intro j b hb
    have : b ∈ [9, 10, 13, 32] := List.mem_of_getElem? hb
    simp only [List.mem_cons, List.not_mem_nil, or_false] at this
    rcases this with rfl | rfl | rfl | rfl <;> decide)
  rw [str_data] at h
  have e : Lib.trimLeftS l [9, 10, 13, 32] = Jsn.skip l := by
    unfold Lib.trimLeftS
    congr 1
    funext c
    exact ws_set c
  rw [← e]
  exact h
end Go.Proofs.YtmmpbjpeiclacaaGreatDoor
/- The contract of skipBlanks. -/
set_option linter.unusedVariables false
set_option linter.unusedSimpArgs false
namespace Go.Proofs.YtmmpbjpeiclacaaGreatDoor
open Go.RowKit
set_option maxHeartbeats 1000000 in
theorem skip_any {b n : Nat} {s l : List UInt8} {w : World} (h : Ps b s l n w) :
    Calls Tryz.prog 65 #[.pointer (some ⟨b, 0, none⟩)] w fun e w' => e = .returned (.tuple #[]) ∧ Ps b s (Jsn.skip l) n w' ∧ Kept b w w' := by
  obtain ⟨p, hp, c1⟩ := h.c1
  have c0 := h.c0
  have f1 := h.free 1
  have hz := str_size s
  have hlen := h.len
  have hx := suf_from h.suf hp
  have hsk := Jsn.skip_suf l
  have hle := hsk.length_le
  have hz2 := str_size (Jsn.skip l)
  have hT := TrimWs_any l
  have b1 : (0 : Int) ≤ (p : Int) := by omega
  have b2 : (p : Int) ≤ (s.length : Int) := by omega
  go_enter Tryz.func65, Tryz.ntmps65
  have hwr : IntKind.i64.wrap ((s.length : Int) - ((Jsn.skip l).length : Int)) = ((s.length - (Jsn.skip l).length : Nat) : Int) := by
    rw [IntKind.wrap_i64]; omega
  go_region_with (go_at_call 87; refine (hT _).mono ?_; rintro e w1 ⟨rfl, hb⟩; have hP1 := h.drew.step hb; have c01 := hP1.c0; have f11 := hP1.free 1; have c11 := (hb.cell (p := ⟨b, 1, none⟩) h.lt).trans c1)
  all_goals (go_end0; exact ⟨rfl, hP1.setAt (s.length - (Jsn.skip l).length) hsk (by omega), ((Kept.refl _ _).drew.trans (Kept.of hb)).trans (Kept.set _ _ _ _)⟩)
end Go.Proofs.YtmmpbjpeiclacaaGreatDoor
