/- Texts laid as one. -/
import Derived.Test.YtmmpbjpeiclacaaGreatDoorKZB
import Derived.Test.YtmmpbjpeiclacaaGreatDoorKYW
/- Contracts of escape and Quote. -/
set_option linter.unusedVariables false
set_option linter.unusedSimpArgs false
namespace Go.Proofs.YtmmpbjpeiclacaaGreatDoor
open Go.RowKit
/-- What a byte is told as; nothing where it stands as it is. -/
def escS (c : UInt8) : List UInt8 := if Jsn.escB c = [c] then [] else Jsn.escB c
theorem esc_ctl (c : UInt8) (h : c < 32 ∨ c = 127) (h1 : ¬ (c = 34 ∨ c = 92 ∨ c = 8 ∨ c = 9 ∨ c = 10 ∨ c = 12 ∨ c = 13)) : escS c = [92, 117, 48, 48, Jsn.hexC (c.toNat / 16), Jsn.hexC (c.toNat % 16)] := by
  simp only [not_or] at h1
  obtain ⟨c34, c92, c8, c9, c10, c12, c13⟩ := h1
  unfold escS Jsn.escB
  rw [if_neg c34, if_neg c92, if_neg c8, if_neg c9, if_neg c10, if_neg c12, if_neg c13, if_pos h]
  rw [if_neg (by intro e; exact absurd (congrArg List.length e) (by simp))]
theorem ne_u8 {c d : UInt8} (h : ¬ c = d) : ((c.toNat : Int) == (d.toNat : Int)) = false := by
  rw [beq_eq_false_iff_ne]
  intro e
  exact h (UInt8.toNat_inj.1 (by omega))
theorem hexE : ∀ n, n < 16 → ((⟨#[48, 49, 50, 51, 52, 53, 54, 55, 56, 57, 97, 98, 99, 100, 101, 102]⟩ : ByteArray).extract n (n + 1)).data.toList = [Jsn.hexC n] := by decide
set_option maxHeartbeats 4000000 in
set_option maxRecDepth 100000 in
theorem escape_any (c : UInt8) (w : World) :
    Calls Tryz.prog 25 #[.int .u8 c.toNat] w fun e w' => e = .returned (.string (str (escS c))) ∧ Below w.heap.size w w' := by
  by_cases c34 : c = 34
  · subst c34
    go_enter Tryz.func25, Tryz.ntmps25
    go_wp2
    go_ret
    exact ⟨rfl, Below.refl _ _⟩
  by_cases c92 : c = 92
  · subst c92
    go_enter Tryz.func25, Tryz.ntmps25
    go_wp2
    go_ret
    exact ⟨rfl, Below.refl _ _⟩
  by_cases c8 : c = 8
  · subst c8
    go_enter Tryz.func25, Tryz.ntmps25
    go_wp2
    go_ret
    exact ⟨rfl, Below.refl _ _⟩
  by_cases c9 : c = 9
  · subst c9
    go_enter Tryz.func25, Tryz.ntmps25
    go_wp2
    go_ret
    exact ⟨rfl, Below.refl _ _⟩
  by_cases c10 : c = 10
  · subst c10
    go_enter Tryz.func25, Tryz.ntmps25
    go_wp2
    go_ret
    exact ⟨rfl, Below.refl _ _⟩
  by_cases c12 : c = 12
  · subst c12
    go_enter Tryz.func25, Tryz.ntmps25
    go_wp2
    go_ret
    exact ⟨rfl, Below.refl _ _⟩
  by_cases c13 : c = 13
  · subst c13
    go_enter Tryz.func25, Tryz.ntmps25
    go_wp2
    go_ret
    exact ⟨rfl, Below.refl _ _⟩
  have n34 : ((c.toNat : Int) == 34) = false := ne_u8 c34
  have n92 : ((c.toNat : Int) == 92) = false := ne_u8 c92
  have n8 : ((c.toNat : Int) == 8) = false := ne_u8 c8
  have n9 : ((c.toNat : Int) == 9) = false := ne_u8 c9
  have n10 : ((c.toNat : Int) == 10) = false := ne_u8 c10
  have n12 : ((c.toNat : Int) == 12) = false := ne_u8 c12
  have n13 : ((c.toNat : Int) == 13) = false := ne_u8 c13
  by_cases hct : c < 32 ∨ c = 127
  · have hE := esc_ctl c hct (by rintro (h | h | h | h | h | h | h) <;> contradiction)
    have HE := show Hid _ from hE
    clear hE
    by_cases h32 : c < 32
    · have i32 : ((c.toNat : Int) < 32) := by have := UInt8.lt_iff_toNat_lt.1 h32; simp at this; omega
      clear hct c34 c92 c8 c9 c10 c12 c13
      go_enter Tryz.func25, Tryz.ntmps25
      go_wp2
      go_region
      go_wp2
      go_ret
      refine ⟨ret_text ?_, (Below.refl _ _).drew⟩
      rw [HE.out]
      simp only [ByteArray.data_append, Array.toList_append]
      rw [hexE _ (by omega), hexE _ (by omega)]
      rfl
    · have h127 : c = 127 := hct.resolve_left h32
      subst h127
      clear hct c34 c92 c8 c9 c10 c12 c13 n34 n92 n8 n9 n10 n12 n13
      go_enter Tryz.func25, Tryz.ntmps25
      go_wp2
      go_region
      go_wp2
      go_ret
      refine ⟨ret_text ?_, (Below.refl _ _).drew⟩
      rw [HE.out]
      rfl
  · have hE : escS c = [] := by
      unfold escS Jsn.escB
      simp [c34, c92, c8, c9, c10, c12, c13, hct]
    have i32 : ¬ ((c.toNat : Int) < 32) := by have : ¬ c < 32 := fun h => hct (.inl h); rw [UInt8.lt_iff_toNat_lt] at this; simp at this; omega
    have n127 : ((c.toNat : Int) == 127) = false := ne_u8 (fun h => hct (.inr h))
    rw [hE]
    clear hct c34 c92 c8 c9 c10 c12 c13 hE
    go_enter Tryz.func25, Tryz.ntmps25
    go_wp2
    go_ret
    exact ⟨rfl, Below.refl _ _⟩
theorem escS_yes {c : UInt8} (h : escS c = []) : Jsn.escB c = [c] := by
  by_cases he : Jsn.escB c = [c]
  · exact he
  · unfold escS at h
    rw [if_neg he] at h
    have := Jsn.esc_pos c
    rw [h] at this
    exact absurd this (by decide)
theorem escS_no {c : UInt8} (h : ¬ escS c = []) : Jsn.escB c = escS c := by
  by_cases he : Jsn.escB c = [c]
  · unfold escS at h
    rw [if_pos he] at h
    exact absurd rfl h
  · unfold escS
    rw [if_neg he]
theorem escS_len (c : UInt8) : (Jsn.escB c).length ≤ 6 := by
  exact Jsn.esc_len_le c
theorem bc_len (a : List UInt8) : (Lib.byteCells a).length = a.length := by
  unfold Lib.byteCells
  exact List.length_map _
theorem bc_app (a c : List UInt8) : Lib.byteCells (a ++ c) = Lib.byteCells a ++ Lib.byteCells c := by
  unfold Lib.byteCells
  exact List.map_append
set_option maxHeartbeats 4000000 in
set_option maxRecDepth 100000 in
theorem Quote_any (l : List UInt8) (w : World) (hz : l.length ≤ 1000000000) :
    Calls Tryz.prog 6 #[.string (str l)] w fun e w' => e = .returned (.string (str (Jsn.quoteJ (Utf.rep l)))) ∧ Below w.heap.size w w' := by
  have hR := Repair_any l w hz
  have hrl : (Utf.rep l).length ≤ 3 * l.length := Utf.rep_len l
  generalize Utf.rep l = r at hR hrl ⊢
  have hrz := str_size r
  have hX : Jsn.quoteJ r = [34] ++ (r.flatMap Jsn.escB ++ [34]) := rfl
  generalize Jsn.quoteJ r = X at hX ⊢
  have HX := show Hid _ from hX
  clear hX
  go_enter Tryz.func6, Tryz.ntmps6
  go_wp2_with (first
    | (go_at_call 23; refine hR.mono ?_; rintro e w1 ⟨rfl, hB1⟩; have hs1 := hB1.size; have hI := Lib.IsBuilderF.of (Lib.fresh_isBuilder 53 5 w1); have hB2 := hB1.trans (((Below.refl w1.heap.size w1).alloc (o := .cells #[.pointer none, .slice none 0 0] 53) (Nat.le_refl _)).mono hs1))
    | (go_at_call 24; refine (WriteByte_k w1.heap.size w1.heap.size (Lib.byteCells []) 34 _ hI (by decide) (by simp)).mono ?_; rintro e w2 ⟨rfl, hI2, hB3, _⟩; clear hI; have hB4 := hB2.trans (hB3.mono hs1)))
  have hB := hB4
  clear hB2 hB3 hB1 hR
  go_loopw [11] (fun i wr => ∃ (j : Nat) (acc : List UInt8), i = .int .i64 j ∧ j ≤ r.length ∧ Lib.IsBuilderF 53 5 w1.heap.size w1.heap.size (Lib.byteCells acc) wr ∧ Below w.heap.size w wr ∧ w1.heap.size ≤ wr.heap.size ∧ acc.length ≤ 1 + 6 * j ∧ Hid (X = acc ++ ((r.drop j).flatMap Jsn.escB ++ [34]))) (fun i _ => r.length - (intOf i).toNat)
  case atStart =>
    exact ⟨0, [34], rfl, Nat.zero_le _, .inr hI2, hB, Nat.le_of_lt hI2.lt, by simp, HX⟩
  case round =>
    obtain ⟨j, acc, rfl, hj, hI, hB, hs, hac, HE⟩ := hrel
    clear hB4 hI2 HX
    by_cases hlt : j < r.length
    · have hix : ∀ (W : World), (Instr.index 9 (.string (str r)) (.int .i64 (j : Int))).run Tryz.prog W = .ok (.int .u8 r[j].toNat) W := fun W => run_index_str r j hlt W
      have hE := HE.out
      rw [List.drop_eq_getElem_cons hlt, List.flatMap_cons] at hE
      generalize r[j] = c at hix hE
      have hL := escS_len c
      by_cases hes : escS c = []
      · rw [escS_yes hes] at hE
        have HY : Hid (X = (acc ++ [c]) ++ ((r.drop (j + 1)).flatMap Jsn.escB ++ [34])) := by show _ = _; rw [hE]; simp
        have hsc := fun w => escape_any c w
        rw [hes] at hsc
        have e0 : (str ([] : List UInt8)).toList.isEmpty = true := empty_yes
        clear hE HE
        go_wp2_with (first
          | (go_at_call 25; refine (hsc _).mono ?_; rintro e w3 ⟨rfl, hB3⟩; clear hsc; have hI3 := builder_keep hI (fun k hk hlt => hB3.block k hlt); have hs3 := hB3.size)
          | (go_at_call 24; refine (WriteByte_k w1.heap.size w1.heap.size (Lib.byteCells acc) c.toNat _ hI3 (by rw [bc_len]; omega) (by omega)).mono ?_; rintro e w4 ⟨rfl, hI4, hB4, _⟩))
        have hs4 := hB4.size
        go_roundw
        case rel => exact ⟨j + 1, acc ++ [c], by go_num, by omega, .inr (by rw [bc_app]; exact hI4), (bel hB hB3).trans (hB4.mono hs1), by omega, by simp; omega, HY⟩
        case measure => simp [intOf]; omega
      · rw [escS_no hes] at hE hL
        have HY : Hid (X = (acc ++ escS c) ++ ((r.drop (j + 1)).flatMap Jsn.escB ++ [34])) := by show _ = _; rw [hE]; simp
        have hsc := fun w => escape_any c w
        generalize escS c = t at hsc HY hL hes
        have ht1 : (str t).toList.isEmpty = false := by rw [empty_is]; cases t with | nil => exact absurd rfl hes | cons _ _ => rfl
        have htz := str_size t
        clear hE HE
        go_wp2_with (first
          | (go_at_call 25; refine (hsc _).mono ?_; rintro e w3 ⟨rfl, hB3⟩; clear hsc; have hI3 := builder_keep hI (fun k hk hlt => hB3.block k hlt); have hs3 := hB3.size)
          | (go_at_call 26; refine (WriteString_k w1.heap.size w1.heap.size (Lib.byteCells acc) (str t) _ hI3 (by rw [bc_len]; omega) (by omega)).mono ?_; rintro e w4 ⟨rfl, hI4, hB4, _⟩))
        have hs4 := hB4.size
        go_roundw
        case rel => exact ⟨j + 1, acc ++ t, by go_num, by omega, .inr (by rw [bc_app]; exact hI4), (bel hB hB3).trans (hB4.mono hs1), by omega, by simp; omega, HY⟩
        case measure => simp [intOf]; omega
    · have HY : Hid (X = acc ++ [34]) := by show _ = _; rw [HE.out, List.drop_of_length_le (by omega)]; simp
      clear HE
      go_wp2_with (first
        | (go_at_call 24; refine (WriteByte_k w1.heap.size w1.heap.size (Lib.byteCells acc) 34 _ hI (by rw [bc_len]; omega) (by omega)).mono ?_; rintro e w4 ⟨rfl, hI4, hB4, _⟩; have hI5 : Lib.IsBuilderF 53 5 w1.heap.size w1.heap.size (Lib.byteCells (acc ++ [34])) w4 := .inr (by rw [bc_app]; exact hI4))
        | (go_at_call 27; refine (Tryz.Builder_String_any_k w1.heap.size w1.heap.size (acc ++ [34]) _ hI5 (by have := hB4.size; omega)).mono ?_; rintro e w5 ⟨rfl, _, hb5, _⟩))
      go_ret
      refine ⟨?_, (hB.trans (hB4.mono hs1)).trans (hb5.mono hs1)⟩
      rw [HY.out]
      rfl
end Go.Proofs.YtmmpbjpeiclacaaGreatDoor
/- Contracts of the writer's put, quote, comma. -/
set_option linter.unusedVariables false
set_option linter.unusedSimpArgs false
namespace Go.Proofs.YtmmpbjpeiclacaaGreatDoor
open Go.RowKit
/-- The writer at b has written out; whether it is long. -/
def WAt (b : Nat) (w : World) (out : List UInt8) (lg : Bool) : Prop := ∃ v, w.heap[b]? = some (.cells #[v, .bool lg] 81 (0, 0)) ∧ OwnsBytes w b v out ∧ v.ownBlock ≠ some b ∧ out.length ≤ 65536
/-- A writer that has a text, or is long. -/
inductive WS (b : Nat) (w : World) : Option (List UInt8) → Prop
  | has {out : List UInt8} : WAt b w out false → WS b w (some out)
  | long {out : List UInt8} : WAt b w out true → WS b w none
/-- What a writer has behind a text. -/
def putJ (x : Option (List UInt8)) (s : List UInt8) : Option (List UInt8) := x.bind fun o => if o.length + s.length ≤ 65536 then some (o ++ s) else none
theorem putJ_none (s : List UInt8) : putJ none s = none := rfl
theorem putJ_yes {o s : List UInt8} (h : o.length + s.length ≤ 65536) : putJ (some o) s = some (o ++ s) := if_pos h
theorem putJ_no {o s : List UInt8} (h : ¬ o.length + s.length ≤ 65536) : putJ (some o) s = none := if_neg h
theorem putJ_app (x : Option (List UInt8)) (a c : List UInt8) : putJ (putJ x a) c = putJ x (a ++ c) := by
  cases x with
  | none => rfl
  | some o =>
    by_cases h1 : o.length + a.length ≤ 65536
    · rw [putJ_yes h1]
      by_cases h2 : o.length + (a ++ c).length ≤ 65536
      · rw [putJ_yes h2, putJ_yes (by simp at h2 ⊢; omega), List.append_assoc]
      · rw [putJ_no h2, putJ_no (by simp at h2 ⊢; omega)]
    · rw [putJ_no h1, putJ_no (by simp; omega)]
      rfl
theorem WAt.lt {b : Nat} {w : World} {out : List UInt8} {lg : Bool} (h : WAt b w out lg) : b < w.heap.size := by
  obtain ⟨v, h1, _⟩ := h
  exact (Array.getElem?_eq_some_iff.1 h1).1
theorem WAt.keep {b : Nat} {w w' : World} {out : List UInt8} {lg : Bool} (h : WAt b w out lg) (hk : Below w.heap.size w w') : WAt b w' out lg := by
  obtain ⟨v, h1, h2, h3, h4⟩ := h
  have hx : ∀ {o : Nat} {x : _}, w.heap[o]? = some x → w'.heap[o]? = some x := fun {o x} hx => (hk.block o (Array.getElem?_eq_some_iff.1 hx).1).trans hx
  refine ⟨v, hx h1, ⟨h2.1, ?_⟩, h3, h4⟩
  rcases h2.2 with h | ⟨g, cap, cur, e1, e2, e3, e4⟩
  · exact .inl h
  · exact .inr ⟨g, cap, cur, e1, e2, hx e3, e4⟩
theorem WS.keep {b : Nat} {w w' : World} {x : Option (List UInt8)} (h : WS b w x) (hk : Below w.heap.size w w') : WS b w' x := by
  cases h with
  | has h => exact .has (h.keep hk)
  | long h => exact .long (h.keep hk)
theorem WS.lt {b : Nat} {w : World} {x : Option (List UInt8)} (h : WS b w x) : b < w.heap.size := by
  cases h with
  | has h => exact h.lt
  | long h => exact h.lt
theorem WAt.flag {b : Nat} {w : World} {out : List UInt8} {lg : Bool} (h : WAt b w out lg) (l2 : Bool) : WAt b (w.setCell ⟨b, 1, none⟩ (.bool l2)) out l2 := by
  obtain ⟨v, h1, h2, h3, h4⟩ := h
  refine ⟨v, Go.Joins.block_setCell h1 _, ?_, h3, h4⟩
  exact World.ownsRow.kept h2 (row := some b) ⟨rfl, rfl, rfl, by simp [World.setCell], fun k _ hk => Below.heap_setCell _ _ _ _ (fun e => hk (by simp [e]))⟩ (Or.inr h3)
/-- Nothing below b is turned, and nothing behind it but the writer's block and rows of bytes. -/
structure Wk (b : Nat) (w w' : World) : Prop where
  bel : Below b w w'
  others : Lib.OthersKept 5 (some b) w w'
theorem Wk.refl (b : Nat) (w : World) : Wk b w w := ⟨Below.refl _ _, Lib.OthersKept.refl _ _ _⟩
theorem Wk.trans {b : Nat} {a c d : World} (h : Wk b a c) (k : Wk b c d) : Wk b a d := ⟨h.bel.trans k.bel, h.others.trans k.others⟩
theorem Wk.of {b : Nat} {w w' : World} (h : Below w.heap.size w w') (hb : b ≤ w.heap.size) : Wk b w w' :=
  ⟨h.mono hb, fun k o hk _ _ => (h.block k (Array.getElem?_eq_some_iff.1 hk).1).trans hk⟩
theorem Wk.set (b o : Nat) (w : World) (v : Value) : Wk b w (w.setCell ⟨b, o, none⟩ v) :=
  ⟨(Below.refl b w).setCell (p := ⟨b, o, none⟩) (Nat.le_refl _) v, (Lib.OthersKept.refl _ _ _).setCell ⟨b, o, none⟩ rfl v⟩
def PutC (s : List UInt8) : Prop := ∀ (b : Nat) (w : World) (x : Option (List UInt8)), WS b w x → Calls Tryz.prog 66 #[.pointer (some ⟨b, 0, none⟩), .string (str s)] w fun e w' => e = .returned (.tuple #[]) ∧ Wk b w w' ∧ WS b w' (putJ x s)
set_option maxHeartbeats 4000000 in
set_option maxRecDepth 100000 in
theorem put_any (s : List UInt8) (hs : s.length ≤ 1000000000) : PutC s := by
  intro b w x hW
  have hb := hW.lt
  have hsz := str_size s
  have hBf : ∀ v, Wk b w (w.setCell ⟨b, 1, none⟩ v) := fun v => Wk.set b 1 w v
  cases hW with
  | long h =>
    have h2 := h.flag true
    obtain ⟨v, h1, _⟩ := h
    have c1 : w.cell? ⟨b, 1, none⟩ = some (.bool true) := by rw [Lib.cell_of_heap h1]; rfl
    have f1 : w.frozen? ⟨b, 1, none⟩ = false := Lib.frozen_of_heap h1 1
    rw [putJ_none]
    go_enter Tryz.func66, Tryz.ntmps66
    go_wp2
    go_end0
    exact ⟨rfl, hBf _, .long h2⟩
  | @has out h =>
    have hlo := h
    obtain ⟨v, h1, hown, hne, hlen⟩ := hlo
    obtain ⟨a, cp, hv⟩ : ∃ a cp, v = .slice a out.length cp := by
      rcases hown.2 with ⟨rfl, hz⟩ | ⟨g, cap, cur, rfl, _⟩
      · exact ⟨none, 0, by rw [hz]⟩
      · exact ⟨_, _, rfl⟩
    subst hv
    have c0 : w.cell? ⟨b, 0, none⟩ = some (.slice a out.length cp) := by rw [Lib.cell_of_heap h1]; rfl
    have c1 : w.cell? ⟨b, 1, none⟩ = some (.bool false) := by rw [Lib.cell_of_heap h1]; rfl
    have f1 : w.frozen? ⟨b, 1, none⟩ = false := Lib.frozen_of_heap h1 1
    by_cases hfit : out.length + s.length ≤ 65536
    · rw [putJ_yes hfit]
      have hi : ¬ ((65536 : Int) - out.length < s.length) := by omega
      obtain ⟨i0, hi0, hz0, hz1, hz2⟩ := info_parts infoByte
      have hb1 : (w.setCell ⟨b, 1, none⟩ (.bool false)).heap[b]? = some (.cells #[.slice a out.length cp, .bool false] 81 (0, 0)) := Go.Joins.block_setCell h1 _
      have hown1 : OwnsBytes (w.setCell ⟨b, 1, none⟩ (.bool false)) b (.slice a out.length cp) out := World.ownsRow.kept hown (row := some b) ⟨rfl, rfl, rfl, by simp [World.setCell], fun k _ hk => Below.heap_setCell _ _ _ _ (fun e => hk (by simp [e]))⟩ (Or.inr hne)
      go_enter Tryz.func66, Tryz.ntmps66
      go_wp2_with (at_builtin; refine Lib.wpList_append_own_string _ rfl _ _ 51 9 rfl b 5 i0 Tryz.underlying51 Tryz.underlying9 hi0 hz0 hz1 hz2 _ _ _ rfl hown1 (str s) rfl (by unfold maxLen; omega) (by omega) (by simp; omega) ?_)
      intro v' w2 hown2 hgrow _
      have hb2 : w2.heap[b]? = some (.cells #[.slice a out.length cp, .bool false] 81 (0, 0)) := by
        rw [hgrow.block b (by simp; omega) (fun e => hne e.symm)]
        exact hb1
      have d0 : w2.cell? ⟨b, 0, none⟩ = some (.slice a out.length cp) := by rw [Lib.cell_of_heap hb2]; rfl
      have f0 : w2.frozen? ⟨b, 0, none⟩ = false := Lib.frozen_of_heap hb2 0
      obtain ⟨ao, n', cap, rfl⟩ : ∃ ao n' cap, v' = .slice ao n' cap := by
        rcases hown2.2 with ⟨hv, _⟩ | ⟨g, cap, cur, hv, _⟩
        · exact ⟨_, _, _, hv⟩
        · exact ⟨_, _, _, hv⟩
      go_wp2
      go_end0
      have hn2 : (Value.slice ao n' cap).ownBlock ≠ some b := by
        rcases hown2.2 with ⟨hv, _⟩ | ⟨g, c2, cur, hv, _, hg, _⟩
        · rw [hv]; simp [Value.ownBlock]
        · rw [hv]
          intro h
          simp only [Value.ownBlock, Option.some.injEq] at h
          subst h
          rw [hg] at hb2
          simp only [Option.some.injEq, Obj.cells.injEq] at hb2
          exact absurd hb2.2.1 (by decide)
      refine ⟨rfl, ⟨((hBf _).bel.grown hgrow (by simp; omega) (fun k hk => (World.ownsRow.lt hown1 k hk).1)).setCell (p := ⟨b, 0, none⟩) (Nat.le_refl _) _, ((hBf _).others.grown hgrow (Lib.ownsRowF_kind (World.ownsRowF_of hown1))).setCell ⟨b, 0, none⟩ rfl _⟩, .has ⟨_, Go.Joins.block_setCell hb2 _, ?_, hn2, by simp; omega⟩⟩
      have hcells : cellsB (out ++ s) = cellsB out ++ Lib.strCells (str s) := by
        unfold cellsB Lib.strCells
        rw [List.map_append, str_data]
      unfold OwnsBytes
      rw [hcells, List.length_append, ← hsz]
      exact World.ownsRow.kept hown2 (row := some b) ⟨rfl, rfl, rfl, by simp [World.setCell], fun k _ hk => Below.heap_setCell _ _ _ _ (fun e => hk (by simp [e]))⟩ (Or.inr hn2)
    · rw [putJ_no hfit]
      have h2 := h.flag true
      have hi : ((65536 : Int) - out.length < s.length) := by omega
      go_enter Tryz.func66, Tryz.ntmps66
      go_wp2
      go_end0
      exact ⟨rfl, hBf _, .long h2⟩
set_option maxHeartbeats 2000000 in
theorem comma_any (b j : Nat) (w : World) (x : Option (List UInt8)) (hW : WS b w x) :
    Calls Tryz.prog 88 #[.pointer (some ⟨b, 0, none⟩), .int .i64 (j : Int)] w fun e w' => e = .returned (.tuple #[]) ∧ Wk b w w' ∧ WS b w' (putJ x (if j = 0 then [] else [44])) := by
  by_cases h0 : j = 0
  · subst h0
    have hx : putJ x [] = x := by
      cases hW with
      | long _ => rfl
      | has h =>
        obtain ⟨v, _, _, _, h4⟩ := h
        rw [putJ_yes (by simpa using h4), List.append_nil]
    rw [if_pos rfl, hx]
    go_enter Tryz.func88, Tryz.ntmps88
    go_wp2
    go_end0
    exact ⟨rfl, Wk.refl _ _, hW⟩
  · rw [if_neg h0]
    have hj : (0 : Int) < (j : Int) := by omega
    have hP := put_any [44] (by decide) b w x hW
    go_enter Tryz.func88, Tryz.ntmps88
    go_wp2_with (first
      | (go_at_call 66; refine hP.mono ?_; rintro e w1 ⟨rfl, hB1, hW1⟩))
    go_end0
    exact ⟨rfl, hB1, hW1⟩
theorem quote_len (s : List UInt8) : s.length + 2 ≤ (Jsn.quoteJ s).length := by
  have := Jsn.escLen_ge s
  unfold Jsn.escLen at this
  unfold Jsn.quoteJ
  simp only [List.length_cons, List.length_append, List.length_nil]
  omega
set_option maxHeartbeats 4000000 in
set_option maxRecDepth 100000 in
theorem quote_any (s : List UInt8) (hs : s.length ≤ 1000000000) (ht : Utf.isText s = true) (b : Nat) (w : World) (x : Option (List UInt8)) (hW : WS b w x) :
    Calls Tryz.prog 67 #[.pointer (some ⟨b, 0, none⟩), .string (str s)] w fun e w' => e = .returned (.tuple #[]) ∧ Wk b w w' ∧ WS b w' (putJ x (Jsn.quoteJ s)) := by
  have hb := hW.lt
  have hsz := str_size s
  have hql := quote_len s
  have hBf : ∀ v, Wk b w (w.setCell ⟨b, 1, none⟩ v) := fun v => Wk.set b 1 w v
  cases hW with
  | long h =>
    have h2 := h.flag true
    obtain ⟨v, h1, _⟩ := h
    have c1 : w.cell? ⟨b, 1, none⟩ = some (.bool true) := by rw [Lib.cell_of_heap h1]; rfl
    have f1 : w.frozen? ⟨b, 1, none⟩ = false := Lib.frozen_of_heap h1 1
    rw [putJ_none]
    go_enter Tryz.func67, Tryz.ntmps67
    go_wp2
    go_end0
    exact ⟨rfl, hBf _, .long h2⟩
  | @has out h =>
    have hlo := h
    obtain ⟨v, h1, hown, hne, hlen⟩ := hlo
    obtain ⟨a, cp, hv⟩ : ∃ a cp, v = .slice a out.length cp := by
      rcases hown.2 with ⟨rfl, hz⟩ | ⟨g, cap, cur, rfl, _⟩
      · exact ⟨none, 0, by rw [hz]⟩
      · exact ⟨_, _, rfl⟩
    subst hv
    have c0 : w.cell? ⟨b, 0, none⟩ = some (.slice a out.length cp) := by rw [Lib.cell_of_heap h1]; rfl
    have c1 : w.cell? ⟨b, 1, none⟩ = some (.bool false) := by rw [Lib.cell_of_heap h1]; rfl
    have f1 : w.frozen? ⟨b, 1, none⟩ = false := Lib.frozen_of_heap h1 1
    by_cases hfit : out.length + s.length ≤ 65536
    · have hi : ¬ ((65536 : Int) - out.length < s.length) := by omega
      have h2 : WS b (w.setCell ⟨b, 1, none⟩ (.bool false)) (some out) := .has (h.flag false)
      have hQ := fun w => Quote_any s w hs
      rw [Utf.rep_self s ht] at hQ
      have hql2 : (Jsn.quoteJ s).length ≤ 1000000000 := by
        have := Jsn.escLen_le s
        unfold Jsn.escLen at this
        unfold Jsn.quoteJ
        simp only [List.length_cons, List.length_append, List.length_nil]
        omega
      have hP := put_any (Jsn.quoteJ s) hql2 b
      generalize Jsn.quoteJ s = q at hQ hP hql ⊢
      clear hql2 hql h
      generalize hX : putJ (some out) q = X
      have HX := show Hid _ from hX
      clear hX
      go_enter Tryz.func67, Tryz.ntmps67
      go_wp2_with (first
        | (go_at_call 6; refine (hQ _).mono ?_; rintro e w1 ⟨rfl, hB1⟩; have hW1 := h2.keep hB1; clear hQ)
        | (go_at_call 66; refine (hP w1 _ hW1).mono ?_; rintro e w2 ⟨rfl, hB2, hW2⟩))
      go_end0
      exact ⟨rfl, ((hBf _).trans (Wk.of hB1 (by simp; omega))).trans hB2, by rw [← HX.out]; exact hW2⟩
    · rw [putJ_no (by omega)]
      have h2 := h.flag true
      have hi : ((65536 : Int) - out.length < s.length) := by omega
      go_enter Tryz.func67, Tryz.ntmps67
      go_wp2
      go_end0
      exact ⟨rfl, hBf _, .long h2⟩
end Go.Proofs.YtmmpbjpeiclacaaGreatDoor
