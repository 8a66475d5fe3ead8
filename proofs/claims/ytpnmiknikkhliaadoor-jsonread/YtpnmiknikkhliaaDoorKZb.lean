/- Texts laid as one. -/
import Derived.Test.YtpnmiknikkhliaaDoorKZa
import Derived.Test.YtpnmiknikkhliaaDoorKYb
/- Contracts of escape and Quote. -/
set_option linter.unusedVariables false
set_option linter.unusedSimpArgs false
namespace Go.Proofs.YtpnmiknikkhliaaDoor
open Go.RowKit
/-- What a byte is told as; nothing where it stands as it is. -/
def escS (c : UInt8) : List UInt8 := if Jsn.escB c = [c] then [] else Jsn.escB c
theorem esc_ctl (c : UInt8) (h : c < 32 ∨ c = 127) (h1 : ¬ (c = 34 ∨ c = 92 ∨ c = 8 ∨ c = 9 ∨ c = 10 ∨ c = 12 ∨ c = 13)) : escS c = [92, 117, 48, 48, Jsn.hexC (c.toNat / 16), Jsn.hexC (c.toNat % 16)] := by
  simp only [not_or] at h1
  obtain ⟨c34, c92, c8, c9, c10, c12, c13⟩ := h1
  unfold escS Jsn.escB
  rw [if_neg c34, if_neg c92, if_neg c8, if_neg c9, if_neg c10, if_neg c12, if_neg c13, if_pos h]
  rw [if_neg (by intro e; exact absurd (congrArg List.length e) (by simp))]
theorem ne_u8 {c d : UInt8} (h : ¬ c = d) : ((c.toNat : Int) == (d.toNat : Int)) = false := by
  rw [beq_eq_false_iff_ne]
  intro e
  exact h (UInt8.toNat_inj.1 (by omega))
theorem hexE : ∀ n, n < 16 → ((⟨#[48, 49, 50, 51, 52, 53, 54, 55, 56, 57, 97, 98, 99, 100, 101, 102]⟩ : ByteArray).extract n (n + 1)).data.toList = [Jsn.hexC n] := by decide
set_option maxHeartbeats 4000000 in
set_option maxRecDepth 100000 in
theorem escape_any (c : UInt8) (w : World) :
    Calls Tryd.prog 57 #[.int .u8 c.toNat] w fun e w' => e = .returned (.string (str (escS c))) ∧ Below w.heap.size w w' := by
  by_cases c34 : c = 34
  · subst c34
    go_enter Tryd.func57, Tryd.ntmps57
    go_wp2
    go_ret
    exact ⟨rfl, Below.refl _ _⟩
  by_cases c92 : c = 92
  · subst c92
    go_enter Tryd.func57, Tryd.ntmps57
    go_wp2
    go_ret
    exact ⟨rfl, Below.refl _ _⟩
  by_cases c8 : c = 8
  · subst c8
    go_enter Tryd.func57, Tryd.ntmps57
    go_wp2
    go_ret
    exact ⟨rfl, Below.refl _ _⟩
  by_cases c9 : c = 9
  · subst c9
    go_enter Tryd.func57, Tryd.ntmps57
    go_wp2
    go_ret
    exact ⟨rfl, Below.refl _ _⟩
  by_cases c10 : c = 10
  · subst c10
    go_enter Tryd.func57, Tryd.ntmps57
    go_wp2
    go_ret
    exact ⟨rfl, Below.refl _ _⟩
  by_cases c12 : c = 12
  · subst c12
    go_enter Tryd.func57, Tryd.ntmps57
    go_wp2
    go_ret
    exact ⟨rfl, Below.refl _ _⟩
  by_cases c13 : c = 13
  · subst c13
    go_enter Tryd.func57, Tryd.ntmps57
    go_wp2
    go_ret
    exact ⟨rfl, Below.refl _ _⟩
  have n34 : ((c.toNat : Int) == 34) = false := ne_u8 c34
  have n92 : ((c.toNat : Int) == 92) = false := ne_u8 c92
  have n8 : ((c.toNat : Int) == 8) = false := ne_u8 c8
  have n9 : ((c.toNat : Int) == 9) = false := ne_u8 c9
  have n10 : ((c.toNat : Int) == 10) = false := ne_u8 c10
  have n12 : ((c.toNat : Int) == 12) = false := ne_u8 c12
  have n13 : ((c.toNat : Int) == 13) = false := ne_u8 c13
  by_cases hct : c < 32 ∨ c = 127
  · have hE := esc_ctl c hct (by rintro (h | h | h | h | h | h | h) <;> contradiction)
    have HE := show Hid _ from hE
    clear hE
    by_cases h32 : c < 32
    · have i32 : ((c.toNat : Int) < 32) := by have := UInt8.lt_iff_toNat_lt.1 h32; simp at this; omega
      clear hct c34 c92 c8 c9 c10 c12 c13
      go_enter Tryd.func57, Tryd.ntmps57
      go_wp2
      go_region
      go_wp2
      go_ret
      refine ⟨ret_text ?_, (Below.refl _ _).drew⟩
      rw [HE.out]
      simp only [ByteArray.data_append, Array.toList_append]
      rw [hexE _ (by omega), hexE _ (by omega)]
      rfl
    · have h127 : c = 127 := hct.resolve_left h32
      subst h127
      clear hct c34 c92 c8 c9 c10 c12 c13 n34 n92 n8 n9 n10 n12 n13
      go_enter Tryd.func57, Tryd.ntmps57
      go_wp2
      go_region
      go_wp2
      go_ret
      refine ⟨ret_text ?_, (Below.refl _ _).drew⟩
      rw [HE.out]
      rfl
  · have hE : escS c = [] := by
      unfold escS Jsn.escB
      simp [c34, c92, c8, c9, c10, c12, c13, hct]
    have i32 : ¬ ((c.toNat : Int) < 32) := by have : ¬ c < 32 := fun h => hct (.inl h); rw [UInt8.lt_iff_toNat_lt] at this; simp at this; omega
    have n127 : ((c.toNat : Int) == 127) = false := ne_u8 (fun h => hct (.inr h))
    rw [hE]
    clear hct c34 c92 c8 c9 c10 c12 c13 hE
    go_enter Tryd.func57, Tryd.ntmps57
    go_wp2
    go_ret
    exact ⟨rfl, Below.refl _ _⟩
theorem escS_yes {c : UInt8} (h : escS c = []) : Jsn.escB c = [c] := by
  by_cases he : Jsn.escB c = [c]
  · exact he
  · unfold escS at h
    rw [if_neg he] at h
    have := Jsn.esc_pos c
    rw [h] at this
    exact absurd this (by decide)
theorem escS_no {c : UInt8} (h : ¬ escS c = []) : Jsn.escB c = escS c := by
  by_cases he : Jsn.escB c = [c]
  · unfold escS at h
    rw [if_pos he] at h
    exact absurd rfl h
  · unfold escS
    rw [if_neg he]
theorem escS_len (c : UInt8) : (Jsn.escB c).length ≤ 6 := by
  exact Jsn.esc_len_le c
theorem bc_len (a : List UInt8) : (Lib.byteCells a).length = a.length := by
  unfold Lib.byteCells
  exact List.length_map _
theorem bc_app (a c : List UInt8) : Lib.byteCells (a ++ c) = Lib.byteCells a ++ Lib.byteCells c := by
  unfold Lib.byteCells
  exact List.map_append
set_option maxHeartbeats 4000000 in
set_option maxRecDepth 100000 in
theorem Quote_any (l : List UInt8) (w : World) (hz : l.length ≤ 1000000000) :
    Calls Tryd.prog 42 #[.string (str l)] w fun e w' => e = .returned (.string (str (Jsn.quoteJ (Utf.rep l)))) ∧ Below w.heap.size w w' := by
  have hR := Repair_any l w hz
  have hrl : (Utf.rep l).length ≤ 3 * l.length := Utf.rep_len l
  generalize Utf.rep l = r at hR hrl ⊢
  have hrz := str_size r
  have hX : Jsn.quoteJ r = [34] ++ (r.flatMap Jsn.escB ++ [34]) := rfl
  generalize Jsn.quoteJ r = X at hX ⊢
  have HX := show Hid _ from hX
  clear hX
  go_enter Tryd.func42, Tryd.ntmps42
  go_wp2_with (first
    | (go_at_call 55; refine hR.mono ?_; rintro e w1 ⟨rfl, hB1⟩; have hs1 := hB1.size; have hI := Lib.IsBuilderF.of (Lib.fresh_isBuilder 84 5 w1); have hB2 := hB1.trans (((Below.refl w1.heap.size w1).alloc (o := .cells #[.pointer none, .slice none 0 0] 84) (Nat.le_refl _)).mono hs1))
    | (go_at_call 56; refine (WriteByte_k w1.heap.size w1.heap.size (Lib.byteCells []) 34 _ hI (by decide) (by simp)).mono ?_; rintro e w2 ⟨rfl, hI2, hB3, _⟩; clear hI; have hB4 := hB2.trans (hB3.mono hs1)))
  have hB := hB4
  clear hB2 hB3 hB1 hR
  go_loopw [11] (fun i wr => ∃ (j : Nat) (acc : List UInt8), i = .int .i64 j ∧ j ≤ r.length ∧ Lib.IsBuilderF 84 5 w1.heap.size w1.heap.size (Lib.byteCells acc) wr ∧ Below w.heap.size w wr ∧ w1.heap.size ≤ wr.heap.size ∧ acc.length ≤ 1 + 6 * j ∧ Hid (X = acc ++ ((r.drop j).flatMap Jsn.escB ++ [34]))) (fun i _ => r.length - (intOf i).toNat)
  case atStart =>
    exact ⟨0, [34], rfl, Nat.zero_le _, .inr hI2, hB, Nat.le_of_lt hI2.lt, by simp, HX⟩
  case round =>
    obtain ⟨j, acc, rfl, hj, hI, hB, hs, hac, HE⟩ := hrel
    clear hB4 hI2 HX
    by_cases hlt : j < r.length
    · have hix : ∀ (W : World), (Instr.index 9 (.string (str r)) (.int .i64 (j : Int))).run Tryd.prog W = .ok (.int .u8 r[j].toNat) W := fun W => run_index_str r j hlt W
      have hE := HE.out
      rw [List.drop_eq_getElem_cons hlt, List.flatMap_cons] at hE
      generalize r[j] = c at hix hE
      have hL := escS_len c
      by_cases hes : escS c = []
      · rw [escS_yes hes] at hE
        have HY : Hid (X = (acc ++ [c]) ++ ((r.drop (j + 1)).flatMap Jsn.escB ++ [34])) := by show _ = _; rw [hE]; simp
        have hsc := fun w => escape_any c w
        rw [hes] at hsc
        have e0 : (str ([] : List UInt8)).toList.isEmpty = true := empty_yes
        clear hE HE
        go_wp2_with (first
          | (go_at_call 57; refine (hsc _).mono ?_; rintro e w3 ⟨rfl, hB3⟩; clear hsc; have hI3 := builder_keep hI (fun k hk hlt => hB3.block k hlt); have hs3 := hB3.size)
          | (go_at_call 56; refine (WriteByte_k w1.heap.size w1.heap.size (Lib.byteCells acc) c.toNat _ hI3 (by rw [bc_len]; omega) (by omega)).mono ?_; rintro e w4 ⟨rfl, hI4, hB4, _⟩))
        have hs4 := hB4.size
        go_roundw
        case rel => exact ⟨j + 1, acc ++ [c], by go_num, by omega, .inr (by rw [bc_app]; exact hI4), (bel hB hB3).trans (hB4.mono hs1), by omega, by simp; omega, HY⟩
        case measure => simp [intOf]; omega
      · rw [escS_no hes] at hE hL
        have HY : Hid (X = (acc ++ escS c) ++ ((r.drop (j + 1)).flatMap Jsn.escB ++ [34])) := by show _ = _; rw [hE]; simp
        have hsc := fun w => escape_any c w
        generalize escS c = t at hsc HY hL hes
        have ht1 : (str t).toList.isEmpty = false := by rw [empty_is]; cases t with | nil => exact absurd rfl hes | cons _ _ => rfl
        have htz := str_size t
        clear hE HE
        go_wp2_with (first
          | (go_at_call 57; refine (hsc _).mono ?_; rintro e w3 ⟨rfl, hB3⟩; clear hsc; have hI3 := builder_keep hI (fun k hk hlt => hB3.block k hlt); have hs3 := hB3.size)
          | (go_at_call 58; refine (WriteString_k w1.heap.size w1.heap.size (Lib.byteCells acc) (str t) _ hI3 (by rw [bc_len]; omega) (by omega)).mono ?_; rintro e w4 ⟨rfl, hI4, hB4, _⟩))
        have hs4 := hB4.size
        go_roundw
        case rel => exact ⟨j + 1, acc ++ t, by go_num, by omega, .inr (by rw [bc_app]; exact hI4), (bel hB hB3).trans (hB4.mono hs1), by omega, by simp; omega, HY⟩
        case measure => simp [intOf]; omega
    · have HY : Hid (X = acc ++ [34]) := by show _ = _; rw [HE.out, List.drop_of_length_le (by omega)]; simp
      clear HE
      go_wp2_with (first
        | (go_at_call 56; refine (WriteByte_k w1.heap.size w1.heap.size (Lib.byteCells acc) 34 _ hI (by rw [bc_len]; omega) (by omega)).mono ?_; rintro e w4 ⟨rfl, hI4, hB4, _⟩; have hI5 : Lib.IsBuilderF 84 5 w1.heap.size w1.heap.size (Lib.byteCells (acc ++ [34])) w4 := .inr (by rw [bc_app]; exact hI4))
        | (go_at_call 59; refine (Tryd.Builder_String_any_k w1.heap.size w1.heap.size (acc ++ [34]) _ hI5 (by have := hB4.size; omega)).mono ?_; rintro e w5 ⟨rfl, _, hb5, _⟩))
      go_ret
      refine ⟨?_, (hB.trans (hB4.mono hs1)).trans (hb5.mono hs1)⟩
      rw [HY.out]
      rfl
end Go.Proofs.YtpnmiknikkhliaaDoor
/- Contracts of the writer's put, quote, comma. -/
set_option linter.unusedVariables false
set_option linter.unusedSimpArgs false
namespace Go.Proofs.YtpnmiknikkhliaaDoor
open Go.RowKit
/-- The writer at b has written out; whether it is long. -/
def WAt (b : Nat) (w : World) (out : List UInt8) (lg : Bool) : Prop := ∃ v, w.heap[b]? = some (.cells #[v, .bool lg] 47 (0, 0)) ∧ OwnsBytes w b v out ∧ v.ownBlock ≠ some b ∧ out.length ≤ 65536
/-- A writer that has a text, or is long. -/
inductive WS (b : Nat) (w : World) : Option (List UInt8) → Prop
  | has {out : List UInt8} : WAt b w out false → WS b w (some out)
  | long {out : List UInt8} : WAt b w out true → WS b w none
/-- What a writer has behind a text. -/
def putJ (x : Option (List UInt8)) (s : List UInt8) : Option (List UInt8) := x.bind fun o => if o.length + s.length ≤ 65536 then some (o ++ s) else none
theorem putJ_none (s : List UInt8) : putJ none s = none := rfl
theorem putJ_yes {o s : List UInt8} (h : o.length + s.length ≤ 65536) : putJ (some o) s = some (o ++ s) := if_pos h
theorem putJ_no {o s : List UInt8} (h : ¬ o.length + s.length ≤ 65536) : putJ (some o) s = none := if_neg h
theorem putJ_app (x : Option (List UInt8)) (a c : List UInt8) : putJ (putJ x a) c = putJ x (a ++ c) := by
  cases x with
  | none => rfl
  | some o =>
    by_cases h1 : o.length + a.length ≤ 65536
    · rw [putJ_yes h1]
      by_cases h2 : o.length + (a ++ c).length ≤ 65536
      · rw [putJ_yes h2, putJ_yes (by simp at h2 ⊢; omega), List.append_assoc]
      · rw [putJ_no h2, putJ_no (by simp at h2 ⊢; omega)]
    · rw [putJ_no h1, putJ_no (by simp; omega)]
      rfl
theorem WAt.lt {b : Nat} {w : World} {out : List UInt8} {lg : Bool} (h : WAt b w out lg) : b < w.heap.size := by
  obtain ⟨v, h1, _⟩ := h
  exact (Array.getElem?_eq_some_iff.1 h1).1
theorem WAt.keep {b : Nat} {w w' : World} {out : List UInt8} {lg : Bool} (h : WAt b w out lg) (hk : Below w.heap.size w w') : WAt b w' out lg := by
  obtain ⟨v, h1, h2, h3, h4⟩ := h
  have hx : ∀ {o : Nat} {x : _}, w.heap[o]? = some x → w'.heap[o]? = some x := fun {o x} hx => (hk.block o (Array.getElem?_eq_some_iff.1 hx).1).trans hx
  refine ⟨v, hx h1, ⟨h2.1, ?_⟩, h3, h4⟩
  rcases h2.2 with h | ⟨g, cap, cur, e1, e2, e3, e4⟩
  · exact .inl h
  · exact .inr ⟨g, cap, cur, e1, e2, hx e3, e4⟩
theorem WS.keep {b : Nat} {w w' : World} {x : Option (List UInt8)} (h : WS b w x) (hk : Below w.heap.size w w') : WS b w' x := by
  cases h with
  | has h => exact .has (h.keep hk)
  | long h => exact .long (h.keep hk)
theorem WS.lt {b : Nat} {w : World} {x : Option (List UInt8)} (h : WS b w x) : b < w.heap.size := by
  cases h with
  | has h => exact h.lt
  | long h => exact h.lt
theorem WAt.flag {b : Nat} {w : World} {out : List UInt8} {lg : Bool} (h : WAt b w out lg) (l2 : Bool) : WAt b (w.setCell ⟨b, 1, none⟩ (.bool l2)) out l2 := by
  obtain ⟨v, h1, h2, h3, h4⟩ := h
  refine ⟨v, Go.Joins.block_setCell h1 _, ?_, h3, h4⟩
  exact World.ownsRow.kept h2 (row := some b) ⟨rfl, rfl, rfl, by simp [World.setCell], fun k _ hk => Below.heap_setCell _ _ _ _ (fun e => hk (by simp [e]))⟩ (Or.inr h3)
/-- Nothing below b is turned, and nothing behind it but the writer's block and rows of bytes. -/
structure Wk (b : Nat) (w w' : World) : Prop where
  bel : Below b w w'
  others : Lib.OthersKept 5 (some b) w w'
theorem Wk.refl (b : Nat) (w : World) : Wk b w w := ⟨Below.refl _ _, Lib.OthersKept.refl _ _ _⟩
theorem Wk.trans {b : Nat} {a c d : World} (h : Wk b a c) (k : Wk b c d) : Wk b a d := ⟨h.bel.trans k.bel, h.others.trans k.others⟩
theorem Wk.of {b : Nat} {w w' : World} (h : Below w.heap.size w w') (hb : b ≤ w.heap.size) : Wk b w w' :=
  ⟨h.mono hb, fun k o hk _ _ => (h.block k (Array.getElem?_eq_some_iff.1 hk).1).trans hk⟩
theorem Wk.set (b o : Nat) (w : World) (v : Value) : Wk b w (w.setCell ⟨b, o, none⟩ v) :=
  ⟨(Below.refl b w).setCell (p := ⟨b, o, none⟩) (Nat.le_refl _) v, (Lib.OthersKept.refl _ _ _).setCell ⟨b, o, none⟩ rfl v⟩
def PutC (s : List UInt8) : Prop := ∀ (b : Nat) (w : World) (x : Option (List UInt8)), WS b w x → Calls Tryd.prog 29 #[.pointer (some ⟨b, 0, none⟩), .string (str s)] w fun e w' => e = .returned (.tuple #[]) ∧ Wk b w w' ∧ WS b w' (putJ x s)
set_option maxHeartbeats 4000000 in
set_option maxRecDepth 100000 in
theorem put_any (s : List UInt8) (hs : s.length ≤ 1000000000) : PutC s := by
  intro b w x hW
  have hb := hW.lt
  have hsz := str_size s
  have hBf : ∀ v, Wk b w (w.setCell ⟨b, 1, none⟩ v) := fun v => Wk.set b 1 w v
  cases hW with
  | long h =>
    have h2 := h.flag true
    obtain ⟨v, h1, _⟩ := h
    have c1 : w.cell? ⟨b, 1, none⟩ = some (.bool true) := by rw [Lib.cell_of_heap h1]; rfl
    have f1 : w.frozen? ⟨b, 1, none⟩ = false := Lib.frozen_of_heap h1 1
    rw [putJ_none]
    go_enter Tryd.func29, Tryd.ntmps29
    go_wp2
    go_end0
    exact ⟨rfl, hBf _, .long h2⟩
  | @has out h =>
    have hlo := h
    obtain ⟨v, h1, hown, hne, hlen⟩ := hlo
    obtain ⟨a, cp, hv⟩ : ∃ a cp, v = .slice a out.length cp := by
      rcases hown.2 with ⟨rfl, hz⟩ | ⟨g, cap, cur, rfl, _⟩
      · exact ⟨none, 0, by rw [hz]⟩
      · exact ⟨_, _, rfl⟩
    subst hv
    have c0 : w.cell? ⟨b, 0, none⟩ = some (.slice a out.length cp) := by rw [Lib.cell_of_heap h1]; rfl
    have c1 : w.cell? ⟨b, 1, none⟩ = some (.bool false) := by rw [Lib.cell_of_heap h1]; rfl
    have f1 : w.frozen? ⟨b, 1, none⟩ = false := Lib.frozen_of_heap h1 1
    by_cases hfit : out.length + s.length ≤ 65536
    · rw [putJ_yes hfit]
      have hi : ¬ ((65536 : Int) - out.length < s.length) := by omega
      obtain ⟨i0, hi0, hz0, hz1, hz2⟩ := info_parts infoByte
      have hb1 : (w.setCell ⟨b, 1, none⟩ (.bool false)).heap[b]? = some (.cells #[.slice a out.length cp, .bool false] 47 (0, 0)) := Go.Joins.block_setCell h1 _
      have hown1 : OwnsBytes (w.setCell ⟨b, 1, none⟩ (.bool false)) b (.slice a out.length cp) out := World.ownsRow.kept hown (row := some b) ⟨rfl, rfl, rfl, by simp [World.setCell], fun k _ hk => Below.heap_setCell _ _ _ _ (fun e => hk (by simp [e]))⟩ (Or.inr hne)
      go_enter Tryd.func29, Tryd.ntmps29
      go_wp2_with (at_builtin; refine Lib.wpList_append_own_string _ rfl _ _ 45 9 rfl b 5 i0 Tryd.underlying45 Tryd.underlying9 hi0 hz0 hz1 hz2 _ _ _ rfl hown1 (str s) rfl (by unfold maxLen; omega) (by omega) (by simp; omega) ?_)
      intro v' w2 hown2 hgrow _
      have hb2 : w2.heap[b]? = some (.cells #[.slice a out.length cp, .bool false] 47 (0, 0)) := by
        rw [hgrow.block b (by simp; omega) (fun e => hne e.symm)]
        exact hb1
      have d0 : w2.cell? ⟨b, 0, none⟩ = some (.slice a out.length cp) := by rw [Lib.cell_of_heap hb2]; rfl
      have f0 : w2.frozen? ⟨b, 0, none⟩ = false := Lib.frozen_of_heap hb2 0
      obtain ⟨ao, n', cap, rfl⟩ : ∃ ao n' cap, v' = .slice ao n' cap := by
        rcases hown2.2 with ⟨hv, _⟩ | ⟨g, cap, cur, hv, _⟩
        · exact ⟨_, _, _, hv⟩
        · exact ⟨_, _, _, hv⟩
      go_wp2
      go_end0
      have hn2 : (Value.slice ao n' cap).ownBlock ≠ some b := by
        rcases hown2.2 with ⟨hv, _⟩ | ⟨g, c2, cur, hv, _, hg, _⟩
        · rw [hv]; simp [Value.ownBlock]
        · rw [hv]
          intro h
          simp only [Value.ownBlock, Option.some.injEq] at h
          subst h
          rw [hg] at hb2
          simp only [Option.some.injEq, Obj.cells.injEq] at hb2
          exact absurd hb2.2.1 (by decide)
      refine ⟨rfl, ⟨((hBf _).bel.grown hgrow (by simp; omega) (fun k hk => (World.ownsRow.lt hown1 k hk).1)).setCell (p := ⟨b, 0, none⟩) (Nat.le_refl _) _, ((hBf _).others.grown hgrow (Lib.ownsRowF_kind (World.ownsRowF_of hown1))).setCell ⟨b, 0, none⟩ rfl _⟩, .has ⟨_, Go.Joins.block_setCell hb2 _, ?_, hn2, by simp; omega⟩⟩
      have hcells : cellsB (out ++ s) = cellsB out ++ Lib.strCells (str s) := by
        unfold cellsB Lib.strCells
        rw [List.map_append, str_data]
      unfold OwnsBytes
      rw [hcells, List.length_append, ← hsz]
      exact World.ownsRow.kept hown2 (row := some b) ⟨rfl, rfl, rfl, by simp [World.setCell], fun k _ hk => Below.heap_setCell _ _ _ _ (fun e => hk (by simp [e]))⟩ (Or.inr hn2)
    · rw [putJ_no hfit]
      have h2 := h.flag true
      have hi : ((65536 : Int) - out.length < s.length) := by omega
      go_enter Tryd.func29, Tryd.ntmps29
      go_wp2
      go_end0
      exact ⟨rfl, hBf _, .long h2⟩
set_option maxHeartbeats 2000000 in
theorem comma_any (b j : Nat) (w : World) (x : Option (List UInt8)) (hW : WS b w x) :
    Calls Tryd.prog 43 #[.pointer (some ⟨b, 0, none⟩), .int .i64 (j : Int)] w fun e w' => e = .returned (.tuple #[]) ∧ Wk b w w' ∧ WS b w' (putJ x (if j = 0 then [] else [44])) := by
  by_cases h0 : j = 0
  · subst h0
    have hx : putJ x [] = x := by
      cases hW with
      | long _ => rfl
      | has h =>
        obtain ⟨v, _, _, _, h4⟩ := h
        rw [putJ_yes (by simpa using h4), List.append_nil]
    rw [if_pos rfl, hx]
    go_enter Tryd.func43, Tryd.ntmps43
    go_wp2
    go_end0
    exact ⟨rfl, Wk.refl _ _, hW⟩
  · rw [if_neg h0]
    have hj : (0 : Int) < (j : Int) := by omega
    have hP := put_any [44] (by decide) b w x hW
    go_enter Tryd.func43, Tryd.ntmps43
    go_wp2_with (first
      | (go_at_call 29; refine hP.mono ?_; rintro e w1 ⟨rfl, hB1, hW1⟩))
    go_end0
    exact ⟨rfl, hB1, hW1⟩
theorem quote_len (s : List UInt8) : s.length + 2 ≤ (Jsn.quoteJ s).length := by
  have := Jsn.escLen_ge s
  unfold Jsn.escLen at this
  unfold Jsn.quoteJ
  simp only [List.length_cons, List.length_append, List.length_nil]
  omega
set_option maxHeartbeats 4000000 in
set_option maxRecDepth 100000 in
theorem quote_any (s : List UInt8) (hs : s.length ≤ 1000000000) (ht : Utf.isText s = true) (b : Nat) (w : World) (x : Option (List UInt8)) (hW : WS b w x) :
    Calls Tryd.prog 30 #[.pointer (some ⟨b, 0, none⟩), .string (str s)] w fun e w' => e = .returned (.tuple #[]) ∧ Wk b w w' ∧ WS b w' (putJ x (Jsn.quoteJ s)) := by
  have hb := hW.lt
  have hsz := str_size s
  have hql := quote_len s
  have hBf : ∀ v, Wk b w (w.setCell ⟨b, 1, none⟩ v) := fun v => Wk.set b 1 w v
  cases hW with
  | long h =>
    have h2 := h.flag true
    obtain ⟨v, h1, _⟩ := h
    have c1 : w.cell? ⟨b, 1, none⟩ = some (.bool true) := by rw [Lib.cell_of_heap h1]; rfl
    have f1 : w.frozen? ⟨b, 1, none⟩ = false := Lib.frozen_of_heap h1 1
    rw [putJ_none]
    go_enter Tryd.func30, Tryd.ntmps30
    go_wp2
    go_end0
    exact ⟨rfl, hBf _, .long h2⟩
  | @has out h =>
    have hlo := h
    obtain ⟨v, h1, hown, hne, hlen⟩ := hlo
    obtain ⟨a, cp, hv⟩ : ∃ a cp, v = .slice a out.length cp := by
      rcases hown.2 with ⟨rfl, hz⟩ | ⟨g, cap, cur, rfl, _⟩
      · exact ⟨none, 0, by rw [hz]⟩
      · exact ⟨_, _, rfl⟩
    subst hv
    have c0 : w.cell? ⟨b, 0, none⟩ = some (.slice a out.length cp) := by rw [Lib.cell_of_heap h1]; rfl
    have c1 : w.cell? ⟨b, 1, none⟩ = some (.bool false) := by rw [Lib.cell_of_heap h1]; rfl
    have f1 : w.frozen? ⟨b, 1, none⟩ = false := Lib.frozen_of_heap h1 1
    by_cases hfit : out.length + s.length ≤ 65536
    · have hi : ¬ ((65536 : Int) - out.length < s.length) := by omega
      have h2 : WS b (w.setCell ⟨b, 1, none⟩ (.bool false)) (some out) := .has (h.flag false)
      have hQ := fun w => Quote_any s w hs
      rw [Utf.rep_self s ht] at hQ
      have hql2 : (Jsn.quoteJ s).length ≤ 1000000000 := by
        have := Jsn.escLen_le s
        unfold Jsn.escLen at this
        unfold Jsn.quoteJ
        simp only [List.length_cons, List.length_append, List.length_nil]
        omega
      have hP := put_any (Jsn.quoteJ s) hql2 b
      generalize Jsn.quoteJ s = q at hQ hP hql ⊢
      clear hql2 hql h
      generalize hX : putJ (some out) q = X
      have HX := show Hid _ from hX
      clear hX
      go_enter Tryd.func30, Tryd.ntmps30
      go_wp2_with (first
        | (go_at_call 42; refine (hQ _).mono ?_; rintro e w1 ⟨rfl, hB1⟩; have hW1 := h2.keep hB1; clear hQ)
        | (go_at_call 29; refine (hP w1 _ hW1).mono ?_; rintro e w2 ⟨rfl, hB2, hW2⟩))
      go_end0
      exact ⟨rfl, ((hBf _).trans (Wk.of hB1 (by simp; omega))).trans hB2, by rw [← HX.out]; exact hW2⟩
    · rw [putJ_no (by omega)]
      have h2 := h.flag true
      have hi : ((65536 : Int) - out.length < s.length) := by omega
      go_enter Tryd.func30, Tryd.ntmps30
      go_wp2
      go_end0
      exact ⟨rfl, hBf _, .long h2⟩
end Go.Proofs.YtpnmiknikkhliaaDoor
/- Contracts of the writer's list, table, value. -/
set_option linter.unusedVariables false
set_option linter.unusedSimpArgs false
namespace Go.Proofs.YtpnmiknikkhliaaDoor
open Go.RowKit
def WrPost (b : Nat) (w : World) (X : Option (List UInt8)) (e : Ending) (w' : World) : Prop := e = .returned (.tuple #[]) ∧ Wk b w w' ∧ WS b w' X
/-- A value that may be, somewhere. -/
def May1 (t : Jsn.J) : Prop := ∃ d n m, Jsn.mayC t d n = some m
def WrC (t : Jsn.J) : Prop := ∀ (v : Value) (b : Nat) (w : World) (x : Option (List UInt8)), RV (· < b) w t v → May1 t → Jsn.sizeJ t ≤ 1000000000 → WS b w x → Calls Tryd.prog 20 #[.pointer (some ⟨b, 0, none⟩), v] w (WrPost b w (putJ x (Jsn.textJ t)))
theorem mayL_mem : ∀ (cs : List Jsn.J) (d n m : Nat), Jsn.mayL cs d n = some m → ∀ c ∈ cs, May1 c
  | [], _, _, _, _, c, hc => by cases hc
  | a :: cs, d, n, m, h, c, hc => by
    unfold Jsn.mayL at h
    cases ha : Jsn.mayC a d n with
    | none => rw [ha] at h; cases h
    | some q =>
      rw [ha] at h
      rcases List.mem_cons.1 hc with rfl | hc
      · exact ⟨_, _, _, ha⟩
      · exact mayL_mem cs d q m h c hc
theorem Wk.lt_block {b : Nat} {w w' : World} (h : Wk b w w') (k : Nat) (hk : k < b) : w'.heap[k]? = w.heap[k]? := h.bel.block k hk
theorem Wk.val {b k : Nat} {w w' : World} {cs : Array Value} (h : Wk b w w') (hk : w.heap[k]? = some (.cells cs 25 (0, 0))) (hb : k ≠ b) : w'.heap[k]? = some (.cells cs 25 (0, 0)) :=
  h.others k _ hk (by simp; omega) (by intro c fz e; cases e)
theorem val_new (w : World) (o : Obj) : (w.alloc o).heap[w.heap.size]? = some o := by
  unfold World.alloc
  exact Array.getElem?_push_size
set_option maxHeartbeats 4000000 in
set_option maxRecDepth 100000 in
theorem list_w (cs : List Jsn.J) (ih : ∀ c ∈ cs, WrC c) (hm : ∀ c ∈ cs, May1 c) (x0 x1 x2 cv : Value) (b : Nat) (w : World) (x : Option (List UInt8)) (hk : RKs (· < b) w cs cv) (hW : WS b w x) (hsz : Jsn.sizeL cs ≤ 1000000000) (hl : cs.length ≤ 1000000000) :
    Calls Tryd.prog 31 #[.pointer (some ⟨b, 0, none⟩), vv x0 x1 x2 cv] w (WrPost b w (putJ x (91 :: (Jsn.itemsJ true cs ++ [93])))) := by
  unfold WrPost
  obtain ⟨a, c, rfl⟩ := hk.form
  have hb := hW.lt
  have hp := fun s (h : s.length ≤ 1000000000) => put_any s h b
  have hp1 := hp [91] (by decide)
  have hp2 := hp [93] (by decide)
  clear hp
  generalize hX : putJ x (91 :: (Jsn.itemsJ true cs ++ [93])) = X
  have HX : Hid (putJ (putJ x [91]) (Jsn.itemsJ (decide (0 = 0)) (cs.drop 0) ++ [93]) = X) := by
    show _ = _
    rw [← hX, putJ_app]
    rfl
  clear hX
  have hA : Below w.heap.size w (w.alloc (.cells #[x0, x1, x2, .slice a cs.length c] 25)) := (Below.refl _ w).alloc (Nat.le_refl _) _
  have hWA := hW.keep hA
  have hkA := Wk.of (b := b) hA (by omega)
  have hbk : (w.alloc (.cells #[x0, x1, x2, .slice a cs.length c] 25)).heap[w.heap.size]? = some (.cells #[x0, x1, x2, .slice a cs.length c] 25 (0, 0)) := val_new _ _
  go_enter Tryd.func31, Tryd.ntmps31
  go_wp2_with (first
    | (go_at_call 29; refine (hp1 _ _ hWA).mono ?_; rintro e w1 ⟨rfl, hk1, hW1⟩; have hK1 := hkA.trans hk1; have hbk1 := hk1.val hbk (by omega); have c3 : w1.cell? ⟨w.heap.size, 3, none⟩ = some (.slice a cs.length c) := by rw [Lib.cell_of_heap hbk1]; rfl))
  go_loopw [11] (fun i wr => ∃ (j : Nat) (y : Option (List UInt8)), i = .int .i64 j ∧ j ≤ cs.length ∧ WS b wr y ∧ Wk b w wr ∧ Hid (putJ y (Jsn.itemsJ (decide (j = 0)) (cs.drop j) ++ [93]) = X)) (fun i _ => cs.length - (intOf i).toNat)
  case atStart => exact ⟨0, putJ x [91], rfl, Nat.zero_le _, hW1, hK1, HX⟩
  case round =>
    obtain ⟨j, y, rfl, hj, hWj, hK, HE⟩ := hrel
    clear hp1 hW1 hK1 HX hWA hkA hbk hbk1 c3
    have hbj := hWj.lt
    by_cases hlt : j < cs.length
    · have hat : cs[j]? = some cs[j] := List.getElem?_eq_getElem hlt
      obtain ⟨g, o, rfl, hcl, hgb, hgl, y0, y1, y2, y3, e0, e1, e2, e3, hrv⟩ := hk.at hat
      have hkg := hK.lt_block g hgb
      have f0 := (cell_keep hkg (o := o + j * 4)).trans e0
      have f1 := (cell_keep hkg (o := o + j * 4 + 1)).trans e1
      have f2 := (cell_keep hkg (o := o + j * 4 + 2)).trans e2
      have f3 := (cell_keep hkg (o := o + j * 4 + 3)).trans e3
      obtain ⟨aa, na, ca, ab, nb, cb, hsh⟩ := hrv.shape
      cases hsh
      have hBw : Below wr.heap.size wr (wr.alloc (.cells #[.int .i64 cs[j].kind, .string (str cs[j].text), .slice aa na ca, .slice ab nb cb] 25)) := (Below.refl _ wr).alloc (Nat.le_refl _) _
      have hKw := hK.trans (Wk.of (b := b) hBw (by omega))
      have hbw : (wr.alloc (.cells #[.int .i64 cs[j].kind, .string (str cs[j].text), .slice aa na ca, .slice ab nb cb] 25)).heap[wr.heap.size]? = some (.cells #[.int .i64 cs[j].kind, .string (str cs[j].text), .slice aa na ca, .slice ab nb cb] 25 (0, 0)) := val_new _ _
      have hcm := comma_any b j _ y (hWj.keep hBw)
      have hE := HE.out
      rw [List.drop_eq_getElem_cons hlt, Jsn.items_cons] at hE
      have HY : Hid (putJ (putJ (putJ y (if j = 0 then [] else [44])) (Jsn.textJ cs[j])) (Jsn.itemsJ (decide (j + 1 = 0)) (cs.drop (j + 1)) ++ [93]) = X) := by
        show _ = _
        rw [← hE, putJ_app, putJ_app]
        congr 1
        by_cases hj0 : j = 0 <;> simp [hj0]
      have hI := fun W y (h1 : RV (· < b) W cs[j] (vv (.int .i64 cs[j].kind) (.string (str cs[j].text)) (.slice aa na ca) (.slice ab nb cb))) h2 => ih cs[j] (List.getElem_mem hlt) _ b W y h1 (hm _ (List.getElem_mem hlt)) (Nat.le_trans (Jsn.sizeL_mem (List.getElem_mem hlt)) hsz) h2
      clear hE HE hat
      generalize cs[j] = t at *
      generalize putJ y (if j = 0 then [] else [44]) = y' at *
      go_wp2_with (first
        | (go_at_call 43; refine hcm.mono ?_; rintro e w2 ⟨rfl, hk2, hW2⟩; have hK2 := hKw.trans hk2; have hb2 := hk2.val hbw (by omega); have d0 : w2.cell? ⟨wr.heap.size, 0, none⟩ = some (.int .i64 t.kind) := by { rw [Lib.cell_of_heap hb2]; rfl }; have d1 : w2.cell? ⟨wr.heap.size, 1, none⟩ = some (.string (str t.text)) := by { rw [Lib.cell_of_heap hb2]; rfl }; have d2 : w2.cell? ⟨wr.heap.size, 2, none⟩ = some (.slice aa na ca) := by { rw [Lib.cell_of_heap hb2]; rfl }; have d3 : w2.cell? ⟨wr.heap.size, 3, none⟩ = some (.slice ab nb cb) := by { rw [Lib.cell_of_heap hb2]; rfl }; have hI2 := hI w2 _ (RV.keep hK2.bel.size (fun k hq hl => ⟨hq, hK2.lt_block k hq⟩) hrv) hW2)
        | (go_at_call 20; refine hI2.mono ?_; rintro e w3 ⟨rfl, hk3, hW3⟩))
      go_roundw
      case rel => exact ⟨j + 1, _, by go_num, by omega, hW3, hK2.trans hk3, HY⟩
      case measure => simp [intOf]; omega
    · have HY : Hid (putJ y [93] = X) := by
        show _ = _
        rw [← HE.out, List.drop_of_length_le (by omega)]
        cases decide (j = 0) <;> simp [Jsn.itemsJ]
      clear HE
      go_wp2_with (first
        | (go_at_call 29; refine (hp2 _ _ hWj).mono ?_; rintro e w2 ⟨rfl, hk2, hW2⟩))
      go_end0
      exact ⟨rfl, hK.trans hk2, by rw [← HY.out]; exact hW2⟩
set_option maxHeartbeats 4000000 in
set_option maxRecDepth 100000 in
theorem table_w (ks : List (List UInt8)) (cs : List Jsn.J) (hkl : cs.length ≤ ks.length) (hkt : ∀ k ∈ ks, Utf.isText k = true) (hkz : ∀ k ∈ ks, k.length ≤ 1000000000) (ih : ∀ c ∈ cs, WrC c) (hm : ∀ c ∈ cs, May1 c) (x0 x1 kv cv : Value) (b : Nat) (w : World) (x : Option (List UInt8)) (hks : RTs (· < b) w ks kv) (hk : RKs (· < b) w cs cv) (hW : WS b w x) (hsz : Jsn.sizeL cs ≤ 1000000000) (hl : cs.length ≤ 1000000000) :
    Calls Tryd.prog 32 #[.pointer (some ⟨b, 0, none⟩), vv x0 x1 kv cv] w (WrPost b w (putJ x (123 :: (Jsn.pairsJ true ks cs ++ [125])))) := by
  unfold WrPost
  obtain ⟨a, c, rfl⟩ := hk.form
  obtain ⟨ka, kc, rfl⟩ := hks.form
  have hb := hW.lt
  have hp := fun s (h : s.length ≤ 1000000000) => put_any s h b
  have hp1 := hp [123] (by decide)
  have hp2 := hp [125] (by decide)
  have hp3 := hp [58] (by decide)
  clear hp
  generalize hX : putJ x (123 :: (Jsn.pairsJ true ks cs ++ [125])) = X
  have HX : Hid (putJ (putJ x [123]) (Jsn.pairsJ (decide (0 = 0)) (ks.drop 0) (cs.drop 0) ++ [125]) = X) := by
    show _ = _
    rw [← hX, putJ_app]
    rfl
  clear hX
  have hA : Below w.heap.size w (w.alloc (.cells #[x0, x1, .slice ka ks.length kc, .slice a cs.length c] 25)) := (Below.refl _ w).alloc (Nat.le_refl _) _
  have hWA := hW.keep hA
  have hkA := Wk.of (b := b) hA (by omega)
  have hbk : (w.alloc (.cells #[x0, x1, .slice ka ks.length kc, .slice a cs.length c] 25)).heap[w.heap.size]? = some (.cells #[x0, x1, .slice ka ks.length kc, .slice a cs.length c] 25 (0, 0)) := val_new _ _
  go_enter Tryd.func32, Tryd.ntmps32
  go_wp2_with (first
    | (go_at_call 29; refine (hp1 _ _ hWA).mono ?_; rintro e w1 ⟨rfl, hk1, hW1⟩; have hK1 := hkA.trans hk1; have hbk1 := hk1.val hbk (by omega); have c3 : w1.cell? ⟨w.heap.size, 3, none⟩ = some (.slice a cs.length c) := by rw [Lib.cell_of_heap hbk1]; rfl))
  go_loopw [11] (fun i wr => ∃ (j : Nat) (y : Option (List UInt8)), i = .int .i64 j ∧ j ≤ cs.length ∧ WS b wr y ∧ Wk b w wr ∧ wr.heap[w.heap.size]? = some (.cells #[x0, x1, .slice ka ks.length kc, .slice a cs.length c] 25 (0, 0)) ∧ Hid (putJ y (Jsn.pairsJ (decide (j = 0)) (ks.drop j) (cs.drop j) ++ [125]) = X)) (fun i _ => cs.length - (intOf i).toNat)
  case atStart => exact ⟨0, putJ x [123], rfl, Nat.zero_le _, hW1, hK1, hbk1, HX⟩
  case round =>
    obtain ⟨j, y, rfl, hj, hWj, hK, hbx, HE⟩ := hrel
    clear hp1 hW1 hK1 HX hWA hkA hbk hbk1 c3
    have hbx2 : w.heap.size ≠ b := by omega
    have hbj := hWj.lt
    by_cases hlt : j < cs.length
    · have hat : cs[j]? = some cs[j] := List.getElem?_eq_getElem hlt
      obtain ⟨g, o, rfl, hcl, hgb, hgl, y0, y1, y2, y3, e0, e1, e2, e3, hrv⟩ := hk.at hat
      have hkg := hK.lt_block g hgb
      have f0 := (cell_keep hkg (o := o + j * 4)).trans e0
      have f1 := (cell_keep hkg (o := o + j * 4 + 1)).trans e1
      have f2 := (cell_keep hkg (o := o + j * 4 + 2)).trans e2
      have f3 := (cell_keep hkg (o := o + j * 4 + 3)).trans e3
      obtain ⟨aa, na, ca, ab, nb, cb, hsh⟩ := hrv.shape
      cases hsh
      have hltk : j < ks.length := by omega
      have hatk : ks[j]? = some ks[j] := List.getElem?_eq_getElem hltk
      obtain ⟨gk, ok, rfl, hckl, hgkb, hgkl, ek⟩ := hks.at hatk
      have hws := hK.bel.size
      have hwlt : w.heap.size < wr.heap.size := (Array.getElem?_eq_some_iff.1 hbx).1
      have hBw : Below wr.heap.size wr (wr.alloc (.cells #[.int .i64 cs[j].kind, .string (str cs[j].text), .slice aa na ca, .slice ab nb cb] 25)) := (Below.refl _ wr).alloc (Nat.le_refl _) _
      have hKw := hK.trans (Wk.of (b := b) hBw (by omega))
      have hbw : (wr.alloc (.cells #[.int .i64 cs[j].kind, .string (str cs[j].text), .slice aa na ca, .slice ab nb cb] 25)).heap[wr.heap.size]? = some (.cells #[.int .i64 cs[j].kind, .string (str cs[j].text), .slice aa na ca, .slice ab nb cb] 25 (0, 0)) := val_new _ _
      have hcm := comma_any b j _ y (hWj.keep hBw)
      have hE := HE.out
      rw [List.drop_eq_getElem_cons hlt, List.drop_eq_getElem_cons hltk, Jsn.pairs_cons] at hE
      have HY : Hid (putJ (putJ (putJ (putJ (putJ y (if j = 0 then [] else [44])) (Jsn.quoteJ ks[j])) [58]) (Jsn.textJ cs[j])) (Jsn.pairsJ (decide (j + 1 = 0)) (ks.drop (j + 1)) (cs.drop (j + 1)) ++ [125]) = X) := by
        show _ = _
        rw [← hE, putJ_app, putJ_app, putJ_app, putJ_app]
        congr 1
        by_cases hj0 : j = 0 <;> simp [hj0]
      have hI := fun W y (h1 : RV (· < b) W cs[j] (vv (.int .i64 cs[j].kind) (.string (str cs[j].text)) (.slice aa na ca) (.slice ab nb cb))) h2 => ih cs[j] (List.getElem_mem hlt) _ b W y h1 (hm _ (List.getElem_mem hlt)) (Nat.le_trans (Jsn.sizeL_mem (List.getElem_mem hlt)) hsz) h2
      have hq := fun W y => quote_any ks[j] (hkz _ (List.getElem_mem hltk)) (hkt _ (List.getElem_mem hltk)) b W y
      clear hE HE hat hatk
      generalize ks[j] = kk at *
      generalize cs[j] = t at *
      generalize putJ y (if j = 0 then [] else [44]) = y' at *
      go_wp2_with (first
        | (go_at_call 43; refine hcm.mono ?_; rintro e w2 ⟨rfl, hk2, hW2⟩; have hK2 := hKw.trans hk2; have hb2 := hk2.val hbw (by omega); have hx2 := hk2.val ((hBw.block _ hwlt).trans hbx) hbx2; have k2 : w2.cell? ⟨w.heap.size, 2, none⟩ = some (.slice (some ⟨gk, ok, none⟩) ks.length kc) := by { rw [Lib.cell_of_heap hx2]; rfl }; have k3 := (cell_keep (hK2.lt_block gk hgkb) (o := ok + j)).trans ek; have hq2 := hq w2 _ hW2)
        | (go_at_call 30; refine hq2.mono ?_; rintro e w4 ⟨rfl, hk4, hW4⟩; have hb4 := hk4.val hb2 (by omega); have hx4 := hk4.val hx2 hbx2; have hK4 := hK2.trans hk4)
        | (go_at_call 29; refine (hp3 _ _ hW4).mono ?_; rintro e w5 ⟨rfl, hk5, hW5⟩; have hb5 := hk5.val hb4 (by omega); have hx5 := hk5.val hx4 hbx2; have hK5 := hK4.trans hk5; have d0 : w5.cell? ⟨wr.heap.size, 0, none⟩ = some (.int .i64 t.kind) := by { rw [Lib.cell_of_heap hb5]; rfl }; have d1 : w5.cell? ⟨wr.heap.size, 1, none⟩ = some (.string (str t.text)) := by { rw [Lib.cell_of_heap hb5]; rfl }; have d2 : w5.cell? ⟨wr.heap.size, 2, none⟩ = some (.slice aa na ca) := by { rw [Lib.cell_of_heap hb5]; rfl }; have d3 : w5.cell? ⟨wr.heap.size, 3, none⟩ = some (.slice ab nb cb) := by { rw [Lib.cell_of_heap hb5]; rfl }; have hI5 := hI w5 _ (RV.keep hK5.bel.size (fun k hq hl => ⟨hq, hK5.lt_block k hq⟩) hrv) hW5)
        | (go_at_call 20; refine hI5.mono ?_; rintro e w3 ⟨rfl, hk3, hW3⟩))
      go_roundw
      case rel => exact ⟨j + 1, _, by go_num, by omega, hW3, hK5.trans hk3, hk3.val hx5 hbx2, HY⟩
      case measure => simp [intOf]; omega
    · have HY : Hid (putJ y [125] = X) := by
        show _ = _
        rw [← HE.out, show cs.drop j = [] from List.drop_of_length_le (by omega)]
        cases decide (j = 0) <;> simp [Jsn.pairsJ]
      clear HE
      go_wp2_with (first
        | (go_at_call 29; refine (hp2 _ _ hWj).mono ?_; rintro e w2 ⟨rfl, hk2, hW2⟩))
      go_end0
      exact ⟨rfl, hK.trans hk2, by rw [← HY.out]; exact hW2⟩
theorem keys_text {ks : List (List UInt8)} (h : Jsn.keysOK ks = true) : ∀ k ∈ ks, Utf.isText k = true := by
  unfold Jsn.keysOK at h
  rw [Bool.and_eq_true] at h
  exact List.all_eq_true.1 h.1
end Go.Proofs.YtpnmiknikkhliaaDoor
/- The contracts of the writer's value, and of Text. -/
set_option linter.unusedVariables false
set_option linter.unusedSimpArgs false
namespace Go.Proofs.YtpnmiknikkhliaaDoor
open Go.RowKit
set_option maxHeartbeats 4000000 in
set_option maxRecDepth 100000 in
theorem value_w : ∀ t, WrC t := by
  intro tr
  induction tr using Jsn.J.ind with
  | h k t ks cs ih =>
    intro v b w x hv hm hsz hW
    obtain ⟨kv, cv, rfl, hks, hcs⟩ := RV_mk.1 hv
    obtain ⟨a1, c1, rfl⟩ := hks.form
    obtain ⟨a2, c2, rfl⟩ := hcs.form
    rw [Jsn.sizeJ_mk] at hsz
    obtain ⟨d, n, m, hm⟩ := hm
    unfold Jsn.mayC at hm
    have hb := hW.lt
    rw [Jsn.textJ_mk]
    unfold WrPost
    have hB : ∀ o, Below w.heap.size w (w.alloc o) := fun o => (Below.refl _ _).alloc (Nat.le_refl _) _
    have hWB := fun o => hW.keep (hB o)
    have hkB : ∀ o, Wk b w (w.alloc o) := fun o => Wk.of (hB o) (by omega)
    have hcs' : ∀ o, RKs (· < b) (w.alloc o) cs (.slice a2 cs.length c2) := fun o => hcs.keep (hkB o).bel.size (fun k hq hl => ⟨hq, (hkB o).lt_block k hq⟩)
    have hks' : ∀ o, RTs (· < b) (w.alloc o) ks (.slice a1 ks.length c1) := fun o => hks.keep (hkB o).bel.size (fun k hq hl => ⟨hq, (hkB o).lt_block k hq⟩)
    split at hm
    · cases hm
    · by_cases h5 : k = 5
      · subst h5
        rw [if_pos rfl] at hm
        split at hm
        · rename_i hcond
          have hc := list_w cs ih (mayL_mem cs _ _ _ hm) (.int .i64 5) (.string (str t)) (.slice a1 ks.length c1) (.slice a2 cs.length c2) b _ x (hcs' _) (hWB (.cells #[.int .i64 5, .string (str t), .slice a1 ks.length c1, .slice a2 cs.length c2] 25)) (by omega) (by omega)
          rw [if_neg (by decide), if_neg (by decide), if_pos rfl]
          generalize putJ x (91 :: (Jsn.itemsJ true cs ++ [93])) = X at hc ⊢
          clear hm hcond
          go_enter Tryd.func20, Tryd.ntmps20
          go_wp2_with (first
            | (go_at_call 31; refine hc.mono ?_; rintro e w1 ⟨rfl, hk1, hW1⟩))
          go_end0
          exact ⟨rfl, (hkB _).trans hk1, hW1⟩
        · cases hm
      rw [if_neg h5] at hm
      by_cases h6 : k = 6
      · subst h6
        rw [if_pos rfl] at hm
        split at hm
        · rename_i hcond
          split at hm
          · rename_i hok
            have hc := table_w ks cs (by omega) (keys_text hok) (fun k hk => by have := Jsn.lenK_mem hk; omega) ih (mayL_mem cs _ _ _ hm) (.int .i64 6) (.string (str t)) (.slice a1 ks.length c1) (.slice a2 cs.length c2) b _ x (hks' _) (hcs' _) (hWB (.cells #[.int .i64 6, .string (str t), .slice a1 ks.length c1, .slice a2 cs.length c2] 25)) (by omega) (by omega)
            rw [if_neg (by decide), if_neg (by decide), if_neg (by decide), if_pos rfl]
            generalize putJ x (123 :: (Jsn.pairsJ true ks cs ++ [125])) = X at hc ⊢
            clear hm hcond hok
            go_enter Tryd.func20, Tryd.ntmps20
            go_wp2_with (first
              | (go_at_call 32; refine hc.mono ?_; rintro e w1 ⟨rfl, hk1, hW1⟩))
            go_end0
            exact ⟨rfl, (hkB _).trans hk1, hW1⟩
          · cases hm
        · cases hm
      rw [if_neg h6] at hm
      split at hm
      · rename_i hcond
        obtain ⟨hx1, hx2, hto⟩ := hcond
        clear hx1 hx2
        unfold Jsn.textOf at hto
        clear hm
        by_cases h1 : k = 1
        · subst h1
          rw [if_pos rfl]
          have hc := put_any Jsn.nullT (by decide) b _ x (hWB (.cells #[.int .i64 1, .string (str t), .slice a1 ks.length c1, .slice a2 cs.length c2] 25))
          generalize putJ x Jsn.nullT = X at hc ⊢
          clear hto
          go_enter Tryd.func20, Tryd.ntmps20
          go_wp2_with (first
            | (go_at_call 29; refine hc.mono ?_; rintro e w1 ⟨rfl, hk1, hW1⟩))
          go_end0
          exact ⟨rfl, (hkB _).trans hk1, hW1⟩
        rw [if_neg h1] at hto ⊢
        by_cases h4 : k = 4
        · subst h4
          rw [if_pos rfl]
          rw [if_neg (by decide), if_neg (by decide), if_pos rfl] at hto
          have hc := quote_any t (by omega) hto b _ x (hWB (.cells #[.int .i64 4, .string (str t), .slice a1 ks.length c1, .slice a2 cs.length c2] 25))
          generalize putJ x (Jsn.quoteJ t) = X at hc ⊢
          clear hto
          go_enter Tryd.func20, Tryd.ntmps20
          go_wp2_with (first
            | (go_at_call 30; refine hc.mono ?_; rintro e w1 ⟨rfl, hk1, hW1⟩))
          go_end0
          exact ⟨rfl, (hkB _).trans hk1, hW1⟩
        · rw [if_neg h4, if_neg h5, if_neg h6]
          have hc := put_any t (by omega) b _ x (hWB (.cells #[.int .i64 k, .string (str t), .slice a1 ks.length c1, .slice a2 cs.length c2] 25))
          generalize putJ x t = X at hc ⊢
          clear hto
          have q1 : (k == 1) = false := by simpa using h1
          have q4 : (k == 4) = false := by simpa using h4
          have q5 : (k == 5) = false := by simpa using h5
          have q6 : (k == 6) = false := by simpa using h6
          go_enter Tryd.func20, Tryd.ntmps20
          go_wp2_with (first
            | (go_at_call 29; refine hc.mono ?_; rintro e w1 ⟨rfl, hk1, hW1⟩))
          go_end0
          exact ⟨rfl, (hkB _).trans hk1, hW1⟩
      · cases hm
def textR (t : Jsn.J) : List UInt8 × Int := if Jsn.mayJ t = true then (if (Jsn.textJ t).length ≤ 65536 then (Jsn.textJ t, 0) else ([], 5)) else ([], 1)
theorem fresh_writer (w : World) : WS w.heap.size (w.alloc (.cells #[.slice none 0 0, .bool false] 47)) (some []) :=
  .has ⟨.slice none 0 0, val_new _ _, OwnsBytes.nil _ _, by simp [Value.ownBlock], by simp⟩
set_option maxHeartbeats 4000000 in
set_option maxRecDepth 100000 in
theorem Text_any (t : Jsn.J) (v : Value) (w : World) (hv : RV (fun _ => True) w t v) (hsz : Jsn.sizeJ t ≤ 1000000000) :
    Calls Tryd.prog 11 #[v] w fun e w' => e = .returned (.tuple #[.string (str (textR t).1), .int .i64 (textR t).2]) ∧ Below w.heap.size w w' := by
  obtain ⟨aa, na, ca, ab, nb, cb, rfl⟩ := hv.shape
  have hA : Below w.heap.size w (w.alloc (.cells #[.int .i64 t.kind, .string (str t.text), .slice aa na ca, .slice ab nb cb] 25)) := (Below.refl _ w).alloc (Nat.le_refl _) _
  have hb0 : (w.alloc (.cells #[.int .i64 t.kind, .string (str t.text), .slice aa na ca, .slice ab nb cb] 25)).heap[w.heap.size]? = some (.cells #[.int .i64 t.kind, .string (str t.text), .slice aa na ca, .slice ab nb cb] 25 (0, 0)) := val_new _ _
  have hM := May_any t _ _ (RV.keep (Q' := fun _ => True) hA.size (fun k _ hl => ⟨trivial, hA.block k hl⟩) hv) hsz
  unfold textR
  cases hmay : Jsn.mayJ t with
  | false =>
    rw [hmay] at hM
    rw [if_neg (by decide)]
    clear hmay
    go_enter Tryd.func11, Tryd.ntmps11
    go_wp2_with (first
      | (go_at_call 12; refine hM.mono ?_; rintro e w1 ⟨rfl, hB1⟩))
    go_ret2
    exact ⟨rfl, hA.trans (hB1.mono hA.size)⟩
  | true =>
    rw [hmay] at hM
    rw [if_pos rfl]
    have hM1 : May1 t := by
      unfold Jsn.mayJ at hmay
      obtain ⟨m, hm⟩ := Option.isSome_iff_exists.1 hmay
      exact ⟨0, 0, m, hm⟩
    clear hmay
    have hval := fun b W h1 h2 => value_w t (vv (.int .i64 t.kind) (.string (str t.text)) (.slice aa na ca) (.slice ab nb cb)) b W (some []) h1 hM1 hsz h2
    by_cases hl : (Jsn.textJ t).length ≤ 65536
    · rw [if_pos hl]
      rw [putJ_yes (by simpa using hl), List.nil_append] at hval
      generalize Jsn.textJ t = q at hval hl ⊢
      go_enter Tryd.func11, Tryd.ntmps11
      go_wp2_with (first
        | (go_at_call 12; refine hM.mono ?_; rintro e w1 ⟨rfl, hB1⟩; have hs1 := hB1.size; have hfw := fresh_writer w1; have hB2 : Below w1.heap.size w1 (w1.alloc (.cells #[.slice none 0 0, .bool false] 47)) := (Below.refl _ _).alloc (Nat.le_refl _) _; have hBB := bel (bel hA hB1) hB2; have hb1 := (hB2.block w.heap.size (by simp at hs1; omega)).trans ((hB1.block w.heap.size (by simp)).trans hb0); have d0 : (w1.alloc (.cells #[.slice none 0 0, .bool false] 47)).cell? ⟨w.heap.size, 0, none⟩ = some (.int .i64 t.kind) := by { rw [Lib.cell_of_heap hb1]; rfl }; have d1 : (w1.alloc (.cells #[.slice none 0 0, .bool false] 47)).cell? ⟨w.heap.size, 1, none⟩ = some (.string (str t.text)) := by { rw [Lib.cell_of_heap hb1]; rfl }; have d2 : (w1.alloc (.cells #[.slice none 0 0, .bool false] 47)).cell? ⟨w.heap.size, 2, none⟩ = some (.slice aa na ca) := by { rw [Lib.cell_of_heap hb1]; rfl }; have d3 : (w1.alloc (.cells #[.slice none 0 0, .bool false] 47)).cell? ⟨w.heap.size, 3, none⟩ = some (.slice ab nb cb) := by { rw [Lib.cell_of_heap hb1]; rfl }; have hV := hval w1.heap.size _ (RV.keep hBB.size (fun k _ hl => ⟨by simp at hs1; omega, hBB.block k hl⟩) hv) hfw)
        | (go_at_call 20; refine hV.mono ?_; rintro e w2 ⟨rfl, hk2, hW2⟩; obtain ⟨vo, hbo, hown, hne, hol⟩ : WAt w1.heap.size w2 q false := by { cases hW2; assumption }; have hcv := conv_owned hown; have g0 : w2.cell? ⟨w1.heap.size, 0, none⟩ = some vo := by { rw [Lib.cell_of_heap hbo]; rfl }; have g1 : w2.cell? ⟨w1.heap.size, 1, none⟩ = some (.bool false) := by { rw [Lib.cell_of_heap hbo]; rfl }))
      go_ret2
      exact ⟨rfl, hBB.trans (hk2.bel.mono (by simp at hs1; omega))⟩
    · rw [if_neg hl]
      rw [putJ_no (by simpa using hl)] at hval
      clear hl
      go_enter Tryd.func11, Tryd.ntmps11
      go_wp2_with (first
        | (go_at_call 12; refine hM.mono ?_; rintro e w1 ⟨rfl, hB1⟩; have hs1 := hB1.size; have hfw := fresh_writer w1; have hB2 : Below w1.heap.size w1 (w1.alloc (.cells #[.slice none 0 0, .bool false] 47)) := (Below.refl _ _).alloc (Nat.le_refl _) _; have hBB := bel (bel hA hB1) hB2; have hb1 := (hB2.block w.heap.size (by simp at hs1; omega)).trans ((hB1.block w.heap.size (by simp)).trans hb0); have d0 : (w1.alloc (.cells #[.slice none 0 0, .bool false] 47)).cell? ⟨w.heap.size, 0, none⟩ = some (.int .i64 t.kind) := by { rw [Lib.cell_of_heap hb1]; rfl }; have d1 : (w1.alloc (.cells #[.slice none 0 0, .bool false] 47)).cell? ⟨w.heap.size, 1, none⟩ = some (.string (str t.text)) := by { rw [Lib.cell_of_heap hb1]; rfl }; have d2 : (w1.alloc (.cells #[.slice none 0 0, .bool false] 47)).cell? ⟨w.heap.size, 2, none⟩ = some (.slice aa na ca) := by { rw [Lib.cell_of_heap hb1]; rfl }; have d3 : (w1.alloc (.cells #[.slice none 0 0, .bool false] 47)).cell? ⟨w.heap.size, 3, none⟩ = some (.slice ab nb cb) := by { rw [Lib.cell_of_heap hb1]; rfl }; have hV := hval w1.heap.size _ (RV.keep hBB.size (fun k _ hl => ⟨by simp at hs1; omega, hBB.block k hl⟩) hv) hfw)
        | (go_at_call 20; refine hV.mono ?_; rintro e w2 ⟨rfl, hk2, hW2⟩; obtain ⟨out, vo, hbo, hown, hne, hol⟩ : ∃ out, WAt w1.heap.size w2 out true := by { cases hW2; exact ⟨_, by assumption⟩ }; have g1 : w2.cell? ⟨w1.heap.size, 1, none⟩ = some (.bool true) := by { rw [Lib.cell_of_heap hbo]; rfl }))
      go_ret2
      exact ⟨rfl, hBB.trans (hk2.bel.mono (by simp at hs1; omega))⟩
end Go.Proofs.YtpnmiknikkhliaaDoor
