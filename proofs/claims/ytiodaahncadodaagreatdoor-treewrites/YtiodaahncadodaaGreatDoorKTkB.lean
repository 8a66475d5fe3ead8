/- A reader of package token in memory, and the contracts of its small methods: take, took, past, while. -/
import Derived.Test.YtiodaahncadodaaGreatDoorKTkA
import Derived.Test.YtiodaahncadodaaGreatDoorKRfEF
import Derived.Lib.Builder
import Derived.Lib.SmallJoins
set_option linter.unusedVariables false
set_option linter.unusedSimpArgs false
namespace Go.Proofs.YtiodaahncadodaaGreatDoor
open Go.RowKit
/-- All blocks but b are as they were. -/
structure Kept (b : Nat) (w w' : World) : Prop where
  os : w'.os = w.os
  tape : w'.tape = w.tape
  output : w'.output = w.output
  size : w.heap.size ≤ w'.heap.size
  block : ∀ k, k < w.heap.size → k ≠ b → w'.heap[k]? = w.heap[k]?
theorem Kept.refl (b : Nat) (w : World) : Kept b w w := ⟨rfl, rfl, rfl, Nat.le_refl _, fun _ _ _ => rfl⟩
theorem Kept.trans {b : Nat} {a c d : World} (h : Kept b a c) (k : Kept b c d) : Kept b a d :=
  ⟨k.os.trans h.os, k.tape.trans h.tape, k.output.trans h.output, Nat.le_trans h.size k.size, fun i hi hb => (k.block i (Nat.lt_of_lt_of_le hi h.size) hb).trans (h.block i hi hb)⟩
theorem Kept.of {b : Nat} {w w' : World} (h : Below w.heap.size w w') : Kept b w w' := ⟨h.os, h.tape, h.output, h.size, fun k hk _ => h.block k hk⟩
theorem Kept.set (b o : Nat) (w : World) (v : Value) : Kept b w (w.setCell ⟨b, o, none⟩ v) := by
  have h := (Below.refl 0 w).setCell (p := ⟨b, o, none⟩) (Nat.zero_le _) v
  exact ⟨h.os, h.tape, h.output, h.size, fun k _ hb => Below.heap_setCell _ _ _ _ hb⟩
theorem Kept.below {b : Nat} {w w' : World} (h : Kept b w w') (B : Nat) (h1 : B ≤ b) (h2 : B ≤ w.heap.size) : Below B w w' :=
  ⟨h.os, h.tape, h.output, h.size, fun k hk => h.block k (by omega) (by omega)⟩
theorem Kept.drewN {b : Nat} {w w' : World} (n : Nat) (h : Kept b w w') : Kept b w (w'.drewN n) := ⟨h.os, h.tape, h.output, h.size, h.block⟩
theorem Kept.drew {b : Nat} {w w' : World} (h : Kept b w w') : Kept b w w'.drew := ⟨h.os, h.tape, h.output, h.size, h.block⟩
/-- The library's MaxLen is a whole number. -/
def MaxL (w : World) : Prop := ∃ m : Int, w.cell? ⟨0, 0, none⟩ = some (.int .i64 m)
def EnvT (w : World) : Prop := Win w ∧ MaxL w
theorem EnvT.belowB {w w' : World} {B : Nat} (h : EnvT w) (hb : Below B w w') (h1 : 3 < B) (h2 : 0 < B) : EnvT w' := by
  refine ⟨var?_below hb gWin h1 h.1, ?_⟩
  obtain ⟨m, hm⟩ := h.2
  exact ⟨m, (hb.cell (p := ⟨0, 0, none⟩) h2).trans hm⟩
theorem EnvT.below {w w' : World} (h : EnvT w) (hb : Below w.heap.size w w') : EnvT w' := h.belowB hb h.1.lt (cell_lt h.2.choose_spec)
theorem EnvT.lt {w : World} (h : EnvT w) : 3 < w.heap.size ∧ 0 < w.heap.size := ⟨h.1.lt, cell_lt h.2.choose_spec⟩
/-- The reader at b has l left, and the name a ahead. -/
structure Tr (b : Nat) (l a : List UInt8) (w : World) : Prop where
  at_ : w.heap[b]? = some (.cells #[.string (str l), .string (str a)] 96 (0, 0))
  len : l.length ≤ 1000000
  lo1 : 3 < b
  lo2 : 0 < b
  env : EnvT w
theorem Tr.lt {b : Nat} {l a : List UInt8} {w : World} (h : Tr b l a w) : b < w.heap.size := (Array.getElem?_eq_some_iff.1 h.at_).1
theorem Tr.c0 {b : Nat} {l a : List UInt8} {w : World} (h : Tr b l a w) : w.cell? ⟨b, 0, none⟩ = some (.string (str l)) := Lib.cell_of_heap h.at_ 0
theorem Tr.c1 {b : Nat} {l a : List UInt8} {w : World} (h : Tr b l a w) : w.cell? ⟨b, 1, none⟩ = some (.string (str a)) := Lib.cell_of_heap h.at_ 1
theorem Tr.free {b : Nat} {l a : List UInt8} {w : World} (h : Tr b l a w) (o : Nat) : w.frozen? ⟨b, o, none⟩ = false := Lib.frozen_of_heap h.at_ o
theorem Tr.envK {b : Nat} {l a : List UInt8} {w w' : World} (h : Tr b l a w) (hk : Kept b w w') : EnvT w' :=
  h.env.belowB (hk.below b (Nat.le_refl _) (Nat.le_of_lt h.lt)) h.lo1 h.lo2
theorem Tr.set {b : Nat} {l a : List UInt8} {w : World} (h : Tr b l a w) (r : List UInt8) (hr : r.length ≤ l.length) : Tr b r a (w.setCell ⟨b, 0, none⟩ (.string (str r))) :=
  ⟨Go.Joins.block_setCell h.at_ _, Nat.le_trans hr h.len, h.lo1, h.lo2, h.envK (Kept.set b 0 w _)⟩
theorem Tr.setA {b : Nat} {l a : List UInt8} {w : World} (h : Tr b l a w) (r : List UInt8) : Tr b l r (w.setCell ⟨b, 1, none⟩ (.string (str r))) :=
  ⟨Go.Joins.block_setCell h.at_ _, h.len, h.lo1, h.lo2, h.envK (Kept.set b 1 w _)⟩
theorem Tr.step {b : Nat} {l a : List UInt8} {w w' : World} (h : Tr b l a w) (hb : Below w.heap.size w w') : Tr b l a w' :=
  ⟨(hb.block b h.lt).trans h.at_, h.len, h.lo1, h.lo2, h.env.below hb⟩
/-- What stands elsewhere is kept. -/
theorem Kept.heap {b : Nat} {w w' : World} {k : Nat} {o : Obj} (h : Kept b w w') (hk : w.heap[k]? = some o) (hb : k ≠ b) : w'.heap[k]? = some o :=
  (h.block k (Array.getElem?_eq_some_iff.1 hk).1 hb).trans hk
theorem hideT {p : Prop} (h : p) : Hid p := h
theorem fd_le (m : List UInt8) : ∀ l : List UInt8, Tk.fd m l ≤ l.length
  | [] => Nat.le_refl _
  | c :: t => by
    rw [Tk.fd]
    split
    · exact Nat.zero_le _
    · have := fd_le m t
      rw [List.length_cons]; omega
theorem fd_index (m : List UInt8) (hm : m ≠ []) : ∀ l : List UInt8, (Lib.index l m = -1 ∧ Tk.fd m l = l.length) ∨ Lib.index l m = (Tk.fd m l : Int)
  | [] => by
    left
    cases m with
    | nil => exact absurd rfl hm
    | cons a m => exact ⟨rfl, rfl⟩
  | c :: t => by
    rw [Lib.index, Tk.fd]
    cases hp : m.isPrefixOf (c :: t)
    · simp only [Bool.false_eq_true, if_false]
      rcases fd_index m hm t with ⟨h1, h2⟩ | h
      · left
        rw [h1]
        exact ⟨rfl, by rw [h2]; rfl⟩
      · right
        have hq : ((Tk.fd m t : Int) == -1) = false := by rw [beq_eq_false_iff_ne]; omega
        rw [h, hq]
        simp
    · right
      rfl
theorem cut_fd (m l : List UInt8) (hm : m ≠ []) : (Lib.cut l m).1 = l.take (Tk.fd m l) ∧ (Lib.cut l m).2.1 = l.drop (Tk.fd m l + m.length) := by
  unfold Lib.cut
  rcases fd_index m hm l with ⟨h1, h2⟩ | h
  · rw [h1, h2, if_neg (by decide), List.take_length, List.drop_eq_nil_of_le (by omega)]
    exact ⟨rfl, rfl⟩
  · rw [h, if_pos (by omega), Int.toNat_natCast]
    exact ⟨rfl, rfl⟩
theorem Cut_l (l m : List UInt8) (w : World) (hM : EnvT w) (hz : l.length ≤ 1000000000) (hm : m ≠ []) :
    ∃ x, Calls Tryz.prog 126 #[.string (str l), .string (str m)] w fun e w' => e = .returned (.tuple #[.string (str (l.take (Tk.fd m l))), .string (str (l.drop (Tk.fd m l + m.length))), .bool x]) ∧ Below w.heap.size w w' := by
  obtain ⟨k, hk⟩ := hM.2
  have := Tryz.strings_Cut (str l) (str m) k w (by rw [str_size]; omega) hk
  rw [str_data, str_data, (cut_fd m l hm).1, (cut_fd m l hm).2] at this
  refine ⟨(Lib.cut l m).2.2, this.mono ?_⟩
  rintro e w' ⟨rfl, h⟩
  exact ⟨rfl, bel_quiet h⟩
theorem Index_l (l m : List UInt8) (w : World) (hM : EnvT w) (hz : l.length ≤ 1000000000) :
    Calls Tryz.prog 118 #[.string (str l), .string (str m)] w fun e w' => e = .returned (.int .i64 (Lib.index l m)) ∧ w' = w := by
  obtain ⟨k, hk⟩ := hM.2
  have := Tryz.strings_Index (str l) (str m) k w (by rw [str_size]; omega) hk
  rw [str_data, str_data] at this
  exact this
set_option maxHeartbeats 400000 in
theorem take_any {b : Nat} {l a : List UInt8} {w : World} (k : Nat) (h : Tr b l a w) (hk : k ≤ l.length) :
    Calls Tryz.prog 120 #[.pointer (some ⟨b, 0, none⟩), .int .i64 k] w fun e w' => e = .returned (.string (str (l.take k))) ∧ Tr b (l.drop k) a w' ∧ Kept b w w' := by
  have c0 := h.c0
  have f0 := h.free 0
  have hR := h.set (l.drop k) (by simp)
  have hz := str_size l
  have hlen := h.len
  have he1 : (str l).extract 0 k = str (l.take k) := str_to l k
  have he2 : (str l).extract k l.length = str (l.drop k) := str_from l k
  go_enter Tryz.func120, Tryz.ntmps120
  go_wp2
  go_ret
  exact ⟨rfl, hR, Kept.set b 0 w _⟩
set_option maxHeartbeats 400000 in
theorem took_any {b : Nat} {l a : List UInt8} {w : World} (p : List UInt8) (h : Tr b l a w) :
    Calls Tryz.prog 88 #[.pointer (some ⟨b, 0, none⟩), .string (str p)] w fun e w' => e = .returned (.bool (p.isPrefixOf l)) ∧ Tr b (if p.isPrefixOf l then l.drop p.length else l) a w' ∧ Kept b w w' := by
  have c0 := h.c0
  have f0 := h.free 0
  have hR := h.set (if p.isPrefixOf l then l.drop p.length else l) (by split <;> simp)
  have hC := CutPrefix_l l p
  generalize (if p.isPrefixOf l then l.drop p.length else l) = r at hR hC ⊢
  go_enter Tryz.func88, Tryz.ntmps88
  go_wp2_with (go_at_call 122; refine (hC _).mono ?_; rintro e w1 ⟨rfl, hw⟩; rw [hw]; clear hw)
  go_ret
  exact ⟨rfl, hR, Kept.set b 0 w _⟩
set_option maxHeartbeats 400000 in
theorem past_any {b : Nat} {l a : List UInt8} {w : World} (m : List UInt8) (hm : m ≠ []) (h : Tr b l a w) :
    Calls Tryz.prog 89 #[.pointer (some ⟨b, 0, none⟩), .string (str m)] w fun e w' => e = .returned (.string (str (l.take (Tk.fd m l)))) ∧ Tr b (l.drop (Tk.fd m l + m.length)) a w' ∧ Kept b w w' := by
  have c0 := h.c0
  have hlen := h.len
  obtain ⟨x, hC⟩ := Cut_l l m w h.env (by omega) hm
  have hdl : (l.drop (Tk.fd m l + m.length)).length ≤ l.length := by simp
  generalize l.drop (Tk.fd m l + m.length) = r at hC hdl ⊢
  generalize l.take (Tk.fd m l) = t at hC ⊢
  clear hm
  go_enter Tryz.func89, Tryz.ntmps89
  go_wp2_with (go_at_call 126; refine hC.mono ?_; rintro e w1 ⟨rfl, hb⟩; have h1 := h.step hb; have c1 := h1.c0; have f1 := h1.free 0; have hR := h1.set r hdl; clear c0)
  go_ret
  exact ⟨rfl, hR, (Kept.of hb).trans (Kept.set b 0 w1 _)⟩
theorem take_while (p : UInt8 → Bool) (l : List UInt8) : l.take (l.takeWhile p).length = l.takeWhile p ∧ l.drop (l.takeWhile p).length = l.dropWhile p := by
  have e := List.takeWhile_append_dropWhile (p := p) (l := l)
  constructor
  · conv => lhs; rw [← e]
    rw [List.take_append_of_le_length (by rw [e]; exact Nat.le_refl _)]
    rw [e, List.take_length]
  · conv => lhs; rw [← e]
    rw [List.drop_append_of_le_length (by rw [e]; exact Nat.le_refl _)]
    rw [e, List.drop_length, List.nil_append]
theorem tkw_le (p : UInt8 → Bool) (l : List UInt8) : (l.takeWhile p).length ≤ l.length := by
  have := congrArg List.length (List.takeWhile_append_dropWhile (p := p) (l := l))
  rw [List.length_append] at this
  omega
set_option maxHeartbeats 1000000 in
theorem while_tn {b : Nat} {l a : List UInt8} {w : World} (h : Tr b l a w) :
    Calls Tryz.prog 155 #[.pointer (some ⟨b, 0, none⟩), .func (.func 147) #[] #[]] w fun e w' => e = .returned (.string (str (l.takeWhile Tk.tn))) ∧ Tr b (l.dropWhile Tk.tn) a w' ∧ Kept b w w' := by
  have c0 := h.c0
  have hz := str_size l
  have hlen := h.len
  have hT := take_any (l.takeWhile Tk.tn).length h (tkw_le _ _)
  rw [(take_while Tk.tn l).1, (take_while Tk.tn l).2] at hT
  have HT := hideT hT
  clear hT
  go_enter Tryz.func155, Tryz.ntmps155
  go_wp2
  go_loop [5] (fun i => ∃ k : Nat, k ≤ l.length ∧ i = .int .i64 k ∧ Hid ((l.take k).all Tk.tn = true)) (fun i => l.length - (intOf i).toNat)
  case atStart => exact ⟨0, Nat.zero_le _, rfl, rfl⟩
  case round =>
    obtain ⟨k, hk, rfl, HE⟩ := hrel
    by_cases hlt : k < l.length
    · have hlt2 : k < (str l).size := by omega
      have hat : (str l)[k] = l[k] := rfl
      have hI := isOfNameT_any l[k]
      cases hx : Tk.tn l[k]
      · have HN : Hid ((l.takeWhile Tk.tn).length = k) := tw_stop _ _ k hlt HE.out hx
        rw [hx] at hI
        have hK := HT.out
        rw [HN.out] at hK
        clear hx HE HN HT
        go_wp2_with (first
          | (go_at_call 147; (try rw [hat]); refine (hI _).mono ?_; rintro e w1 ⟨rfl, hw⟩; rw [hw]; clear hw)
          | (go_at_call 120; refine hK.mono ?_; rintro e w2 ⟨rfl, h2, k2⟩))
        go_ret
        exact ⟨rfl, h2, k2⟩
      · have HN : Hid ((l.take (k + 1)).all Tk.tn = true) := take_all_step _ _ k hlt HE.out hx
        rw [hx] at hI
        clear hx HE
        go_wp2_with (go_at_call 147; (try rw [hat]); refine (hI _).mono ?_; rintro e w1 ⟨rfl, hw⟩; rw [hw]; clear hw)
        go_round
        case rel => exact ⟨k + 1, by omega, by go_num, HN⟩
        case measure => simp [intOf]; omega
    · have HN : Hid ((l.takeWhile Tk.tn).length = k) := by
        have h := HE.out
        rw [List.take_of_length_le (by omega)] at h
        show _ = _
        rw [tw_all _ _ h]
        omega
      have hK := HT.out
      rw [HN.out] at hK
      clear HE HN HT
      go_wp2_with (go_at_call 120; refine hK.mono ?_; rintro e w2 ⟨rfl, h2, k2⟩)
      go_ret
      exact ⟨rfl, h2, k2⟩
set_option maxHeartbeats 1000000 in
theorem while_gap {b : Nat} {l a : List UInt8} {w : World} (h : Tr b l a w) :
    Calls Tryz.prog 155 #[.pointer (some ⟨b, 0, none⟩), .func (.func 156) #[] #[]] w fun e w' => e = .returned (.string (str (l.takeWhile gp))) ∧ Tr b (l.dropWhile gp) a w' ∧ Kept b w w' := by
  have c0 := h.c0
  have hz := str_size l
  have hlen := h.len
  have hT := take_any (l.takeWhile gp).length h (tkw_le _ _)
  rw [(take_while gp l).1, (take_while gp l).2] at hT
  have HT := hideT hT
  clear hT
  go_enter Tryz.func155, Tryz.ntmps155
  go_wp2
  go_loop [5] (fun i => ∃ k : Nat, k ≤ l.length ∧ i = .int .i64 k ∧ Hid ((l.take k).all gp = true)) (fun i => l.length - (intOf i).toNat)
  case atStart => exact ⟨0, Nat.zero_le _, rfl, rfl⟩
  case round =>
    obtain ⟨k, hk, rfl, HE⟩ := hrel
    by_cases hlt : k < l.length
    · have hlt2 : k < (str l).size := by omega
      have hat : (str l)[k] = l[k] := rfl
      have hI := isOfGap_any l[k]
      cases hx : gp l[k]
      · have HN : Hid ((l.takeWhile gp).length = k) := tw_stop _ _ k hlt HE.out hx
        rw [hx] at hI
        have hK := HT.out
        rw [HN.out] at hK
        clear hx HE HN HT
        go_wp2_with (first
          | (go_at_call 156; (try rw [hat]); refine (hI _).mono ?_; rintro e w1 ⟨rfl, hw⟩; rw [hw]; clear hw)
          | (go_at_call 120; refine hK.mono ?_; rintro e w2 ⟨rfl, h2, k2⟩))
        go_ret
        exact ⟨rfl, h2, k2⟩
      · have HN : Hid ((l.take (k + 1)).all gp = true) := take_all_step _ _ k hlt HE.out hx
        rw [hx] at hI
        clear hx HE
        go_wp2_with (go_at_call 156; (try rw [hat]); refine (hI _).mono ?_; rintro e w1 ⟨rfl, hw⟩; rw [hw]; clear hw)
        go_round
        case rel => exact ⟨k + 1, by omega, by go_num, HN⟩
        case measure => simp [intOf]; omega
    · have HN : Hid ((l.takeWhile gp).length = k) := by
        have h := HE.out
        rw [List.take_of_length_le (by omega)] at h
        show _ = _
        rw [tw_all _ _ h]
        omega
      have hK := HT.out
      rw [HN.out] at hK
      clear HE HN HT
      go_wp2_with (go_at_call 120; refine hK.mono ?_; rintro e w2 ⟨rfl, h2, k2⟩)
      go_ret
      exact ⟨rfl, h2, k2⟩
set_option maxHeartbeats 1000000 in
theorem while_an {b : Nat} {l a : List UInt8} {w : World} (h : Tr b l a w) :
    Calls Tryz.prog 155 #[.pointer (some ⟨b, 0, none⟩), .func (.func 183) #[] #[]] w fun e w' => e = .returned (.string (str (l.takeWhile Tk.an))) ∧ Tr b (l.dropWhile Tk.an) a w' ∧ Kept b w w' := by
  have c0 := h.c0
  have hz := str_size l
  have hlen := h.len
  have hT := take_any (l.takeWhile Tk.an).length h (tkw_le _ _)
  rw [(take_while Tk.an l).1, (take_while Tk.an l).2] at hT
  have HT := hideT hT
  clear hT
  go_enter Tryz.func155, Tryz.ntmps155
  go_wp2
  go_loop [5] (fun i => ∃ k : Nat, k ≤ l.length ∧ i = .int .i64 k ∧ Hid ((l.take k).all Tk.an = true)) (fun i => l.length - (intOf i).toNat)
  case atStart => exact ⟨0, Nat.zero_le _, rfl, rfl⟩
  case round =>
    obtain ⟨k, hk, rfl, HE⟩ := hrel
    by_cases hlt : k < l.length
    · have hlt2 : k < (str l).size := by omega
      have hat : (str l)[k] = l[k] := rfl
      have hI := isOfAttrName_any l[k]
      cases hx : Tk.an l[k]
      · have HN : Hid ((l.takeWhile Tk.an).length = k) := tw_stop _ _ k hlt HE.out hx
        rw [hx] at hI
        have hK := HT.out
        rw [HN.out] at hK
        clear hx HE HN HT
        go_wp2_with (first
          | (go_at_call 183; (try rw [hat]); refine (hI _).mono ?_; rintro e w1 ⟨rfl, hw⟩; rw [hw]; clear hw)
          | (go_at_call 120; refine hK.mono ?_; rintro e w2 ⟨rfl, h2, k2⟩))
        go_ret
        exact ⟨rfl, h2, k2⟩
      · have HN : Hid ((l.take (k + 1)).all Tk.an = true) := take_all_step _ _ k hlt HE.out hx
        rw [hx] at hI
        clear hx HE
        go_wp2_with (go_at_call 183; (try rw [hat]); refine (hI _).mono ?_; rintro e w1 ⟨rfl, hw⟩; rw [hw]; clear hw)
        go_round
        case rel => exact ⟨k + 1, by omega, by go_num, HN⟩
        case measure => simp [intOf]; omega
    · have HN : Hid ((l.takeWhile Tk.an).length = k) := by
        have h := HE.out
        rw [List.take_of_length_le (by omega)] at h
        show _ = _
        rw [tw_all _ _ h]
        omega
      have hK := HT.out
      rw [HN.out] at hK
      clear HE HN HT
      go_wp2_with (go_at_call 120; refine hK.mono ?_; rintro e w2 ⟨rfl, h2, k2⟩)
      go_ret
      exact ⟨rfl, h2, k2⟩
set_option maxHeartbeats 1000000 in
theorem while_vn {b : Nat} {l a : List UInt8} {w : World} (h : Tr b l a w) :
    Calls Tryz.prog 155 #[.pointer (some ⟨b, 0, none⟩), .func (.func 198) #[] #[]] w fun e w' => e = .returned (.string (str (l.takeWhile Tk.vn))) ∧ Tr b (l.dropWhile Tk.vn) a w' ∧ Kept b w w' := by
  have c0 := h.c0
  have hz := str_size l
  have hlen := h.len
  have hT := take_any (l.takeWhile Tk.vn).length h (tkw_le _ _)
  rw [(take_while Tk.vn l).1, (take_while Tk.vn l).2] at hT
  have HT := hideT hT
  clear hT
  go_enter Tryz.func155, Tryz.ntmps155
  go_wp2
  go_loop [5] (fun i => ∃ k : Nat, k ≤ l.length ∧ i = .int .i64 k ∧ Hid ((l.take k).all Tk.vn = true)) (fun i => l.length - (intOf i).toNat)
  case atStart => exact ⟨0, Nat.zero_le _, rfl, rfl⟩
  case round =>
    obtain ⟨k, hk, rfl, HE⟩ := hrel
    by_cases hlt : k < l.length
    · have hlt2 : k < (str l).size := by omega
      have hat : (str l)[k] = l[k] := rfl
      have hI := isOfValue_any l[k]
      cases hx : Tk.vn l[k]
      · have HN : Hid ((l.takeWhile Tk.vn).length = k) := tw_stop _ _ k hlt HE.out hx
        rw [hx] at hI
        have hK := HT.out
        rw [HN.out] at hK
        clear hx HE HN HT
        go_wp2_with (first
          | (go_at_call 198; (try rw [hat]); refine (hI _).mono ?_; rintro e w1 ⟨rfl, hw⟩; rw [hw]; clear hw)
          | (go_at_call 120; refine hK.mono ?_; rintro e w2 ⟨rfl, h2, k2⟩))
        go_ret
        exact ⟨rfl, h2, k2⟩
      · have HN : Hid ((l.take (k + 1)).all Tk.vn = true) := take_all_step _ _ k hlt HE.out hx
        rw [hx] at hI
        clear hx HE
        go_wp2_with (go_at_call 198; (try rw [hat]); refine (hI _).mono ?_; rintro e w1 ⟨rfl, hw⟩; rw [hw]; clear hw)
        go_round
        case rel => exact ⟨k + 1, by omega, by go_num, HN⟩
        case measure => simp [intOf]; omega
    · have HN : Hid ((l.takeWhile Tk.vn).length = k) := by
        have h := HE.out
        rw [List.take_of_length_le (by omega)] at h
        show _ = _
        rw [tw_all _ _ h]
        omega
      have hK := HT.out
      rw [HN.out] at hK
      clear HE HN HT
      go_wp2_with (go_at_call 120; refine hK.mono ?_; rintro e w2 ⟨rfl, h2, k2⟩)
      go_ret
      exact ⟨rfl, h2, k2⟩
set_option maxHeartbeats 1000000 in
theorem while_blank {b : Nat} {l a : List UInt8} {w : World} (h : Tr b l a w) :
    Calls Tryz.prog 155 #[.pointer (some ⟨b, 0, none⟩), .func (.func 180) #[] #[]] w fun e w' => e = .returned (.string (str (l.takeWhile Asc.isBlank))) ∧ Tr b (l.dropWhile Asc.isBlank) a w' ∧ Kept b w w' := by
  have c0 := h.c0
  have hz := str_size l
  have hlen := h.len
  have hT := take_any (l.takeWhile Asc.isBlank).length h (tkw_le _ _)
  rw [(take_while Asc.isBlank l).1, (take_while Asc.isBlank l).2] at hT
  have HT := hideT hT
  clear hT
  go_enter Tryz.func155, Tryz.ntmps155
  go_wp2
  go_loop [5] (fun i => ∃ k : Nat, k ≤ l.length ∧ i = .int .i64 k ∧ Hid ((l.take k).all Asc.isBlank = true)) (fun i => l.length - (intOf i).toNat)
  case atStart => exact ⟨0, Nat.zero_le _, rfl, rfl⟩
  case round =>
    obtain ⟨k, hk, rfl, HE⟩ := hrel
    by_cases hlt : k < l.length
    · have hlt2 : k < (str l).size := by omega
      have hat : (str l)[k] = l[k] := rfl
      have hI := IsBlank_any l[k]
      cases hx : Asc.isBlank l[k]
      · have HN : Hid ((l.takeWhile Asc.isBlank).length = k) := tw_stop _ _ k hlt HE.out hx
        rw [hx] at hI
        have hK := HT.out
        rw [HN.out] at hK
        clear hx HE HN HT
        go_wp2_with (first
          | (go_at_call 180; (try rw [hat]); refine (hI _).mono ?_; rintro e w1 ⟨rfl, hw⟩; rw [hw]; clear hw)
          | (go_at_call 120; refine hK.mono ?_; rintro e w2 ⟨rfl, h2, k2⟩))
        go_ret
        exact ⟨rfl, h2, k2⟩
      · have HN : Hid ((l.take (k + 1)).all Asc.isBlank = true) := take_all_step _ _ k hlt HE.out hx
        rw [hx] at hI
        clear hx HE
        go_wp2_with (go_at_call 180; (try rw [hat]); refine (hI _).mono ?_; rintro e w1 ⟨rfl, hw⟩; rw [hw]; clear hw)
        go_round
        case rel => exact ⟨k + 1, by omega, by go_num, HN⟩
        case measure => simp [intOf]; omega
    · have HN : Hid ((l.takeWhile Asc.isBlank).length = k) := by
        have h := HE.out
        rw [List.take_of_length_le (by omega)] at h
        show _ = _
        rw [tw_all _ _ h]
        omega
      have hK := HT.out
      rw [HN.out] at hK
      clear HE HN HT
      go_wp2_with (go_at_call 120; refine hK.mono ?_; rintro e w2 ⟨rfl, h2, k2⟩)
      go_ret
      exact ⟨rfl, h2, k2⟩
end Go.Proofs.YtiodaahncadodaaGreatDoor
