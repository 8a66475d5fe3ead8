/- Texts laid as one. -/
import Derived.Test.YtpnmiknikkhliaaDoorKGround
import Derived.Lib.FrozenHead2
import Derived.Test.YtpnmiknikkhliaaDoorKYa
import Derived.Maps.Own
import Derived.Maps.OwnSet
import Derived.Deep.MidRow
import Derived.Deep.AppendLies
import Derived.Laws.OwnMore
import Derived.Deep.RegionLaw
/- Contracts of a builder's WriteByte and WriteString. -/
set_option linter.unusedVariables false
set_option linter.unusedSimpArgs false
namespace Go.Proofs.YtpnmiknikkhliaaDoor
open Go.RowKit
set_option maxHeartbeats 4000000 in
set_option maxRecDepth 100000 in
theorem WriteByte_k (B b : Nat) (bs : List Value) (c : Int) (w : World) (h : Lib.IsBuilderF 84 5 B b bs w) (hlen : bs.length + 1 ≤ 140737488355328) (hBw : B ≤ w.heap.size) :
    Calls Tryd.prog 56 #[.pointer (some ⟨b, 0, none⟩), .int .u8 c] w fun e w' => e = .returned .nilIface ∧ (Lib.BuilderAtF 84 5 B b (.pointer (some ⟨b, 0, none⟩)) (bs ++ [.int .u8 c]) w' ∧ Below B w w' ∧ Lib.OthersKept 5 (some b) w w') := by
  obtain ⟨i0, hi, hz0, hz1, hz2⟩ := info_parts infoByte
  go_enter Tryd.func56, Tryd.ntmps56
  go_wp2_with (go_at_call 76; refine (copyCheck_k B b bs _ h).mono ?_)
  rintro e w1 ⟨rfl, ⟨hB, v, hbk, hown, hne⟩, hb1, hk1⟩
  have hsz := hb1.size
  have c0 : w1.cell? ⟨b, 0, none⟩ = some (.pointer (some ⟨b, 0, none⟩)) := by rw [Lib.cell_of_heap hbk]; rfl
  have c1 : w1.cell? ⟨b, 1, none⟩ = some v := by rw [Lib.cell_of_heap hbk]; rfl
  have hlt : b < w1.heap.size := (Array.getElem?_eq_some_iff.1 hbk).1
  go_wp2_with (at_builtin; refine wpList_append_ownF _ rfl _ _ 45 rfl B 5 i0 (.int .u8 0) 1 1 Tryd.underlying45 hi hz0 hz1 hz2 rfl (by decide) _ _ _ rfl (hown.alloc _) ⟨w1.heap.size, 0, none⟩ 1 1 [.int .u8 c] rfl rfl (cell_one_new _ _ _) (fun x hx => by simp at hx; subst hx; rfl) (by unfold maxLen; omega) (by omega) (by simp; omega) ?_)
  intro v' w2 hown' hgrow _
  have hb2 : w2.heap[b]? = some (.cells #[.pointer (some ⟨b, 0, none⟩), v] 84 (0, 0)) := by
    rw [hgrow.block b (by simp; omega) (fun e => hne e.symm), Lib.alloc_old w1 _ b hlt]
    exact hbk
  have d0 : w2.cell? ⟨b, 0, none⟩ = some (.pointer (some ⟨b, 0, none⟩)) := by rw [Lib.cell_of_heap hb2]; rfl
  have d1 : w2.cell? ⟨b, 1, none⟩ = some v := by rw [Lib.cell_of_heap hb2]; rfl
  have f1 : w2.frozen? ⟨b, 1, none⟩ = false := Lib.frozen_of_heap hb2 1
  obtain ⟨g, cap, rfl⟩ : ∃ g cap, v' = .slice (some ⟨g, 0, none⟩) (bs.length + 1) cap := by
    rcases hown'.2 with ⟨_, h0⟩ | ⟨g, cap, cur, fz, hv, _⟩
    · omega
    · exact ⟨g, cap, hv⟩
  go_wp2
  go_ret
  refine ⟨rfl, ?_, ?_, ((hk1.alloc _).grown hgrow (Lib.ownsRowF_kind (hown.alloc _))).setCell ⟨b, 1, none⟩ rfl _⟩
  · exact Lib.BuilderAtF.put (T := 84) (e := 5) hB hb2 (bs' := bs ++ [.int .u8 c]) (by simpa using hown') (by decide)
  · exact ((hb1.alloc (by omega) _).grown hgrow (by simp; omega) (fun k hk => (hown.lt k hk).1)).setCell (p := ⟨b, 1, none⟩) hB _
set_option maxHeartbeats 4000000 in
set_option maxRecDepth 100000 in
theorem WriteString_k (B b : Nat) (bs : List Value) (s : ByteArray) (w : World) (h : Lib.IsBuilderF 84 5 B b bs w) (hlen : bs.length + s.size ≤ 140737488355328) (hBw : B ≤ w.heap.size) :
    Calls Tryd.prog 58 #[.pointer (some ⟨b, 0, none⟩), .string s] w fun e w' => e = .returned (.tuple #[.int .i64 s.size, .nilIface]) ∧ (Lib.BuilderAtF 84 5 B b (.pointer (some ⟨b, 0, none⟩)) (bs ++ Lib.strCells s) w' ∧ Below B w w' ∧ Lib.OthersKept 5 (some b) w w') := by
  obtain ⟨i0, hi, hz0, hz1, hz2⟩ := info_parts infoByte
  go_enter Tryd.func58, Tryd.ntmps58
  go_wp2_with (go_at_call 76; refine (copyCheck_k B b bs _ h).mono ?_)
  rintro e w1 ⟨rfl, ⟨hB, v, hbk, hown, hne⟩, hb1, hk1⟩
  have hsz := hb1.size
  have c0 : w1.cell? ⟨b, 0, none⟩ = some (.pointer (some ⟨b, 0, none⟩)) := by rw [Lib.cell_of_heap hbk]; rfl
  have c1 : w1.cell? ⟨b, 1, none⟩ = some v := by rw [Lib.cell_of_heap hbk]; rfl
  have hlt : b < w1.heap.size := (Array.getElem?_eq_some_iff.1 hbk).1
  go_wp2_with (at_builtin; refine Lib.wpList_append_own_stringF _ rfl _ _ 45 9 rfl B 5 i0 Tryd.underlying45 Tryd.underlying9 hi hz0 hz1 hz2 _ _ _ rfl hown s rfl (by unfold maxLen; omega) (by omega) (by omega) ?_)
  intro v' w2 hown' hgrow _
  have hb2 : w2.heap[b]? = some (.cells #[.pointer (some ⟨b, 0, none⟩), v] 84 (0, 0)) := by
    rw [hgrow.block b hlt (fun e => hne e.symm)]
    exact hbk
  have d0 : w2.cell? ⟨b, 0, none⟩ = some (.pointer (some ⟨b, 0, none⟩)) := by rw [Lib.cell_of_heap hb2]; rfl
  have d1 : w2.cell? ⟨b, 1, none⟩ = some v := by rw [Lib.cell_of_heap hb2]; rfl
  have f1 : w2.frozen? ⟨b, 1, none⟩ = false := Lib.frozen_of_heap hb2 1
  obtain ⟨ao, n', cap, rfl⟩ : ∃ ao n' cap, v' = .slice ao n' cap := by
    rcases hown'.2 with ⟨hv, _⟩ | ⟨g, cap, cur, fz, hv, _⟩
    · exact ⟨_, _, _, hv⟩
    · exact ⟨_, _, _, hv⟩
  go_wp2
  go_ret2
  refine ⟨rfl, ?_, ?_, (hk1.grown hgrow (Lib.ownsRowF_kind hown)).setCell ⟨b, 1, none⟩ rfl _⟩
  · exact Lib.BuilderAtF.put (T := 84) (e := 5) hB hb2 (bs' := bs ++ Lib.strCells s) (by simpa [Lib.strCells_length] using hown') (by decide)
  · exact (hb1.grown hgrow (by omega) (fun k hk => (hown.lt k hk).1)).setCell (p := ⟨b, 1, none⟩) hB _
end Go.Proofs.YtpnmiknikkhliaaDoor
/- The contract of the parser's quoted. -/
set_option linter.unusedVariables false
set_option linter.unusedSimpArgs false
namespace Go.Proofs.YtpnmiknikkhliaaDoor
open Go.RowKit
theorem builder_keep {T e : TypeId} {B b : Nat} {bs : List Value} {w w' : World} (h : Lib.IsBuilderF T e B b bs w) (hk : ∀ k, B ≤ k → k < w.heap.size → w'.heap[k]? = w.heap[k]?) : Lib.IsBuilderF T e B b bs w' := by
  have hx : ∀ {o : Nat} {x : _}, B ≤ o → w.heap[o]? = some x → w'.heap[o]? = some x := fun {o x} ho hx => (hk o ho (Array.getElem?_eq_some_iff.1 hx).1).trans hx
  have hy : ∀ p, Lib.BuilderAtF T e B b p bs w → Lib.BuilderAtF T e B b p bs w' := by
    rintro p ⟨hB, v, hb, hown, hne⟩
    refine ⟨hB, v, hx hB hb, ⟨hown.1, ?_⟩, hne⟩
    rcases hown.2 with h | ⟨g, cap, cur, fz, h1, h2, h3, h4⟩
    · exact .inl h
    · exact .inr ⟨g, cap, cur, fz, h1, h2, hx h2 h3, h4⟩
  exact h.imp (hy _) (hy _)
theorem Kept.behind {b : Nat} {w w' w'' : World} (h : Kept b w w') (hb : Below w.heap.size w' w'') : Kept b w w'' :=
  ⟨hb.os.trans h.os, hb.tape.trans h.tape, hb.output.trans h.output, Nat.le_trans h.size hb.size, fun k hk hne => (hb.block k hk).trans (h.block k hk hne)⟩
theorem Ps.behind {b n B : Nat} {s l : List UInt8} {w w' : World} (h : Ps b s l n w) (hB : b < B) (hb : Below B w w') : Ps b s l n w' :=
  ⟨(hb.block b hB).trans h.at_, h.suf, h.len, h.cnt⟩
/-- How much is left, off the parser's own cell. -/
def leftOf (b : Nat) (s : List UInt8) (w : World) : Nat := match w.cell? ⟨b, 1, none⟩ with
  | some (.int _ q) => s.length - q.toNat
  | _ => 0
theorem Ps.left {b n : Nat} {s l : List UInt8} {w : World} (h : Ps b s l n w) : leftOf b s w = l.length := by
  obtain ⟨p, hp, c1⟩ := h.c1
  unfold leftOf
  rw [c1]
  simp
  omega
theorem quoted_q {x : Jsn.R (List UInt8)} {acc t : List UInt8} : x.map (acc ++ t ++ ·) = (x.map (t ++ ·)).map (acc ++ ·) := by
  cases x with
  | ok a l => simp [Jsn.R.map]
  | err y k => rfl
theorem sign_bd {m : Nat} {l z : List UInt8} {x : Int} (h : Jsn.signR m l = .ok x z) : 0 ≤ x ∧ x ≤ 1114111 := by
  unfold Jsn.signR at h
  cases h1 : Jsn.four m 4 0 l with
  | err y k => rw [h1] at h; cases h
  | ok s l1 =>
    rw [h1] at h
    have hb := four_bd4 h1
    dsimp only [Jsn.R.bind] at h
    split at h
    · cases h; omega
    · split at h
      · cases h
      · cases h2 : Jsn.mustR m 92 l1 with
        | err y k => rw [h2] at h; cases h
        | ok _ l2 =>
          rw [h2] at h
          dsimp only at h
          cases h3 : Jsn.mustR m 117 l2 with
          | err y k => rw [h3] at h; cases h
          | ok _ l3 =>
            rw [h3] at h
            dsimp only at h
            cases h4 : Jsn.four m 4 0 l3 with
            | err y k => rw [h4] at h; cases h
            | ok g l4 =>
              rw [h4] at h
              have hb4 := four_bd4 h4
              dsimp only at h
              split at h
              · cases h
              · cases h; omega
theorem esc_bd {m : Nat} {l z : List UInt8} {x : Int} (h : Jsn.escR m l = .ok x z) : 0 ≤ x ∧ x ≤ 1114111 := by
  cases l with
  | nil => cases h
  | cons c r =>
    unfold Jsn.escR at h
    dsimp only at h
    split at h
    · rename_i v hv
      cases h
      rcases simple_yes c _ hv with ⟨_, rfl⟩ | ⟨_, rfl⟩ | ⟨_, rfl⟩ | ⟨_, rfl⟩ | ⟨_, rfl⟩ | ⟨_, rfl⟩ | ⟨_, rfl⟩ | ⟨_, rfl⟩ <;> decide
    · split at h
      · exact sign_bd h
      · cases h
set_option maxHeartbeats 4000000 in
theorem quoted_any {b n : Nat} {s r0 : List UInt8} {x : UInt8} {w : World} (h : Ps b s (x :: r0) n w) :
    Calls Tryd.prog 51 #[.pointer (some ⟨b, 0, none⟩)] w fun e w' => Kept b w w' ∧ Ans (Jsn.quotedR r0) (fun t z => e = .returned (.string (str t)) ∧ Ps b s z n w') (fun y k => e = boom s y k) := by
  obtain ⟨f, hf, c1⟩ := h.c1
  simp only [List.length_cons] at hf
  have f1 := h.free 1
  have hlen := h.len
  have hbl := h.lt
  generalize hX : Jsn.quotedR r0 = X
  have HX : Hid (X = (Jsn.quotedR r0).map (([] : List UInt8) ++ ·)) := by
    show _ = _
    rw [← hX]
    cases Jsn.quotedR r0 <;> rfl
  clear hX
  have hA := h.tail f hf
  have hsz : (w.setCell ⟨b, 1, none⟩ (.int .i64 ((f : Int) + 1))).heap.size = w.heap.size := by simp
  have hI := Lib.IsBuilderF.of (Lib.fresh_isBuilder 84 5 (w.setCell ⟨b, 1, none⟩ (.int .i64 ((f : Int) + 1))))
  have hT := hA.step ((Below.refl _ _).alloc (o := .cells #[.pointer none, .slice none 0 0] 84) (Nat.le_refl _))
  have hKT := (Kept.set b 1 w (.int .i64 ((f : Int) + 1))).trans (Kept.of (b := b) ((Below.refl _ _).alloc (o := .cells #[.pointer none, .slice none 0 0] 84) (Nat.le_refl _)))
  rw [hsz] at hI
  have HSZ := show Hid _ from hsz
  clear hsz
  go_enter Tryd.func51, Tryd.ntmps51
  go_wp2
  go_loopw [] (fun wr => ∃ (acc z : List UInt8), Lib.IsBuilderF 84 5 w.heap.size w.heap.size (Lib.byteCells acc) wr ∧ Ps b s z n wr ∧ Kept b w wr ∧ Hid (X = (Jsn.quotedR z).map (acc ++ ·)) ∧ acc.length + 4 * z.length ≤ 4 * s.length) (fun wr => leftOf b s wr)
  case atStart => exact ⟨[], r0, hI, hT, hKT, HX, by simp; omega⟩
  case round =>
    obtain ⟨acc, z, hI, hP, hK, HE, hac⟩ := hrel
    clear hA hT hKT HX HSZ
    have hws := hK.size
    cases z with
    | nil =>
      have HY : Hid (X = .err 4 0) := by show _ = _; rw [HE.out, Jsn.quotedR_nil]; rfl
      go_wp2_with (first
        | (go_at_call 65; refine (peek_end hP).mono ?_; rintro e w1 ⟨rfl, hK1⟩))
      exact ⟨rfl, hK.trans hK1, by rw [HY.out]; rfl⟩
    | cons c r =>
      have hE := HE.out
      rw [Jsn.quotedR_cons] at hE
      have hpk := peek_ok hP
      simp only [List.length_cons] at hac
      by_cases h34 : c = 34
      · rw [if_pos h34] at hE
        have HY : Hid (X = .ok acc r) := by show _ = _; rw [hE]; show Jsn.R.ok (acc ++ []) r = _; rw [List.append_nil]
        subst h34
        clear hE HE
        go_wp2_with (first
          | (go_at_call 65; refine hpk.mono ?_; rintro e w1 ⟨rfl, hP1, hK1⟩; obtain ⟨p, hp, d1⟩ := hP1.c1; simp only [List.length_cons] at hp; have e1 := hP1.free 1; have hT1 := hP1.tail p hp; have hI1 := builder_keep hI (fun k hk hlt => hK1.block k hlt (by omega)); have hI2 := builder_keep (w' := w1.setCell ⟨b, 1, none⟩ (.int .i64 ((p : Int) + 1))) hI1 (fun k hk _ => Below.heap_setCell _ _ _ _ (by show k ≠ b; omega)); have hs1 := hK1.size)
          | (go_at_call 59; refine (Tryd.Builder_String_any_k w.heap.size w.heap.size acc _ hI2 (by simp; omega)).mono ?_; rintro e w2 ⟨rfl, _, hb2, _⟩))
        go_ret
        exact ⟨((hK.trans hK1).trans (Kept.set _ _ _ _)).behind hb2, by rw [HY.out]; exact ⟨rfl, hT1.behind hbl hb2⟩⟩
      · rw [if_neg h34] at hE
        have q34 : ((c.toNat : Int) == 34) = false := ne_byte h34
        by_cases h92 : c = 92
        · rw [if_pos h92] at hE
          subst h92
          have hes := fun w (hP : Ps b s (92 :: r) n w) => escaped_any hP
          cases hz : Jsn.escR (r.length + 1) r with
          | err y k =>
            have HY : Hid (X = .err y k) := by show _ = _; rw [hE, hz]; rfl
            clear hE HE
            go_wp2_with (first
              | (go_at_call 65; refine hpk.mono ?_; rintro e w1 ⟨rfl, hP1, hK1⟩)
              | (go_at_call 69; refine (hes _ hP1).mono ?_; rintro e w2 ⟨hK2, hA2⟩; rw [hz] at hA2; replace hA2 : e = boom s y k := hA2; subst hA2))
            exact ⟨rfl, (hK.trans hK1).trans hK2, by rw [HY.out]; rfl⟩
          | ok v z =>
            have hbd := esc_bd hz
            have hzl := Jsn.esc_len hz
            have hel := Utf.enc_len v
            have HY : Hid (X = (Jsn.quotedR z).map ((acc ++ Lib.encodeRune v) ++ ·)) := by show _ = _; rw [hE, hz, quoted_q]; rfl
            clear hE HE
            go_wp2_with (first
              | (go_at_call 65; refine hpk.mono ?_; rintro e w1 ⟨rfl, hP1, hK1⟩; have hs1 := hK1.size)
              | (go_at_call 69; refine (hes _ hP1).mono ?_; rintro e w2 ⟨hK2, hA2⟩; rw [hz] at hA2; obtain ⟨rfl, hP2⟩ := hA2; have hI2 := builder_keep hI (fun k hk hlt => (hK1.trans hK2).block k hlt (by omega)); have hs2 := hK2.size)
              | (go_at_call 68; refine (WriteRune_k w.heap.size w.heap.size _ v (by omega) (by omega) _ hI2 (by rw [Lib.byteCells_length]; omega) (by omega)).mono ?_; rintro e w3 ⟨rfl, hB3, hb3, _⟩))
            go_roundw
            case rel =>
              refine ⟨acc ++ Lib.encodeRune v, z, .inr ?_, hP2.behind hbl hb3, ((hK.trans hK1).trans hK2).behind hb3, HY, by simp only [List.length_append]; omega⟩
              rw [Lib.byteCells_append, Lib.byteCells_encodeRune]
              exact hB3
            case measure =>
              rw [(hP2.behind hbl hb3).left, hP.left]
              simp only [List.length_cons]
              omega
        · rw [if_neg h92] at hE
          have q92 : ((c.toNat : Int) == 92) = false := ne_byte h92
          by_cases h32 : c < 32
          · rw [if_pos h32] at hE
            have HY : Hid (X = .err 3 (r.length + 1)) := hE
            have q32 : (c.toNat : Int) < 32 := by have := UInt8.lt_iff_toNat_lt.1 h32; simp at this; omega
            clear hE HE
            go_wp2_with (first
              | (go_at_call 65; refine hpk.mono ?_; rintro e w1 ⟨rfl, hP1, hK1⟩; obtain ⟨p, hp, d1⟩ := hP1.c1; simp only [List.length_cons] at hp))
            obtain rfl : p = s.length - (r.length + 1) := by omega
            exact ⟨rfl, hK.trans hK1, by rw [HY.out]; rfl⟩
          · rw [if_neg h32] at hE
            have q32 : ¬ (c.toNat : Int) < 32 := by
              intro e
              apply h32
              rw [UInt8.lt_iff_toNat_lt]
              simp
              omega
            have HY : Hid (X = (Jsn.quotedR r).map ((acc ++ [c]) ++ ·)) := by show _ = _; rw [hE, quoted_q]; rfl
            clear hE HE
            go_wp2_with (first
              | (go_at_call 65; refine hpk.mono ?_; rintro e w1 ⟨rfl, hP1, hK1⟩; obtain ⟨p, hp, d1⟩ := hP1.c1; simp only [List.length_cons] at hp; have e1 := hP1.free 1; have hT1 := hP1.tail p hp; have hI1 := builder_keep hI (fun k hk hlt => hK1.block k hlt (by omega)); have hI2 := builder_keep (w' := w1.setCell ⟨b, 1, none⟩ (.int .i64 ((p : Int) + 1))) hI1 (fun k hk _ => Below.heap_setCell _ _ _ _ (by show k ≠ b; omega)); have hs1 := hK1.size)
              | (go_at_call 56; refine (WriteByte_k w.heap.size w.heap.size _ _ _ hI2 (by rw [Lib.byteCells_length]; omega) (by simp; omega)).mono ?_; rintro e w3 ⟨rfl, hB3, hb3, _⟩))
            go_roundw
            case rel =>
              refine ⟨acc ++ [c], r, .inr ?_, hT1.behind hbl hb3, ((hK.trans hK1).trans (Kept.set _ _ _ _)).behind hb3, HY, by simp only [List.length_append, List.length_singleton]; omega⟩
              rw [Lib.byteCells_append]
              exact hB3
            case measure =>
              rw [(hT1.behind hbl hb3).left, hP.left]
              simp only [List.length_cons]
              omega
end Go.Proofs.YtpnmiknikkhliaaDoor
/- A set of keys in memory; the contracts of isNew and of the parser's key. -/
set_option linter.unusedVariables false
set_option linter.unusedSimpArgs false
namespace Go.Proofs.YtpnmiknikkhliaaDoor
open Go.RowKit Go.Maps Go.WideMaps
theorem lawS : Keyed Tryd.prog 9 := string_keyed Tryd.underlying9
/-- The map at g is the set of these keys; at most c were put into it. -/
def SetAt (g c : Nat) (ks : List (List UInt8)) (w : World) : Prop :=
  ∃ n D, n ≤ c ∧ w.ownsMap Tryd.prog 9 (unitElem (H := Unit)) g n D ∧ (∀ t : List UInt8, Maps.has D (.string t) = decide (t ∈ ks)) ∧ Maps.size D = ks.length
theorem SetAt.keep {g c : Nat} {ks : List (List UInt8)} {w w' : World} (h : SetAt g c ks w) (hb : w'.heap[g]? = w.heap[g]?) : SetAt g c ks w' := by
  obtain ⟨n, D, hn, ⟨es, clock, h1, h2⟩, h3⟩ := h
  exact ⟨n, D, hn, ⟨es, clock, hb.trans h1, h2⟩, h3⟩
theorem SetAt.lt {g c : Nat} {ks : List (List UInt8)} {w : World} (h : SetAt g c ks w) : g < w.heap.size := by
  obtain ⟨n, D, hn, ⟨es, clock, h1, h2⟩, h3⟩ := h
  exact (Array.getElem?_eq_some_iff.1 h1).1
theorem SetAt.made (w : World) (c : Nat) : SetAt w.heap.size c [] (w.alloc (.map #[] 0)) :=
  ⟨0, .map [], Nat.zero_le _, World.ownsMap_made _ _ _ _, fun t => rfl, rfl⟩
theorem Kept.grown {b : Nat} {w w' : World} (h : w.grownBy w' (some b)) : Kept b w w' := ⟨h.os, h.tape, h.output, h.size, fun k hk hne => h.block k hk (fun e => hne (Option.some.inj e))⟩
/-- The keys, with one more. -/
def withKey (ks : List (List UInt8)) (t : List UInt8) : List (List UInt8) := if t ∈ ks then ks else ks ++ [t]
set_option maxHeartbeats 1000000 in
theorem isNew_any (g c : Nat) (ks : List (List UInt8)) (t : List UInt8) (w : World) (h : SetAt g c ks w) (ht : t.length ≤ 1000000000) (hc : c ≤ 1000000000) :
    Calls Tryd.prog 46 #[.map (some g), .string (str t)] w fun e w' => e = .returned (.bool (decide (t ∉ ks))) ∧ SetAt g (c + 1) (withKey ks t) w' ∧ Kept g w w' := by
  obtain ⟨n, D, hn, hown, hhas, hsz⟩ := h
  have hkey : keyOf Tryd.prog 9 (.string (str t)) = some (.string t) := by
    have := keyOf_string_mk (s := str t) Tryd.underlying9 (by rw [str_size]; unfold maxLen; omega)
    rw [str_data] at this
    exact this
  have htidy := hown.tidy lawS
  have hput := size_put (k := .string t) htidy (.agg [] : DataW Unit)
  rw [hhas t] at hput
  have hsame := has_put_same (k := .string t) htidy.isMap trivial (.agg [] : DataW Unit)
  have hoth : ∀ x : List UInt8, x ≠ t → Maps.has (D.put (.string t) (.agg [])) (.string x) = Maps.has D (.string x) := fun x hx => has_put_other (fun e => hx (Lit.string.inj e)) _
  have HF : Hid ((∀ x : List UInt8, Maps.has (D.put (.string t) (.agg [])) (.string x) = decide (x ∈ withKey ks t)) ∧ Maps.size (D.put (.string t) (.agg [])) = (withKey ks t).length) := by
    refine ⟨fun x => ?_, ?_⟩
    · by_cases hx : x = t
      · rw [hx, hsame]
        symm
        unfold withKey
        split <;> simp_all
      · rw [hoth x hx, hhas x]
        unfold withKey
        split
        · rfl
        · simp [hx]
    · rw [hput, hsz]
      unfold withKey
      by_cases hm : t ∈ ks
      · simp [hm]
      · simp [hm]
  have HG : Hid (decide (Maps.size D < Maps.size (D.put (.string t) (.agg []))) = decide (t ∉ ks)) := by
    show _ = _
    rw [hput, hsz]
    by_cases hm : t ∈ ks
    · simp [hm]
    · simp [hm]
  clear hput hsame hoth htidy hhas hsz
  go_enter Tryd.func46, Tryd.ntmps46
  go_wp2_with (first
    | (at_len; refine wpList_len_own _ rfl _ 74 rfl 9 92 Tryd.underlying74 _ g n D rfl hown ?_)
    | (at_mapUpdate; refine wpList_mapUpdate_own _ rfl _ _ _ 74 rfl 9 92 lawS Tryd.underlying74 (unitElem (H := Unit)) g n D rfl hown (by unfold maxLen; omega) _ _ _ rfl rfl hkey (.agg []) [] unitElem_mk ?_; intro w1 hown1 hgrow1)
    | (at_len; refine wpList_len_own _ rfl _ 74 rfl 9 92 Tryd.underlying74 _ g (n + 1) _ rfl hown1 ?_))
  go_ret
  exact ⟨ret_bool (by first | exact HG.out | (rw [← HG.out])), ⟨n + 1, _, by omega, hown1, HF.out.1, HF.out.2⟩, Kept.grown hgrow1⟩
end Go.Proofs.YtpnmiknikkhliaaDoor
/- Values in memory: a value's own block, and how a value reads with all that it leads to. -/
set_option linter.unusedVariables false
set_option linter.unusedSimpArgs false
namespace Go.Proofs.YtpnmiknikkhliaaDoor
open Go.RowKit
abbrev vv (x0 x1 x2 x3 : Value) : Value := .agg #[x0, x1, x2, x3]
/-- A value's own block. -/
def VAt (w : World) (b : Nat) (x0 x1 x2 x3 : Value) : Prop := w.heap[b]? = some (.cells #[x0, x1, x2, x3] 25 (0, 0))
theorem VAt.cell {w : World} {b : Nat} {x0 x1 x2 x3 : Value} (h : VAt w b x0 x1 x2 x3) (i : Nat) : w.cell? ⟨b, i, none⟩ = #[x0, x1, x2, x3][i]? := Lib.cell_of_heap h i
theorem VAt.free {w : World} {b : Nat} {x0 x1 x2 x3 : Value} (h : VAt w b x0 x1 x2 x3) (i : Nat) : w.frozen? ⟨b, i, none⟩ = false := Lib.frozen_of_heap h i
theorem VAt.lt {w : World} {b : Nat} {x0 x1 x2 x3 : Value} (h : VAt w b x0 x1 x2 x3) : b < w.heap.size := (Array.getElem?_eq_some_iff.1 h).1
theorem VAt.keep {w w' : World} {b : Nat} {x0 x1 x2 x3 : Value} (h : VAt w b x0 x1 x2 x3) (e : w'.heap[b]? = w.heap[b]?) : VAt w' b x0 x1 x2 x3 := e.trans h
theorem VAt.kids {w : World} {b : Nat} {x0 x1 x2 x3 : Value} (h : VAt w b x0 x1 x2 x3) (v : Value) : VAt (w.setCell ⟨b, 3, none⟩ v) b x0 x1 x2 v := Go.Joins.block_setCell h _
theorem VAt.keys {w : World} {b : Nat} {x0 x1 x2 x3 : Value} (h : VAt w b x0 x1 x2 x3) (v : Value) : VAt (w.setCell ⟨b, 2, none⟩ v) b x0 x1 v x3 := Go.Joins.block_setCell h _
theorem zeroVal : (Tryd.prog.info? 25).map (fun i => (i.zero, i.size)) = some (some (vv (.int .i64 0) (.string ⟨#[]⟩) (.slice none 0 0) (.slice none 0 0)), 4) := by kernel_rfl
theorem sizeVal : (Tryd.prog.info? 25).map (·.size) = some 4 := by kernel_rfl
theorem infoVal : (Tryd.prog.info? 25).map (fun i => (i.zero, i.size, i.bytes)) = some (some (vv (.int .i64 0) (.string ⟨#[]⟩) (.slice none 0 0) (.slice none 0 0)), 4, 72) := by kernel_rfl
theorem infoStr : (Tryd.prog.info? 9).map (fun i => (i.zero, i.size, i.bytes)) = some (some (.string ⟨#[]⟩), 1, 16) := by kernel_rfl
theorem load_V {w : World} {b : Nat} {x0 x1 x2 x3 : Value} (h : VAt w b x0 x1 x2 x3) : (loadVar 25 ⟨b, 0, none⟩).run Tryd.prog w = .ok (vv x0 x1 x2 x3) w :=
  run_loadVar_row _ _ _ _ _ _ _ h Tryd.underlying25 rfl sizeVal
theorem loadAt_V {w : World} {b : Nat} {x0 x1 x2 x3 : Value} (h : VAt w b x0 x1 x2 x3) : (Instr.loadAt 25 (.pointer (some ⟨b, 0, none⟩))).run Tryd.prog w = .ok (vv x0 x1 x2 x3) w := by
  simp only [Instr.loadAt, Instr.sureAddr, Sem.run_bind, Sem.run_pure, Result.andThen]
  exact load_V h
theorem results_cell {fn : Func} {p : Tmp} {ty : TypeId} (h : fn.results = #[.cell p ty]) (tmps : Array Value) (P : Program) (w : World) :
    (results fn tmps).run P w = ((asAddr (tmps.getD p undef)).run P w).andThen fun a w1 => (loadVar ty a).run P w1 := by
  simp only [results, h]
  simp [Sem.run_bind, Result.andThen]
theorem ret_V {fn : Func} {p : Tmp} {Q : Ending → World → Prop} {a : Act} {w : World} {b : Nat} {x0 x1 x2 x3 : Value} (hr : fn.results = #[.cell p 25]) (hd : a.defers = []) (hp : a.tmps.getD p undef = .pointer (some ⟨b, 0, none⟩)) (h : VAt w b x0 x1 x2 x3) (hQ : Q (.returned (vv x0 x1 x2 x3)) w) :
    bodyPost Tryd.prog fn Q .ret a w := by
  refine bodyPost_ret (v := vv x0 x1 x2 x3) ?_ hd hQ
  rw [results_cell hr, hp]
  simp [asAddr, Result.andThen, load_V h]
/-- Four cells, each of one. -/
def ones (x0 x1 x2 x3 : Value) : Prop := x0.oneCell' = true ∧ x1.oneCell' = true ∧ x2.oneCell' = true ∧ x3.oneCell' = true
theorem storeAt_V {w : World} {b : Nat} {x0 x1 x2 x3 y0 y1 y2 y3 : Value} (h : VAt w b y0 y1 y2 y3) (h1 : ones x0 x1 x2 x3) : (Instr.storeAt 25 (.pointer (some ⟨b, 0, none⟩)) (vv x0 x1 x2 x3)).run Tryd.prog w = .ok () (w.setRow b #[x0, x1, x2, x3]) := by
  simp only [Instr.storeAt, Instr.sureAddr, Sem.run_bind, Sem.run_pure, Result.andThen]
  exact run_storeVar_row _ _ _ _ _ _ h sizeVal rfl (by simp [h1.1, h1.2.1, h1.2.2.1, h1.2.2.2])
theorem wpList_store_V {ops : Array Oper} {rest : List Oper} {o : Oper} {a : Act} {w : World} {Q : Exit → Act → World → Prop} (x y : Operand) (ho : o.op = .store 25 x y) (hg : o.guard = none) (b : Nat) (x0 x1 x2 x3 : Value) {y0 y1 y2 y3 : Value} (hx : a.eval x = .pointer (some ⟨b, 0, none⟩)) (hy : a.eval y = vv x0 x1 x2 x3) (h : VAt w b y0 y1 y2 y3) (h1 : ones x0 x1 x2 x3)
    (hn : wpList Tryd.prog ops Q rest (a.put o.dst undef) (w.setRow b #[x0, x1, x2, x3])) : wpList Tryd.prog ops Q (o :: rest) a w := by
  refine wpList_plain hg fun K hK => ?_
  unfold Oper.wp
  have e : (execOp a.eval o).run Tryd.prog w = .ok .skip (w.setRow b #[x0, x1, x2, x3]) := by
    unfold execOp
    rw [ho]
    simp only [hx, hy, Sem.run_bind, storeAt_V h h1, Result.andThen, Sem.run_pure]
  rw [e, Oper.upon_skip]
  exact hK _ _ hn
theorem wpList_load_V {ops : Array Oper} {rest : List Oper} {o : Oper} {a : Act} {w : World} {Q : Exit → Act → World → Prop} (x : Operand) (ho : o.op = .load 25 x) (hg : o.guard = none) (b : Nat) (x0 x1 x2 x3 : Value) (hx : a.eval x = .pointer (some ⟨b, 0, none⟩)) (h : VAt w b x0 x1 x2 x3)
    (hn : wpList Tryd.prog ops Q rest (a.put o.dst (vv x0 x1 x2 x3)) w) : wpList Tryd.prog ops Q (o :: rest) a w := by
  refine wpList_plain hg fun K hK => ?_
  unfold Oper.wp
  have e : (execOp a.eval o).run Tryd.prog w = .ok (.value (vv x0 x1 x2 x3)) w := by
    unfold execOp
    rw [ho]
    simp only [hx, Sem.run_bind, loadAt_V h, Result.andThen, Sem.run_pure]
  rw [e, Oper.upon_value]
  exact hK _ _ hn
theorem setRow_V {w : World} {b : Nat} {y0 y1 y2 y3 : Value} (h : VAt w b y0 y1 y2 y3) (x0 x1 x2 x3 : Value) : VAt (w.setRow b #[x0, x1, x2, x3]) b x0 x1 x2 x3 := by
  unfold VAt World.setRow
  show (w.heap.modify b _)[b]? = _
  rw [Array.getElem?_modify, if_pos rfl, h]
  rfl
theorem setRow_other {w : World} {b k : Nat} (cs : Array Value) (hk : k ≠ b) : (w.setRow b cs).heap[k]? = w.heap[k]? := by
  unfold World.setRow
  show (w.heap.modify b _)[k]? = _
  rw [Array.getElem?_modify, if_neg (Ne.symm hk)]
theorem setRow_len (w : World) (b : Nat) (cs : Array Value) : (w.setRow b cs).heap.size = w.heap.size := by
  unfold World.setRow
  show (w.heap.modify b _).size = _
  exact Array.size_modify
theorem Kept.setRow (b : Nat) (w : World) (cs : Array Value) : Kept b w (w.setRow b cs) :=
  ⟨rfl, rfl, rfl, by rw [setRow_len]; exact Nat.le_refl _, fun k _ hk => setRow_other cs hk⟩
/-- A slice reads as these texts, in blocks of which Q holds. -/
def RTs (Q : Nat → Prop) (w : World) (ts : List (List UInt8)) (v : Value) : Prop :=
  (∃ a c, v = .slice a 0 c ∧ ts = []) ∨ ∃ b o c, Q b ∧ v = .slice (some ⟨b, o, none⟩) ts.length c ∧ ts.length ≤ c ∧ b < w.heap.size ∧ ∀ (j : Nat) t, ts[j]? = some t → w.cell? ⟨b, o + j, none⟩ = some (.string (str t))
mutual
/-- A value reads as this one. -/
def RV (Q : Nat → Prop) (w : World) : Jsn.J → Value → Prop
  | .mk k t ks cs, v => ∃ kv cv, v = vv (.int .i64 k) (.string (str t)) kv cv ∧ RTs Q w ks kv ∧ ((∃ a c, cv = .slice a 0 c ∧ cs = []) ∨ ∃ b o c, Q b ∧ cv = .slice (some ⟨b, o, none⟩) cs.length c ∧ cs.length ≤ c ∧ b < w.heap.size ∧ RCs Q w b o cs)
/-- From a place on lie these values. -/
def RCs (Q : Nat → Prop) (w : World) (b : Nat) : Nat → List Jsn.J → Prop
  | _, [] => True
  | o, c :: cs => (∃ x0 x1 x2 x3, w.cell? ⟨b, o, none⟩ = some x0 ∧ w.cell? ⟨b, o + 1, none⟩ = some x1 ∧ w.cell? ⟨b, o + 2, none⟩ = some x2 ∧ w.cell? ⟨b, o + 3, none⟩ = some x3 ∧ RV Q w c (vv x0 x1 x2 x3)) ∧ RCs Q w b (o + 4) cs
end
/-- A slice reads as these values. -/
def RKs (Q : Nat → Prop) (w : World) (cs : List Jsn.J) (cv : Value) : Prop := (∃ a c, cv = .slice a 0 c ∧ cs = []) ∨ ∃ b o c, Q b ∧ cv = .slice (some ⟨b, o, none⟩) cs.length c ∧ cs.length ≤ c ∧ b < w.heap.size ∧ RCs Q w b o cs
theorem RV_mk {Q : Nat → Prop} {w : World} {k : Int} {t : List UInt8} {ks : List (List UInt8)} {cs : List Jsn.J} {v : Value} : RV Q w (.mk k t ks cs) v ↔ ∃ kv cv, v = vv (.int .i64 k) (.string (str t)) kv cv ∧ RTs Q w ks kv ∧ RKs Q w cs cv := Iff.rfl
theorem RCs_at {Q : Nat → Prop} {w : World} {b : Nat} : ∀ {o : Nat} {cs : List Jsn.J} {j : Nat} {c : Jsn.J}, RCs Q w b o cs → cs[j]? = some c → ∃ x0 x1 x2 x3, w.cell? ⟨b, o + j * 4, none⟩ = some x0 ∧ w.cell? ⟨b, o + j * 4 + 1, none⟩ = some x1 ∧ w.cell? ⟨b, o + j * 4 + 2, none⟩ = some x2 ∧ w.cell? ⟨b, o + j * 4 + 3, none⟩ = some x3 ∧ RV Q w c (vv x0 x1 x2 x3)
  | o, [], j, c, _, h => by simp at h
  | o, d :: cs, 0, c, hr, h => by
    simp at h
    subst h
    simpa using hr.1
  | o, d :: cs, j + 1, c, hr, h => by
    have := RCs_at (j := j) hr.2 (by simpa using h)
    rw [show o + 4 + j * 4 = o + (j + 1) * 4 from by omega] at this
    exact this
theorem RCs_mk {Q : Nat → Prop} {w : World} {b : Nat} : ∀ {o : Nat} {cs : List Jsn.J}, (∀ j c, cs[j]? = some c → ∃ x0 x1 x2 x3, w.cell? ⟨b, o + j * 4, none⟩ = some x0 ∧ w.cell? ⟨b, o + j * 4 + 1, none⟩ = some x1 ∧ w.cell? ⟨b, o + j * 4 + 2, none⟩ = some x2 ∧ w.cell? ⟨b, o + j * 4 + 3, none⟩ = some x3 ∧ RV Q w c (vv x0 x1 x2 x3)) → RCs Q w b o cs
  | o, [], _ => trivial
  | o, d :: cs, h => ⟨by simpa using h 0 d rfl, RCs_mk (fun j c hj => by
      have := h (j + 1) c (by simpa using hj)
      rw [show o + (j + 1) * 4 = o + 4 + j * 4 from by omega] at this
      exact this)⟩
theorem cell_keep {w w' : World} {b o : Nat} (h : w'.heap[b]? = w.heap[b]?) : w'.cell? ⟨b, o, none⟩ = w.cell? ⟨b, o, none⟩ := by
  unfold World.cell?
  rw [h]
theorem RTs.keep {Q Q' : Nat → Prop} {w w' : World} {ts : List (List UInt8)} {v : Value} (h : RTs Q w ts v) (hs : w.heap.size ≤ w'.heap.size) (hk : ∀ k, Q k → k < w.heap.size → Q' k ∧ w'.heap[k]? = w.heap[k]?) : RTs Q' w' ts v := by
  rcases h with h | ⟨b, o, c, hq, hv, hl, hb, hc⟩
  · exact .inl h
  · exact .inr ⟨b, o, c, (hk b hq hb).1, hv, hl, by omega, fun j t hj => (cell_keep (hk b hq hb).2).trans (hc j t hj)⟩
/-- A value reads in another world as it did, where its blocks are as they were. -/
theorem RV.keep {Q Q' : Nat → Prop} {w w' : World} (hs : w.heap.size ≤ w'.heap.size) (hk : ∀ k, Q k → k < w.heap.size → Q' k ∧ w'.heap[k]? = w.heap[k]?) : ∀ {t : Jsn.J} {v : Value}, RV Q w t v → RV Q' w' t v := by
  intro t
  induction t using Jsn.J.ind with
  | h k t ks cs ih =>
    intro v h
    obtain ⟨kv, cv, rfl, h1, h2⟩ := RV_mk.1 h
    refine RV_mk.2 ⟨kv, cv, rfl, h1.keep hs hk, ?_⟩
    rcases h2 with h2 | ⟨b, o, c, hq, hv, hl, hb, hc⟩
    · exact .inl h2
    · refine .inr ⟨b, o, c, (hk b hq hb).1, hv, hl, by omega, RCs_mk fun j d hj => ?_⟩
      obtain ⟨x0, x1, x2, x3, g0, g1, g2, g3, hr⟩ := RCs_at hc hj
      have e := (hk b hq hb).2
      exact ⟨x0, x1, x2, x3, (cell_keep e).trans g0, (cell_keep e).trans g1, (cell_keep e).trans g2, (cell_keep e).trans g3, ih d (List.mem_of_getElem? hj) hr⟩
theorem RKs.keep {Q Q' : Nat → Prop} {w w' : World} {cs : List Jsn.J} {v : Value} (h : RKs Q w cs v) (hs : w.heap.size ≤ w'.heap.size) (hk : ∀ k, Q k → k < w.heap.size → Q' k ∧ w'.heap[k]? = w.heap[k]?) : RKs Q' w' cs v := by
  rcases h with h | ⟨b, o, c, hq, hv, hl, hb, hc⟩
  · exact .inl h
  · refine .inr ⟨b, o, c, (hk b hq hb).1, hv, hl, by omega, RCs_mk fun j d hj => ?_⟩
    obtain ⟨x0, x1, x2, x3, g0, g1, g2, g3, hr⟩ := RCs_at hc hj
    have e := (hk b hq hb).2
    exact ⟨x0, x1, x2, x3, (cell_keep e).trans g0, (cell_keep e).trans g1, (cell_keep e).trans g2, (cell_keep e).trans g3, RV.keep hs hk hr⟩
theorem RV.shape {Q : Nat → Prop} {w : World} {t : Jsn.J} {v : Value} (h : RV Q w t v) : ∃ a n c a' n' c', v = vv (.int .i64 t.kind) (.string (str t.text)) (.slice a n c) (.slice a' n' c') := by
  cases t with
  | mk k t ks cs =>
    obtain ⟨kv, cv, rfl, h1, h2⟩ := RV_mk.1 h
    rcases h1 with ⟨a, c, rfl, _⟩ | ⟨b, o, c, _, rfl, _⟩ <;> rcases h2 with ⟨a', c', rfl, _⟩ | ⟨b', o', c', _, rfl, _⟩ <;> exact ⟨_, _, _, _, _, _, rfl⟩
theorem ones_mk (k : Int) (s : ByteArray) (a a' : Option Addr) (n c n' c' : Nat) : ones (.int .i64 k) (.string s) (.slice a n c) (.slice a' n' c') := ⟨rfl, rfl, rfl, rfl⟩
/-- A plain value: no list. -/
theorem RV.plain (Q : Nat → Prop) (w : World) (k : Int) (t : List UInt8) : RV Q w (.mk k t [] []) (vv (.int .i64 k) (.string (str t)) (.slice none 0 0) (.slice none 0 0)) :=
  RV_mk.2 ⟨_, _, rfl, .inl ⟨_, _, rfl, rfl⟩, .inl ⟨_, _, rfl, rfl⟩⟩
end Go.Proofs.YtpnmiknikkhliaaDoor
/- Lists of values, and of texts, while they grow. -/
set_option linter.unusedVariables false
set_option linter.unusedSimpArgs false
namespace Go.Proofs.YtpnmiknikkhliaaDoor
open Go.RowKit
abbrev V4 := Value × Value × Value × Value
def flat (vs : List V4) : List Value := vs.flatMap fun x => [x.1, x.2.1, x.2.2.1, x.2.2.2]
theorem flat_snoc (vs : List V4) (x : V4) : flat (vs ++ [x]) = flat vs ++ [x.1, x.2.1, x.2.2.1, x.2.2.2] := by simp [flat]
theorem flat_len : ∀ vs : List V4, (flat vs).length = vs.length * 4
  | [] => rfl
  | x :: vs => by
    have := flat_len vs
    simp only [flat, List.flatMap_cons, List.length_append, List.length_cons, List.length_nil] at this ⊢
    omega
theorem flat_at : ∀ (vs : List V4) (j : Nat) (x : V4), vs[j]? = some x → (flat vs)[j * 4]? = some x.1 ∧ (flat vs)[j * 4 + 1]? = some x.2.1 ∧ (flat vs)[j * 4 + 2]? = some x.2.2.1 ∧ (flat vs)[j * 4 + 3]? = some x.2.2.2
  | [], j, x, h => by simp at h
  | y :: vs, 0, x, h => by
    simp at h
    subst h
    exact ⟨rfl, rfl, rfl, rfl⟩
  | y :: vs, j + 1, x, h => by
    have := flat_at vs j x (by simpa using h)
    have e : flat (y :: vs) = y.1 :: y.2.1 :: y.2.2.1 :: y.2.2.2 :: flat vs := rfl
    rw [e, show (j + 1) * 4 = j * 4 + 1 + 1 + 1 + 1 from by omega]
    simpa using this
/-- What a growing list's values may lie in: blocks from B on, but not the list's own row. -/
def off (B : Nat) (v : Value) (k : Nat) : Prop := B ≤ k ∧ some k ≠ v.ownBlock
structure GKids (B : Nat) (w : World) (v : Value) (cs : List Jsn.J) (vs : List V4) : Prop where
  own : w.ownsRow B 25 4 v cs.length (flat vs)
  len : vs.length = cs.length
  read : ∀ (j : Nat) (c : Jsn.J) (x : V4), cs[j]? = some c → vs[j]? = some x → RV (off B v) w c (vv x.1 x.2.1 x.2.2.1 x.2.2.2)
theorem GKids.nil (B : Nat) (w : World) : GKids B w (.slice none 0 0) [] [] := ⟨World.ownsRow_nil _ _ _ _, rfl, fun j c x h => by simp at h⟩
theorem own_keep {B e size n : Nat} {v : Value} {xs : List Value} {w w' : World} (h : w.ownsRow B e size v n xs) (hk : ∀ k, B ≤ k → k < w.heap.size → w'.heap[k]? = w.heap[k]?) : w'.ownsRow B e size v n xs := by
  refine ⟨h.1, ?_⟩
  rcases h.2 with h2 | ⟨g, cap, cur, h1, h2, h3, h4⟩
  · exact .inl h2
  · exact .inr ⟨g, cap, cur, h1, h2, (hk g h2 (Array.getElem?_eq_some_iff.1 h3).1).trans h3, h4⟩
theorem GKids.keep {B : Nat} {w w' : World} {v : Value} {cs : List Jsn.J} {vs : List V4} (h : GKids B w v cs vs) (hs : w.heap.size ≤ w'.heap.size) (hk : ∀ k, B ≤ k → k < w.heap.size → w'.heap[k]? = w.heap[k]?) : GKids B w' v cs vs :=
  ⟨own_keep h.own hk, h.len, fun j c x hc hx => RV.keep hs (fun k hq hl => ⟨hq, hk k hq.1 hl⟩) (h.read j c x hc hx)⟩
theorem GKids.form {B : Nat} {w : World} {v : Value} {cs : List Jsn.J} {vs : List V4} (h : GKids B w v cs vs) : ∃ a c, v = .slice a cs.length c := by
  rcases h.own.2 with ⟨rfl, h0⟩ | ⟨g, cap, cur, rfl, _⟩
  · exact ⟨none, 0, by rw [h0]⟩
  · exact ⟨_, _, rfl⟩
/-- One more. -/
theorem GKids.more {B g cap H : Nat} {w w' : World} {v x0 x1 x2 x3 : Value} {cs : List Jsn.J} {vs : List V4} {c : Jsn.J} (h : GKids B w v cs vs) (hg : w.grownBy w' v.ownBlock) (hat : v.ownBlock = some g ∨ g = H) (hH : w.heap.size = H)
    (hown : w'.ownsRow B 25 4 (.slice (some ⟨g, 0, none⟩) (cs.length + 1) cap) (cs.length + 1) (flat vs ++ [x0, x1, x2, x3])) (hr : RV (off B v) w c (vv x0 x1 x2 x3)) :
    GKids B w' (.slice (some ⟨g, 0, none⟩) (cs.length + 1) cap) (cs ++ [c]) (vs ++ [(x0, x1, x2, x3)]) := by
  have hk : ∀ {c : Jsn.J} {u : Value}, RV (off B v) w c u → RV (off B (.slice (some ⟨g, 0, none⟩) (cs.length + 1) cap)) w' c u := fun {c u} hr =>
    RV.keep hg.size (fun k hq hl => ⟨⟨hq.1, fun e => by
      have e2 : k = g := Option.some.inj e
      rcases hat with h1 | h1
      · exact hq.2 (by rw [e2, h1])
      · omega⟩, hg.block k hl hq.2⟩) hr
  refine ⟨by rw [List.length_append, flat_snoc]; exact hown, by simp [h.len], fun j d x hd hx => ?_⟩
  by_cases hj : j < cs.length
  · rw [List.getElem?_append_left hj] at hd
    rw [List.getElem?_append_left (by rw [h.len]; exact hj)] at hx
    exact hk (h.read j d x hd hx)
  · have hj2 : j = cs.length := by
      have := (List.getElem?_eq_some_iff.1 hd).1
      simp at this
      omega
    subst hj2
    rw [List.getElem?_append_right (Nat.le_refl _)] at hd
    rw [List.getElem?_append_right (by rw [h.len]; exact Nat.le_refl _), h.len] at hx
    simp at hd hx
    subst hd; subst hx
    exact hk hr
theorem GKids.reads {B : Nat} {w : World} {v : Value} {cs : List Jsn.J} {vs : List V4} (h : GKids B w v cs vs) : RKs (B ≤ ·) w cs v := by
  rcases h.own.2 with ⟨rfl, h0⟩ | ⟨g, cap, cur, rfl, hB, hg, hc, _, hcs, ht⟩
  · exact .inl ⟨_, _, rfl, List.eq_nil_of_length_eq_zero h0⟩
  · have hlt : g < w.heap.size := (Array.getElem?_eq_some_iff.1 hg).1
    refine .inr ⟨g, 0, cap, hB, rfl, hc, hlt, RCs_mk fun j c hj => ?_⟩
    have hjl : j < cs.length := (List.getElem?_eq_some_iff.1 hj).1
    obtain ⟨x, hx⟩ : ∃ x, vs[j]? = some x := ⟨_, List.getElem?_eq_getElem (by rw [h.len]; exact hjl)⟩
    have e := flat_at vs j x hx
    have cell : ∀ i, i < cs.length * 4 → w.cell? ⟨g, i, none⟩ = (flat vs)[i]? := fun i hi => World.ownsRow.cellAt (w := w) (base := B) (e := 25) (size := 4) (g := g) (cap := cap) (n := cs.length) (xs := flat vs) h.own i hi
    refine ⟨x.1, x.2.1, x.2.2.1, x.2.2.2, ?_, ?_, ?_, ?_, RV.keep (Nat.le_refl _) (fun k hq _ => ⟨hq.1, rfl⟩) (h.read j c x hj hx)⟩
    · rw [Nat.zero_add, cell _ (by omega)]; exact e.1
    · rw [Nat.zero_add, cell _ (by omega)]; exact e.2.1
    · rw [Nat.zero_add, cell _ (by omega)]; exact e.2.2.1
    · rw [Nat.zero_add, cell _ (by omega)]; exact e.2.2.2
/-- A row of texts of one's own. -/
def GTexts (B : Nat) (w : World) (v : Value) (ts : List (List UInt8)) : Prop := w.ownsRow B 9 1 v ts.length (ts.map fun t => .string (str t))
theorem GTexts.nil (B : Nat) (w : World) : GTexts B w (.slice none 0 0) [] := World.ownsRow_nil _ _ _ _
theorem GTexts.reads {B : Nat} {w : World} {v : Value} {ts : List (List UInt8)} (h : GTexts B w v ts) : RTs (B ≤ ·) w ts v := by
  rcases h.2 with ⟨rfl, h0⟩ | ⟨g, cap, cur, rfl, hB, hg, hc, _, hcs, ht⟩
  · exact .inl ⟨_, _, rfl, List.eq_nil_of_length_eq_zero h0⟩
  · have hlt : g < w.heap.size := (Array.getElem?_eq_some_iff.1 hg).1
    refine .inr ⟨g, 0, cap, hB, rfl, hc, hlt, fun j t hj => ?_⟩
    have hjl : j < ts.length := (List.getElem?_eq_some_iff.1 hj).1
    have := World.ownsRow.cellAt (w := w) (base := B) (e := 9) (size := 1) (g := g) (cap := cap) (n := ts.length) (xs := ts.map fun t => .string (str t)) h j (by omega)
    rw [Nat.zero_add, this, List.getElem?_map, hj]
    rfl
theorem GTexts.form {B : Nat} {w : World} {v : Value} {ts : List (List UInt8)} (h : GTexts B w v ts) : ∃ a c, v = .slice a ts.length c := by
  rcases h.2 with ⟨rfl, h0⟩ | ⟨g, cap, cur, rfl, _⟩
  · exact ⟨none, 0, by rw [h0]⟩
  · exact ⟨_, _, rfl⟩
theorem GTexts.of {B : Nat} {w : World} {v : Value} {ts : List (List UInt8)} {t : List UInt8} (h : w.ownsRow B 9 1 v (ts.length + 1) ((ts.map fun t => .string (str t)) ++ [.string (str t)])) : GTexts B w v (ts ++ [t]) := by
  unfold GTexts
  rw [List.map_append, List.length_append]
  exact h
end Go.Proofs.YtpnmiknikkhliaaDoor
/- The contract of the parser's key. -/
set_option linter.unusedVariables false
set_option linter.unusedSimpArgs false
namespace Go.Proofs.YtpnmiknikkhliaaDoor
open Go.RowKit
/-- All blocks but b and g are as they were. -/
structure Kept2 (b g : Nat) (w w' : World) : Prop where
  os : w'.os = w.os
  tape : w'.tape = w.tape
  output : w'.output = w.output
  size : w.heap.size ≤ w'.heap.size
  block : ∀ k, k < w.heap.size → k ≠ b → k ≠ g → w'.heap[k]? = w.heap[k]?
theorem Kept2.refl (b g : Nat) (w : World) : Kept2 b g w w := ⟨rfl, rfl, rfl, Nat.le_refl _, fun _ _ _ _ => rfl⟩
theorem Kept2.trans {b g : Nat} {a c d : World} (h : Kept2 b g a c) (k : Kept2 b g c d) : Kept2 b g a d :=
  ⟨k.os.trans h.os, k.tape.trans h.tape, k.output.trans h.output, Nat.le_trans h.size k.size, fun i hi hb hg => (k.block i (Nat.lt_of_lt_of_le hi h.size) hb hg).trans (h.block i hi hb hg)⟩
theorem Kept.two {b : Nat} {w w' : World} (h : Kept b w w') (g : Nat) : Kept2 b g w w' := ⟨h.os, h.tape, h.output, h.size, fun k hk hb _ => h.block k hk hb⟩
theorem Kept.two' {g : Nat} {w w' : World} (h : Kept g w w') (b : Nat) : Kept2 b g w w' := ⟨h.os, h.tape, h.output, h.size, fun k hk _ hg => h.block k hk hg⟩
theorem Kept2.drew {b g : Nat} {w w' : World} (h : Kept2 b g w w') : Kept2 b g w w'.drew := ⟨h.os, h.tape, h.output, h.size, h.block⟩
/-- What is in quotes is not much longer than it was told. -/
theorem quoted_len (l : List UInt8) : ∀ t z, Jsn.quotedR l = .ok t z → t.length + 4 * z.length ≤ 4 * l.length := by
  induction hn : l.length using Nat.strongRecOn generalizing l with
  | _ n ih =>
    subst hn
    intro t z h
    cases l with
    | nil => rw [Jsn.quotedR_nil] at h; cases h
    | cons c r =>
      rw [Jsn.quotedR_cons] at h
      simp only [List.length_cons]
      split at h
      · cases h; simp; omega
      · split at h
        · cases he : Jsn.escR (r.length + 1) r with
          | err y k => rw [he] at h; cases h
          | ok x y =>
            rw [he] at h
            replace h : (Jsn.quotedR y).map (Lib.encodeRune x ++ ·) = .ok t z := h
            have hl := Jsn.esc_len he
            cases hq : Jsn.quotedR y with
            | err y k => rw [hq] at h; cases h
            | ok t' z' =>
              rw [hq] at h
              cases h
              have := ih y.length (by simp only [List.length_cons]; omega) y rfl t' z hq
              have e4 := Utf.enc_len x
              simp only [List.length_append]
              omega
        · split at h
          · cases h
          · cases hq : Jsn.quotedR r with
            | err y k => rw [hq] at h; cases h
            | ok t' z' =>
              rw [hq] at h
              cases h
              have := ih r.length (by simp) r rfl t' z hq
              simp only [List.length_cons]
              omega
set_option maxHeartbeats 1000000 in
theorem key_any {b n g m : Nat} {s l : List UInt8} {ks : List (List UInt8)} {w : World} (h : Ps b s l n w) (hS : SetAt g m ks w) (hne : g ≠ b) (hm : m ≤ 1000000) :
    Calls Tryd.prog 82 #[.pointer (some ⟨b, 0, none⟩), .map (some g)] w fun e w' => Kept2 b g w w' ∧ Ans (Jsn.keyR ks l) (fun t r => e = .returned (.string (str t)) ∧ Ps b s r n w' ∧ SetAt g (m + 1) (ks ++ [t]) w') (fun y k => e = boom s y k) := by
  have hlen := h.len
  have hle := h.le
  unfold Jsn.keyR
  cases hk : Jsn.skip l with
  | nil =>
    go_enter Tryd.func82, Tryd.ntmps82
    go_wp2_with (first
      | (go_at_call 49; refine (part_end h hk).mono ?_; rintro e w1 ⟨rfl, hK1⟩))
    exact ⟨rfl, hK1.two g, rfl⟩
  | cons c r =>
    dsimp only
    have hp := part_ok h hk
    have hrl : r.length + 1 ≤ l.length := by have := (Jsn.skip_suf l).length_le; rw [hk] at this; simpa using this
    by_cases h34 : c = 34
    · rw [if_pos h34]
      subst h34
      cases hq : Jsn.quotedR r with
      | err y k =>
        go_enter Tryd.func82, Tryd.ntmps82
        go_wp2_with (first
          | (go_at_call 49; refine hp.mono ?_; rintro e w1 ⟨rfl, hP1, hK1⟩; obtain ⟨p, hpp, c1⟩ := hP1.c1)
          | (go_at_call 51; refine (quoted_any hP1).mono ?_; rintro e w2 ⟨hK2, hA⟩; rw [hq] at hA; replace hA : e = boom s y k := hA; subst hA))
        exact ⟨rfl, (hK1.trans hK2).two g, rfl⟩
      | ok t z =>
        have htl := quoted_len r t z hq
        show Calls _ _ _ _ fun e w' => Kept2 b g w w' ∧ Ans (if t ∈ ks then .err 7 (r.length + 1) else .ok t z) _ _
        by_cases hin : t ∈ ks
        · rw [if_pos hin]
          have hd : decide (t ∉ ks) = false := by simp [hin]
          have hN := fun w hS => isNew_any g m ks t w hS (by omega) (by omega)
          simp only [hd] at hN
          clear hd
          go_enter Tryd.func82, Tryd.ntmps82
          go_wp2_with (first
            | (go_at_call 49; refine hp.mono ?_; rintro e w1 ⟨rfl, hP1, hK1⟩; obtain ⟨p, hpp, c1⟩ := hP1.c1; simp only [List.length_cons] at hpp)
            | (go_at_call 51; refine (quoted_any hP1).mono ?_; rintro e w2 ⟨hK2, hA⟩; rw [hq] at hA; obtain ⟨rfl, hP2⟩ := hA; have hS2 := hS.keep ((hK1.trans hK2).block g hS.lt hne))
            | (go_at_call 46; refine (hN _ hS2).mono ?_; rintro e w3 ⟨rfl, hS3, hK3⟩))
          obtain rfl : p = s.length - (r.length + 1) := by omega
          exact ⟨rfl, ((hK1.trans hK2).two g).trans (hK3.two' b), rfl⟩
        · rw [if_neg hin]
          have hd : decide (t ∉ ks) = true := by simp [hin]
          have hN := fun w hS => isNew_any g m ks t w hS (by omega) (by omega)
          simp only [hd] at hN
          clear hd
          have hwk : withKey ks t = ks ++ [t] := if_neg hin
          go_enter Tryd.func82, Tryd.ntmps82
          go_wp2_with (first
            | (go_at_call 49; refine hp.mono ?_; rintro e w1 ⟨rfl, hP1, hK1⟩; obtain ⟨p, hpp, c1⟩ := hP1.c1; simp only [List.length_cons] at hpp)
            | (go_at_call 51; refine (quoted_any hP1).mono ?_; rintro e w2 ⟨hK2, hA⟩; rw [hq] at hA; obtain ⟨rfl, hP2⟩ := hA; have hS2 := hS.keep ((hK1.trans hK2).block g hS.lt hne))
            | (go_at_call 46; refine (hN _ hS2).mono ?_; rintro e w3 ⟨rfl, hS3, hK3⟩))
          go_ret
          exact ⟨((hK1.trans hK2).two g).trans (hK3.two' b), rfl, ⟨(hK3.block b hP2.lt (Ne.symm hne)).trans hP2.at_, hP2.suf, hP2.len, hP2.cnt⟩, hwk ▸ hS3⟩
    · rw [if_neg h34]
      have q34 : ((c.toNat : Int) != 34) = true := by rw [bne_iff_ne]; exact fun e => h34 (byte_eq_int.1 e)
      go_enter Tryd.func82, Tryd.ntmps82
      go_wp2_with (first
        | (go_at_call 49; refine hp.mono ?_; rintro e w1 ⟨rfl, hP1, hK1⟩; obtain ⟨p, hpp, c1⟩ := hP1.c1; simp only [List.length_cons] at hpp))
      obtain rfl : p = s.length - (r.length + 1) := by omega
      exact ⟨rfl, hK1.two g, rfl⟩
end Go.Proofs.YtpnmiknikkhliaaDoor
/- The contract of the parser's list, over that of value. -/
set_option linter.unusedVariables false
set_option linter.unusedSimpArgs false
namespace Go.Proofs.YtpnmiknikkhliaaDoor
open Go.RowKit
/-- What value, nest, list and table answer. -/
def ValPost (b : Nat) (s : List UInt8) (w : World) (x : Jsn.R (Jsn.J × Nat)) (e : Ending) (w' : World) : Prop :=
  Kept b w w' ∧ Ans x (fun p r => ∃ v, e = .returned v ∧ RV (w.heap.size ≤ ·) w' p.1 v ∧ Ps b s r p.2 w') (fun y k => e = boom s y k)
/-- The contract of value at one depth. -/
def ValC (k : Nat) (d : Int) (b : Nat) (s : List UInt8) : Prop := ∀ (n : Nat) (l : List UInt8) (w : World), Ps b s l n w → Calls Tryd.prog 38 #[.pointer (some ⟨b, 0, none⟩), .int .i64 d] w (ValPost b s w (Jsn.valueR k n l))
def leftM (b : Nat) (s : List UInt8) (m : Value) (w : World) : Nat := match m with
  | .bool true => leftOf b s w + 1
  | _ => 0
theorem goes_lt {e : UInt8} {l z : List UInt8} {m : Bool} (h : Jsn.goesOn e l = .ok m z) : z.length < l.length := by
  cases m with
  | true => exact Jsn.goes_true h
  | false =>
    unfold Jsn.goesOn at h
    cases ht : Jsn.takes e l with
    | err w n => rw [ht] at h; cases h
    | ok is r =>
      rw [ht] at h
      replace h : (if is = true then (.ok false r : Jsn.R Bool) else (Jsn.takes 44 r).bind fun is z => if is = true then .ok true z else .err 3 z.length) = .ok false z := h
      split at h
      · rename_i h2
        subst h2
        cases h
        exact (Jsn.takes_true ht).2
      · cases ht2 : Jsn.takes 44 r with
        | err w n => rw [ht2] at h; cases h
        | ok is2 y =>
          rw [ht2] at h
          replace h : (if is2 = true then (.ok true y : Jsn.R Bool) else .err 3 y.length) = .ok false z := h
          split at h <;> cases h
theorem loop_err {step : Jsn.St → List UInt8 → Jsn.R Jsn.St} (hs : Jsn.StepFine step) {e : UInt8} {st : Jsn.St} {z : List UInt8} {y : Int} {q : Nat} (h : step st z = .err y q) : Jsn.loopR step e st z = .err y q := by
  rw [Jsn.loopR_eq hs, h]
  rfl
theorem loop_ok {step : Jsn.St → List UInt8 → Jsn.R Jsn.St} (hs : Jsn.StepFine step) {e : UInt8} {st st1 : Jsn.St} {z r : List UInt8} (h : step st z = .ok st1 r) : Jsn.loopR step e st z = (Jsn.goesOn e r).bind fun m l2 => if m = true then Jsn.loopR step e st1 l2 else .ok st1 l2 := by
  rw [Jsn.loopR_eq hs, h]
  show (Jsn.goesOn e r).bind _ = _
  congr 1
  funext m l2
  cases m <;> rfl
theorem Kept.row {b R : Nat} {w wr : World} (h : Kept b w wr) (hR : w.heap.size ≤ R) (cs : Array Value) : Kept b w (wr.setRow R cs) :=
  ⟨h.os, h.tape, h.output, by rw [setRow_len]; exact h.size, fun k hk hb => by rw [setRow_other cs (by omega)]; exact h.block k hk hb⟩
theorem Ps.keep {b n : Nat} {s l : List UInt8} {w w' : World} (h : Ps b s l n w) (e : w'.heap[b]? = w.heap[b]?) : Ps b s l n w' := ⟨e.trans h.at_, h.suf, h.len, h.cnt⟩
theorem cell_four_new (w : World) (x0 x1 x2 x3 : Value) (t : TypeId) : ∀ j u, [x0, x1, x2, x3][j]? = some u → (w.alloc (.cells #[x0, x1, x2, x3] t)).cell? ((⟨w.heap.size, 0, none⟩ : Addr).add j) = some u := by
  intro j u hj
  exact World.news_of_block (heap_alloc_last w (.cells #[x0, x1, x2, x3] t)) j u hj
abbrev z4 : Array Value := #[.int .i64 0, .string ⟨#[]⟩, .slice none 0 0, .slice none 0 0]
set_option maxHeartbeats 8000000 in
set_option maxRecDepth 100000 in
theorem list_any {b n k : Nat} {d : Int} {s l : List UInt8} {w : World} (hV : ValC k d b s) (h : Ps b s l n w) :
    Calls Tryd.prog 66 #[.pointer (some ⟨b, 0, none⟩), .int .i64 d] w (ValPost b s w ((Jsn.nestR (Jsn.stepL (Jsn.valueR k)) 93 ⟨n, [], []⟩ l).map fun st => (.mk 5 [] [] st.kids, st.n))) := by
  obtain ⟨i0, hi, hz0, hz1, hz2⟩ := info_parts infoVal
  have hzv := (zero_of_info zeroVal).1
  have hfine := Jsn.stepL_fine (Jsn.value_fine k)
  have hbl := h.lt
  have hlen := h.len
  unfold ValPost
  generalize hX : (Jsn.nestR (Jsn.stepL (Jsn.valueR k)) 93 ⟨n, [], []⟩ l) = X
  have hX2 : X = (Jsn.takes 93 l).bind fun is r => if is = true then .ok ⟨n, [], []⟩ r else Jsn.loopR (Jsn.stepL (Jsn.valueR k)) 93 ⟨n, [], []⟩ r := hX.symm
  clear hX
  have hB0 : Below w.heap.size w ((w.alloc (.cells z4 25)).alloc (.cells #[.int .i64 5, .string ⟨#[]⟩, .slice none 0 0, .slice none 0 0] 25)) := ((Below.refl _ w).alloc (Nat.le_refl _) _).alloc (by simp) _
  have hR0 : VAt ((w.alloc (.cells z4 25)).alloc (.cells #[.int .i64 5, .string ⟨#[]⟩, .slice none 0 0, .slice none 0 0] 25)) w.heap.size (.int .i64 0) (.string ⟨#[]⟩) (.slice none 0 0) (.slice none 0 0) := by
    unfold VAt
    rw [Lib.alloc_old _ _ _ (by simp)]
    exact heap_alloc_last w _
  have hL0 : VAt ((w.alloc (.cells z4 25)).alloc (.cells #[.int .i64 5, .string ⟨#[]⟩, .slice none 0 0, .slice none 0 0] 25)) (w.heap.size + 1) (.int .i64 5) (.string ⟨#[]⟩) (.slice none 0 0) (.slice none 0 0) := by
    unfold VAt
    have e : w.heap.size + 1 = (w.alloc (.cells z4 25)).heap.size := by simp
    rw [e]
    exact heap_alloc_last _ _
  have hs0 : w.heap.size + 2 ≤ ((w.alloc (.cells z4 25)).alloc (.cells #[.int .i64 5, .string ⟨#[]⟩, .slice none 0 0, .slice none 0 0] 25)).heap.size := by simp
  have hP0 := h.step hB0
  have hT := takes_any (c := 93) hP0
  go_enter Tryd.func66, Tryd.ntmps66
  go_wp2_with fail
  generalize (w.alloc (.cells z4 25)).alloc (.cells #[.int .i64 5, .string ⟨#[]⟩, .slice none 0 0, .slice none 0 0] 25) = W0 at hB0 hR0 hL0 hs0 hP0 hT ⊢
  go_at_call 80
  cases ht : Jsn.takes 93 l with
  | err y q =>
    rw [ht] at hT hX2
    refine hT.mono ?_
    rintro e w1 ⟨hK1, hA⟩
    replace hA : e = boom s y q := hA
    subst hA
    exact ⟨rfl, (Kept.of hB0).trans hK1, by rw [hX2]; rfl⟩
  | ok is r =>
    rw [ht] at hT hX2
    refine hT.mono ?_
    rintro e w1 ⟨hK1, rfl, hP1⟩
    have hrl : r.length ≤ l.length := by have := Jsn.takes_fine 93 l; rw [ht] at this; exact List.IsSuffix.length_le this
    have hle := h.le
    have hL1 := hL0.keep (hK1.block _ (by omega) (by omega))
    have hR1 := hR0.keep (hK1.block _ (by omega) (by omega))
    have hs1 := hK1.size
    have HX : Hid (X = if (!is) = true then Jsn.loopR (Jsn.stepL (Jsn.valueR k)) 93 ⟨n, [], []⟩ r else .ok ⟨n, [], []⟩ r) := by
      show _ = _
      rw [hX2]
      cases is <;> rfl
    have hKw := (Kept.of (b := b) hB0).trans hK1
    clear hX2 hT hL0 hR0 hP0 hK1 hB0 ht
    go_wp2_with fail
    go_loopw [6] (fun mv wr => ∃ (m : Bool) (st : Jsn.St) (z : List UInt8) (kv : Value) (vs : List V4), mv = .bool m ∧ st.keys = [] ∧ VAt wr (w.heap.size + 1) (.int .i64 5) (.string ⟨#[]⟩) (.slice none 0 0) kv ∧ VAt wr w.heap.size (.int .i64 0) (.string ⟨#[]⟩) (.slice none 0 0) (.slice none 0 0) ∧ GKids (w.heap.size + 2) wr kv st.kids vs ∧ Ps b s z st.n wr ∧ Kept b w wr ∧ w.heap.size + 2 ≤ wr.heap.size ∧ st.kids.length + z.length ≤ s.length ∧ Hid (X = if m = true then Jsn.loopR (Jsn.stepL (Jsn.valueR k)) 93 st z else .ok st z)) (fun mv wr => leftM b s mv wr)
    case atStart => exact ⟨!is, ⟨n, [], []⟩, r, _, [], rfl, rfl, hL1, hR1, GKids.nil _ _, hP1, hKw, by omega, by simp; omega, HX⟩
    case round =>
      obtain ⟨m, st, z, kv, vs, rfl, hkeys, hL, hR, hG, hP, hK, hs, hcnt, HE⟩ := hrel
      clear HX hL1 hR1 hP1 hKw
      cases m with
      | false =>
        have HY : Hid (X = .ok st z) := HE.out
        obtain ⟨a1, c1, hform⟩ := hG.form
        subst hform
        have hR2 := setRow_V hR (.int .i64 5) (.string ⟨#[]⟩) (.slice none 0 0) (.slice a1 st.kids.length c1)
        go_wp2_with (first
          | ((with_reducible show wpList _ _ _ ({ op := Op.load 25 _, .. } :: _) _ _); refine wpList_load_V _ rfl rfl _ _ _ _ _ rfl hL ?_)
          | ((with_reducible show wpList _ _ _ ({ op := Op.store 25 _ _, .. } :: _) _ _); refine wpList_store_V _ _ rfl rfl _ _ _ _ _ rfl rfl hR (ones_mk _ _ _ _ _ _ _ _) ?_))
        refine ret_V rfl rfl rfl hR2 ⟨hK.row (Nat.le_refl _) _, ?_⟩
        rw [HY.out]
        refine ⟨_, rfl, RV_mk.2 ⟨_, _, rfl, .inl ⟨_, _, rfl, rfl⟩, ?_⟩, hP.keep (setRow_other _ (by omega))⟩
        exact hG.reads.keep (by rw [setRow_len]; exact Nat.le_refl _) (fun k hk _ => ⟨by omega, setRow_other _ (by omega)⟩)
      | true =>
        have hE : X = Jsn.loopR (Jsn.stepL (Jsn.valueR k)) 93 st z := HE.out
        clear HE
        have hst : Jsn.stepL (Jsn.valueR k) st z = (Jsn.valueR k st.n z).bind fun p r => .ok ⟨p.2, st.keys, st.kids ++ [p.1]⟩ r := rfl
        have hVz := hV st.n z
        have c3 : wr.cell? ⟨w.heap.size + 1, 3, none⟩ = some kv := hL.cell 3
        have f3 := hL.free 3
        obtain ⟨a1, cp1, hform⟩ := hG.form
        cases hv : Jsn.valueR k st.n z with
        | err y q =>
          rw [hv] at hst
          rw [loop_err hfine hst] at hE
          have HY := show Hid _ from hE
          clear hE hst
          go_wp2_with fail
          refine wp_region_held_drew (S := fun W => W.cell? ⟨w.heap.size + 1, 3, none⟩ = some kv) (by kernel_rfl) c3 (fun hS => ?_)
          refine takeH 0 14 (.pointer (some ⟨w.heap.size + 1, 3, none⟩)) rfl rfl (by kernel_rfl) (by kernel_rfl) (by kernel_rfl) (fun _ _ _ h => h) (Or.inl ⟨by kernel_rfl, fun W hSW => by go_simp⟩) hS ?_
          simp only [Act.put, List.setIfInBounds_toArray, List.set_cons_zero, List.set_cons_succ]
          refine takeH 1 15 (kv) rfl rfl (by kernel_rfl) (by kernel_rfl) (by kernel_rfl) (fun _ _ _ h => h) (Or.inl ⟨by kernel_rfl, fun W hSW => by go_simp⟩) hS ?_
          simp only [Act.put, List.setIfInBounds_toArray, List.set_cons_zero, List.set_cons_succ]
          refine takeH 2 16 (.pointer (some ⟨b, 0, none⟩)) rfl rfl (by kernel_rfl) (by kernel_rfl) (by kernel_rfl) (fun _ _ _ h => h) (Or.inl ⟨by kernel_rfl, fun W hSW => by go_simp⟩) hS ?_
          simp only [Act.put, List.setIfInBounds_toArray, List.set_cons_zero, List.set_cons_succ]
          refine takeH 3 17 (.int .i64 d) rfl rfl (by kernel_rfl) (by kernel_rfl) (by kernel_rfl) (fun _ _ _ h => h) (Or.inl ⟨by kernel_rfl, fun W hSW => by go_simp⟩) hS ?_
          simp only [Act.put, List.setIfInBounds_toArray, List.set_cons_zero, List.set_cons_succ]
          refine wpAnyH_ready (rs := [4]) (by kernel_rfl) (by simp) ?_
          refine AllReadyH.cons rfl (fun K hK0 => ?_) AllReadyH.nil
          go_simp
          refine (hVz _ hP.drew).mono ?_
          rintro e w2 ⟨hK2, hA⟩
          rw [hv] at hA
          replace hA : e = boom s y q := hA
          subst hA
          exact ⟨rfl, hK.drew.trans hK2, by rw [HY.out]; rfl⟩
        | ok pr r2 =>
          rw [hv] at hst
          replace hst : Jsn.stepL (Jsn.valueR k) st z = .ok ⟨pr.2, st.keys, st.kids ++ [pr.1]⟩ r2 := hst
          rw [loop_ok hfine hst] at hE
          have hrz : r2.length ≤ z.length := by have := Jsn.value_fine k st.n z; rw [hv] at this; exact List.IsSuffix.length_le this
          have HY := show Hid _ from hE
          clear hE hst
          subst hform
          go_wp2_with fail
          go_region_law (first
            | (go_simp; refine (hVz _ hP.drew).mono ?_; rintro e w2 ⟨hK2, hA⟩; rw [hv] at hA; obtain ⟨v2, rfl, hr2, hP2⟩ := hA; obtain ⟨aa, na, ca, ab, nb, cb, rfl⟩ := hr2.shape; have hs2 : wr.heap.size ≤ w2.heap.size := hK2.size; have hwl := hL.lt; have hL2 : VAt w2 (w.heap.size + 1) (.int .i64 5) (.string ⟨#[]⟩) (.slice none 0 0) (.slice a1 st.kids.length cp1) := hL.keep (hK2.block (w.heap.size + 1) hL.lt (by omega)); have c32 : w2.cell? ⟨w.heap.size + 1, 3, none⟩ = some (.slice a1 st.kids.length cp1) := hL2.cell 3; have c3a : (w2.alloc (.cells #[.int .i64 pr.1.kind, .string (str pr.1.text), .slice aa na ca, .slice ab nb cb] 25)).cell? ⟨w.heap.size + 1, 3, none⟩ = some (.slice a1 st.kids.length cp1) := (hL2.keep (Lib.alloc_old w2 _ (w.heap.size + 1) (by omega))).cell 3; have hGa := (hG.keep hs2 (fun k hk hl => hK2.block k hl (by omega))).keep (w' := w2.alloc (.cells #[.int .i64 pr.1.kind, .string (str pr.1.text), .slice aa na ca, .slice ab nb cb] 25)) (by simp) (fun k _ hl => Lib.alloc_old w2 _ k hl); have hnew := cell_four_new w2 (.int .i64 pr.1.kind) (.string (str pr.1.text)) (.slice aa na ca) (.slice ab nb cb) 25; have hLne : some (w.heap.size + 1) ≠ (Value.slice a1 st.kids.length cp1).ownBlock := fun e => by have := (World.ownsRow.lt hG.own _ e.symm).1; omega)
            | (refine step_append_lies _ rfl (.tmp 15) (.tmp 19) 23 rfl (w.heap.size + 2) 25 i0 (vv (.int .i64 0) (.string ⟨#[]⟩) (.slice none 0 0) (.slice none 0 0)) 4 72 Tryd.underlying23 hi hz0 hz1 hz2 rfl (by decide) _ _ _ rfl hGa.own ⟨w2.heap.size, 0, none⟩ 1 1 [.int .i64 pr.1.kind, .string (str pr.1.text), .slice aa na ca, .slice ab nb cb] rfl rfl hnew (fun x hx => by simp at hx; rcases hx with rfl | rfl | rfl | rfl <;> rfl) (by decide) (by unfold maxLen; omega) (by omega) (by simp; omega) _ rfl ?_; intro g cap w3 hown' hgrow3 hat hglt; have hL3 : VAt w3 (w.heap.size + 1) (.int .i64 5) (.string ⟨#[]⟩) (.slice none 0 0) (.slice a1 st.kids.length cp1) := hL2.keep ((hgrow3.block (w.heap.size + 1) (by simp; omega) hLne).trans (Lib.alloc_old w2 _ (w.heap.size + 1) (by omega))); have c33 : w3.cell? ⟨w.heap.size + 1, 3, none⟩ = some (.slice a1 st.kids.length cp1) := hL3.cell 3; have f33 := hL3.free 3))
          all_goals (
            have hrv : RV (off (w.heap.size + 2) (.slice a1 st.kids.length cp1)) (w2.alloc (.cells #[.int .i64 pr.1.kind, .string (str pr.1.text), .slice aa na ca, .slice ab nb cb] 25)) pr.1 (vv (.int .i64 pr.1.kind) (.string (str pr.1.text)) (.slice aa na ca) (.slice ab nb cb)) := RV.keep (by simp) (fun k hk hl => ⟨⟨by have : wr.heap.size ≤ k := hk; omega, fun e => by have h1 := (World.ownsRow.lt hG.own _ e.symm).2; have : wr.heap.size ≤ k := hk; omega⟩, Lib.alloc_old w2 _ k hl⟩) hr2
            have hG3 := hGa.more hgrow3 hat (by simp) hown' hrv
            have hgs := hgrow3.size
            have hbne : some b ≠ (Value.slice a1 st.kids.length cp1).ownBlock := fun e => by have := (World.ownsRow.lt hG.own _ e.symm).1; omega
            have hP3 := (hP2.keep (Lib.alloc_old w2 (.cells #[.int .i64 pr.1.kind, .string (str pr.1.text), .slice aa na ca, .slice ab nb cb] 25) b hP2.lt)).keep (hgrow3.block b (by have := hP2.lt; simp; omega) hbne)
            have hK3 : Kept b w w3 := by
              refine ⟨hgrow3.os.trans (hK2.os.trans hK.os), hgrow3.tape.trans (hK2.tape.trans hK.tape), hgrow3.output.trans (hK2.output.trans hK.output), by simp at hgs; omega, fun k hk hkb => ?_⟩
              rw [hgrow3.block k (by simp; omega) (fun e => by have := (World.ownsRow.lt hG.own _ e.symm).1; omega), Lib.alloc_old w2 _ k (by omega)]
              exact (hK2.block k (show k < wr.heap.size by omega) hkb).trans (hK.block k hk hkb)
            have hR3 := hR.keep ((hgrow3.block w.heap.size (by simp; omega) (fun e => by have := (World.ownsRow.lt hG.own _ e.symm).1; omega)).trans ((Lib.alloc_old w2 _ w.heap.size (by omega)).trans (hK2.block w.heap.size (show w.heap.size < wr.heap.size by omega) (by omega))))
            have hL4 := hL3.kids (.slice (some ⟨g, 0, none⟩) (st.kids.length + 1) cap)
            have hG4 := hG3.keep (w' := w3.setCell ⟨w.heap.size + 1, 3, none⟩ (.slice (some ⟨g, 0, none⟩) (st.kids.length + 1) cap)) (by simp) (fun k hk _ => Below.heap_setCell _ _ _ _ (by show k ≠ w.heap.size + 1; omega))
            have hP4 := hP3.keep (w' := w3.setCell ⟨w.heap.size + 1, 3, none⟩ (.slice (some ⟨g, 0, none⟩) (st.kids.length + 1) cap)) (Below.heap_setCell _ _ _ _ (by show b ≠ w.heap.size + 1; omega))
            have hR4 := hR3.keep (w' := w3.setCell ⟨w.heap.size + 1, 3, none⟩ (.slice (some ⟨g, 0, none⟩) (st.kids.length + 1) cap)) (Below.heap_setCell _ _ _ _ (by show w.heap.size ≠ w.heap.size + 1; omega))
            have hK4 : Kept b w (w3.setCell ⟨w.heap.size + 1, 3, none⟩ (.slice (some ⟨g, 0, none⟩) (st.kids.length + 1) cap)) := hK3.behind ((Below.refl _ _).setCell (p := ⟨w.heap.size + 1, 3, none⟩) (by show w.heap.size ≤ w.heap.size + 1; omega) _)
            have hs4 : w.heap.size + 2 ≤ (w3.setCell ⟨w.heap.size + 1, 3, none⟩ (.slice (some ⟨g, 0, none⟩) (st.kids.length + 1) cap)).heap.size := by simp at hgs ⊢; omega
            generalize w3.setCell ⟨w.heap.size + 1, 3, none⟩ (.slice (some ⟨g, 0, none⟩) (st.kids.length + 1) cap) = W4 at hL4 hG4 hP4 hR4 hK4 hs4 ⊢
            have hgo := goesOn_any (c := 93) hP4
            clear hG3 hP3 hK3 hR3 hL3 hrv hown' hgrow3 hGa hnew hr2 hP2 hL2 c33 f33 c32 c3a
            cases hgr : Jsn.goesOn 93 r2 with
            | err y q =>
              rw [hgr] at hgo
              have HZ : Hid (X = .err y q) := by show _ = _; rw [HY.out, hgr]; rfl
              go_wp2_with (first
                | (go_at_call 81; refine hgo.mono ?_; rintro e w5 ⟨hK5, hA5⟩; replace hA5 : e = boom s y q := hA5; subst hA5))
              exact ⟨rfl, hK4.trans hK5, by rw [HZ.out]; rfl⟩
            | ok m2 l2 =>
              rw [hgr] at hgo
              have hl2 := goes_lt hgr
              have HZ : Hid (X = if m2 = true then Jsn.loopR (Jsn.stepL (Jsn.valueR k)) 93 ⟨pr.2, st.keys, st.kids ++ [pr.1]⟩ l2 else .ok ⟨pr.2, st.keys, st.kids ++ [pr.1]⟩ l2) := by show _ = _; rw [HY.out, hgr]; rfl
              go_wp2_with (first
                | (go_at_call 81; refine hgo.mono ?_; rintro e w5 ⟨hK5, rfl, hP5⟩))
              go_roundw
              case rel =>
                exact ⟨m2, ⟨pr.2, st.keys, st.kids ++ [pr.1]⟩, l2, _, _, rfl, hkeys, hL4.keep (hK5.block _ hL4.lt (by omega)), hR4.keep (hK5.block _ hR4.lt (by omega)), hG4.keep hK5.size (fun k hk hl => hK5.block k hl (by omega)), hP5, hK4.trans hK5, by have := hK5.size; omega, by simp; omega, HZ⟩
              case measure =>
                cases m2 with
                | true =>
                  show leftOf b s w5 + 1 < leftOf b s wr + 1
                  rw [hP5.left, hP.left]
                  omega
                | false =>
                  show 0 < leftOf b s wr + 1
                  omega)
end Go.Proofs.YtpnmiknikkhliaaDoor
