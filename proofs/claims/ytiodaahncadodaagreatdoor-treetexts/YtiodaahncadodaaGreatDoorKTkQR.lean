/- Texts laid as one. -/
import Derived.Test.YtiodaahncadodaaGreatDoorKTkIJ
import Derived.Test.YtiodaahncadodaaGreatDoorKURepair
import Derived.Maps.AppendAt
/- The contract of token.Clean: three replacements are one. -/
set_option linter.unusedVariables false
set_option linter.unusedSimpArgs false
namespace Tk
open Go
theorem repK_miss (old new : List UInt8) (hne : old ≠ []) (c : UInt8) (t : List UInt8) (h : old.isPrefixOf (c :: t) = false) : ∀ k, Lib.replaceK old new k (c :: t) = c :: Lib.replaceK old new k t
  | 0 => rfl
  | k + 1 => by
    have hge := Lib.index_ge t old
    have e : Lib.index (c :: t) old = if Lib.index t old == -1 then -1 else Lib.index t old + 1 := by
      rw [Lib.index, h]
      rfl
    rw [Lib.replaceK, Lib.replaceK, e]
    by_cases hi : Lib.index t old = -1
    · rw [hi]
      rfl
    · have e1 : (Lib.index t old == -1) = false := by simpa using hi
      have e2 : (Lib.index t old + 1 == -1) = false := by
        rw [beq_eq_false_iff_ne]
        omega
      have e3 : (Lib.index t old + 1).toNat = (Lib.index t old).toNat + 1 := by omega
      rw [e1]
      simp only [Bool.false_eq_true, if_false]
      rw [e2]
      simp only [Bool.false_eq_true, if_false]
      rw [e3, List.take_succ_cons, show (Lib.index t old).toNat + 1 + old.length = (Lib.index t old).toNat + old.length + 1 from by omega, List.drop_succ_cons]
      rfl
theorem count_skip (old : List UInt8) (hne : old ≠ []) (c : UInt8) (t : List UInt8) (h : old.isPrefixOf (c :: t) = false) : Lib.count (c :: t) old = Lib.count t old := by
  have hge := Lib.index_ge t old
  have e : Lib.index (c :: t) old = if Lib.index t old == -1 then -1 else Lib.index t old + 1 := by
    rw [Lib.index, h]
    rfl
  by_cases hi : Lib.index t old = -1
  · rw [hi] at e
    rw [Lib.count_miss hi, Lib.count_miss (e.trans rfl)]
  · have e1 : (Lib.index t old == -1) = false := by simpa using hi
    rw [e1] at e
    simp only [Bool.false_eq_true, if_false] at e
    obtain ⟨i, hii⟩ : ∃ i : Nat, Lib.index t old = i := ⟨(Lib.index t old).toNat, by omega⟩
    rw [Lib.count_hit hne hii, Lib.count_hit (i := i + 1) hne (by rw [e, hii]; rfl), show i + 1 + old.length = i + old.length + 1 from by omega, List.drop_succ_cons]
theorem all_eq (s old new : List UInt8) (hn : old ≠ new) : Lib.replaceAll s old new = Lib.replaceK old new (Lib.count s old) s := by
  unfold Lib.replaceAll Lib.replace Lib.replaceNum
  rw [if_neg (by simpa using hn), if_pos (.inl (by decide))]
theorem rp_nil (old new : List UInt8) (hne : old ≠ []) (hn : old ≠ new) : Lib.replaceAll [] old new = [] := by
  rw [all_eq _ _ _ hn, Lib.count_miss (by rw [Lib.index]; cases old with | nil => exact absurd rfl hne | cons => rfl)]
  rfl
theorem rp_miss (old new : List UInt8) (hne : old ≠ []) (hn : old ≠ new) (c : UInt8) (t : List UInt8) (h : old.isPrefixOf (c :: t) = false) : Lib.replaceAll (c :: t) old new = c :: Lib.replaceAll t old new := by
  rw [all_eq _ _ _ hn, all_eq _ _ _ hn, repK_miss old new hne c t h, count_skip old hne c t h]
theorem rp_hit (old new : List UInt8) (hne : old ≠ []) (hn : old ≠ new) (c : UInt8) (t : List UInt8) (h : old.isPrefixOf (c :: t) = true) : Lib.replaceAll (c :: t) old new = new ++ Lib.replaceAll ((c :: t).drop old.length) old new := by
  have hi : Lib.index (c :: t) old = (0 : Nat) := by rw [Lib.index, h]; rfl
  rw [all_eq _ _ _ hn, all_eq _ _ _ hn, Lib.count_hit hne hi, Nat.add_comm 1, Lib.replaceK_hit _ _ _ _ 0 hi, Nat.zero_add]
  rfl
/-- The three replacements. -/
def r1 (l : List UInt8) : List UInt8 := Lib.replaceAll l [13, 10] [10]
def r2 (l : List UInt8) : List UInt8 := Lib.replaceAll l [13] [10]
def r3 (l : List UInt8) : List UInt8 := Lib.replaceAll l [0] [239, 191, 189]
theorem r2_miss (c : UInt8) (t : List UInt8) (h : c ≠ 13) : r2 (c :: t) = c :: r2 t :=
  rp_miss _ _ (by simp) (by decide) c t (by simp [List.isPrefixOf, Ne.symm h])
theorem r3_miss (c : UInt8) (t : List UInt8) (h : c ≠ 0) : r3 (c :: t) = c :: r3 t :=
  rp_miss _ _ (by simp) (by decide) c t (by simp [List.isPrefixOf, Ne.symm h])
theorem r1_miss (c : UInt8) (t : List UInt8) (h : ¬ (c = 13 ∧ t.head? = some 10)) : r1 (c :: t) = c :: r1 t := by
  refine rp_miss _ _ (by simp) (by decide) c t ?_
  cases t with
  | nil => simp [List.isPrefixOf]
  | cons d t =>
    simp only [List.isPrefixOf, Bool.and_true, Bool.and_eq_false_iff, beq_eq_false_iff_ne]
    by_cases hc : c = 13
    · exact .inr fun e => h ⟨hc, by rw [← e]; rfl⟩
    · exact .inl (Ne.symm hc)
theorem norm_three : ∀ l : List UInt8, norm l = r3 (r2 (r1 l))
  | [] => by
    unfold r3 r2 r1
    rw [rp_nil _ _ (by simp) (by decide), rp_nil _ _ (by simp) (by decide), rp_nil _ _ (by simp) (by decide)]
    rfl
  | c :: t => by
    have ih := norm_three t
    rw [norm]
    by_cases hc : c = 13
    · rw [if_pos hc]
      by_cases ht : t.head? = some 10
      · rw [if_pos ht, List.nil_append, ih]
        cases t with
        | nil => cases ht
        | cons d t =>
          have hd : d = 10 := by simpa using ht
          subst hd hc
          have e1 : r1 (13 :: 10 :: t) = 10 :: r1 t := rp_hit _ _ (by simp) (by decide) 13 (10 :: t) (by simp [List.isPrefixOf])
          rw [e1, r1_miss 10 t (by simp)]
      · rw [if_neg ht, r1_miss c t (fun e => ht e.2), hc, ih]
        have e2 : r2 (13 :: r1 t) = 10 :: r2 (r1 t) := rp_hit _ _ (by simp) (by decide) 13 _ (by simp [List.isPrefixOf])
        rw [e2, r3_miss 10 _ (by decide)]
        rfl
    · rw [if_neg hc, r1_miss c t (fun e => hc e.1), r2_miss c _ hc, ih]
      by_cases h0 : c = 0
      · subst h0
        have e3 : r3 (0 :: r2 (r1 t)) = [239, 191, 189] ++ r3 (r2 (r1 t)) := rp_hit _ _ (by simp) (by decide) 0 _ (by simp [List.isPrefixOf])
        rw [if_pos rfl, e3]
      · rw [if_neg h0, r3_miss c _ h0]
        rfl
theorem rp_len (old new : List UInt8) (hne : old ≠ []) (hn : old ≠ new) (m : Nat) (h1 : 1 ≤ m) (hm : new.length ≤ m) : ∀ (f : Nat) (l : List UInt8), l.length ≤ f → (Lib.replaceAll l old new).length ≤ m * l.length
  | 0, l, h => by
    have : l = [] := List.eq_nil_of_length_eq_zero (by omega)
    subst this
    rw [rp_nil _ _ hne hn]
    exact Nat.zero_le _
  | f + 1, [], h => by
    rw [rp_nil _ _ hne hn]
    exact Nat.zero_le _
  | f + 1, c :: t, h => by
    cases hp : old.isPrefixOf (c :: t)
    · rw [rp_miss _ _ hne hn c t hp]
      have := rp_len old new hne hn m h1 hm f t (by simpa using h)
      simp only [List.length_cons, Nat.mul_add, Nat.mul_one]
      omega
    · rw [rp_hit _ _ hne hn c t hp, List.length_append]
      have ho : 1 ≤ old.length := by cases old <;> simp at hne ⊢
      have := rp_len old new hne hn m h1 hm f ((c :: t).drop old.length) (by rw [List.length_drop, List.length_cons]; simp only [List.length_cons] at h; omega)
      have h3 : m * ((c :: t).drop old.length).length ≤ m * t.length := Nat.mul_le_mul_left _ (by rw [List.length_drop, List.length_cons]; omega)
      simp only [List.length_cons, Nat.mul_add, Nat.mul_one]
      omega
theorem r1_len (l : List UInt8) : (r1 l).length ≤ l.length := by
  have := rp_len [13, 10] [10] (by simp) (by decide) 1 (by decide) (by decide) _ l (Nat.le_refl _)
  unfold r1
  omega
theorem r2_len (l : List UInt8) : (r2 l).length ≤ l.length := by
  have := rp_len [13] [10] (by simp) (by decide) 1 (by decide) (by decide) _ l (Nat.le_refl _)
  unfold r2
  omega
end Tk
namespace Go.Proofs.YtiodaahncadodaaGreatDoor
open Go.RowKit
theorem Rep_any (old new : ByteArray) (l : List UInt8) (w : World) (hM : MaxL w) (hz : l.length ≤ 1000000000) (h1 : 1 ≤ old.size) (h2 : new.size ≤ 3) :
    Calls Tryz.prog 81 #[.string (str l), .string old, .string new] w fun e w' => e = .returned (.string (str (Lib.replaceAll l old.data.toList new.data.toList))) ∧ Below w.heap.size w w' := by
  obtain ⟨m, hm⟩ := hM
  have hcb : Lib.countB (str l) old ≤ l.length + 1 := by
    unfold Lib.countB
    rw [str_data]
    exact Lib.count_le _ _
  have := Tryz.strings_ReplaceAll (str l) old new m w (by rw [str_size]; omega) hm h1 (by
    rw [str_size]
    have := Nat.mul_le_mul hcb h2
    omega)
  rw [str_data] at this
  exact this
theorem hideQ {p : Prop} (h : p) : Hid p := h
set_option maxHeartbeats 1000000 in
theorem Clean_any (l : List UInt8) (w : World) (hE : EnvT w) (hz : l.length ≤ 1000000) :
    Calls Tryz.prog 51 #[.string (str l)] w fun e w' => e = .returned (.string (str (Tk.clean l))) ∧ Below w.heap.size w w' := by
  have hR := Repair_any l w (by omega)
  have hrl := Utf.rep_len l
  have H1 := hideQ (fun W h => Rep_any ⟨#[13, 10]⟩ ⟨#[10]⟩ (Utf.rep l) W h (by omega) (by decide) (by decide))
  have h1l := Tk.r1_len (Utf.rep l)
  have H2 := hideQ (fun W h => Rep_any ⟨#[13]⟩ ⟨#[10]⟩ (Tk.r1 (Utf.rep l)) W h (by omega) (by decide) (by decide))
  have h2l := Tk.r2_len (Tk.r1 (Utf.rep l))
  have H3 := hideQ (fun W h => Rep_any ⟨#[0]⟩ ⟨#[239, 191, 189]⟩ (Tk.r2 (Tk.r1 (Utf.rep l))) W h (by omega) (by decide) (by decide))
  have HX : Hid (Tk.clean l = Lib.replaceAll (Tk.r2 (Tk.r1 (Utf.rep l))) (⟨#[0]⟩ : ByteArray).data.toList (⟨#[239, 191, 189]⟩ : ByteArray).data.toList) := Tk.norm_three _
  have E1 : Hid (Lib.replaceAll (Utf.rep l) (⟨#[13, 10]⟩ : ByteArray).data.toList (⟨#[10]⟩ : ByteArray).data.toList = Tk.r1 (Utf.rep l)) := rfl
  have E2 : Hid (Lib.replaceAll (Tk.r1 (Utf.rep l)) (⟨#[13]⟩ : ByteArray).data.toList (⟨#[10]⟩ : ByteArray).data.toList = Tk.r2 (Tk.r1 (Utf.rep l))) := rfl
  have hM := hE.2
  rw [E1.out] at H1
  rw [E2.out] at H2
  generalize Lib.replaceAll (Tk.r2 (Tk.r1 (Utf.rep l))) (⟨#[0]⟩ : ByteArray).data.toList (⟨#[239, 191, 189]⟩ : ByteArray).data.toList = z at *
  clear E1 E2 h1l h2l hrl
  generalize Tk.r2 (Tk.r1 (Utf.rep l)) = y at *
  generalize Tk.r1 (Utf.rep l) = x at *
  generalize Utf.rep l = u at *
  go_enter Tryz.func51, Tryz.ntmps51
  go_wp2_with fail
  go_at_call 82
  refine hR.mono ?_
  rintro e w1 ⟨rfl, hb1⟩
  go_wp2_with fail
  go_at_call 81
  refine (H1.out w1 (hE.below hb1).2).mono ?_
  rintro e w2 ⟨rfl, hb2⟩
  replace hb2 := bel hb1 hb2
  clear hR H1 hb1
  go_wp2_with fail
  go_at_call 81
  refine (H2.out w2 (hE.below hb2).2).mono ?_
  rintro e w3 ⟨rfl, hb3⟩
  replace hb3 := bel hb2 hb3
  clear H2 hb2
  go_wp2_with fail
  go_at_call 81
  refine (H3.out w3 (hE.below hb3).2).mono ?_
  rintro e w4 ⟨rfl, hb4⟩
  replace hb4 := bel hb3 hb4
  clear H3 hb3
  go_wp2
  go_ret
  exact ⟨by rw [HX.out]; rfl, hb4⟩
end Go.Proofs.YtiodaahncadodaaGreatDoor
/- Rows of tokens of one's own, each with a row of attributes of its own; one further token is laid behind them. -/
namespace Go.Proofs.YtiodaahncadodaaGreatDoor
open Go.RowKit
theorem row_keepK {w w' : World} {B : Nat} {e : TypeId} {s n : Nat} {v : Value} {xs : List Value} (h : w.ownsRow B e s v n xs) (hk : ∀ k, v.ownBlock = some k → k < w.heap.size → w'.heap[k]? = w.heap[k]?) : w'.ownsRow B e s v n xs := by
  refine ⟨h.1, ?_⟩
  rcases h.2 with hn | ⟨g, cap, cur, rfl, hb, hgg, rest⟩
  · exact .inl hn
  · exact .inr ⟨g, cap, cur, rfl, hb, by rw [hk g rfl (Array.getElem?_eq_some_iff.1 hgg).1]; exact hgg, rest⟩
theorem row_mono {w : World} {B C : Nat} {e : TypeId} {s n : Nat} {v : Value} {xs : List Value} (h : w.ownsRow C e s v n xs) (hb : B ≤ C) : w.ownsRow B e s v n xs := by
  refine ⟨h.1, ?_⟩
  rcases h.2 with h0 | ⟨g, cap, cur, hv, h1, hc⟩
  · exact .inl h0
  · exact .inr ⟨g, cap, cur, hv, Nat.le_trans hb h1, hc⟩
/-- Two slices have no block in common. -/
def ApK (x v : Value) : Prop := ∀ k, x.ownBlock = some k → v.ownBlock = some k → False
abbrev TV := Tk.Tok × Value
def tokCells (ps : List TV) : List Value := ps.flatMap fun p => [.int .i64 p.1.kind, .string (str p.1.name), p.2, .bool p.1.self, .string (str p.1.text)]
theorem tokCells_snoc (ps : List TV) (p : TV) : tokCells (ps ++ [p]) = tokCells ps ++ [.int .i64 p.1.kind, .string (str p.1.name), p.2, .bool p.1.self, .string (str p.1.text)] := by simp [tokCells]
theorem tokCells_at : ∀ (ps : List TV) (j : Nat) (p : TV), ps[j]? = some p → (tokCells ps)[j * 5]? = some (.int .i64 p.1.kind) ∧ (tokCells ps)[j * 5 + 1]? = some (.string (str p.1.name)) ∧ (tokCells ps)[j * 5 + 2]? = some p.2 ∧ (tokCells ps)[j * 5 + 3]? = some (.bool p.1.self) ∧ (tokCells ps)[j * 5 + 4]? = some (.string (str p.1.text))
  | [], j, p, h => by simp at h
  | q :: ps, 0, p, h => by
    simp at h
    subst h
    exact ⟨rfl, rfl, rfl, rfl, rfl⟩
  | q :: ps, j + 1, p, h => by
    have := tokCells_at ps j p (by simpa using h)
    have e : tokCells (q :: ps) = .int .i64 q.1.kind :: .string (str q.1.name) :: q.2 :: .bool q.1.self :: .string (str q.1.text) :: tokCells ps := rfl
    rw [e, show (j + 1) * 5 = j * 5 + 1 + 1 + 1 + 1 + 1 from by omega]
    simpa using this
/-- A row of tokens, from block B on. -/
structure KR' (w : World) (B : Nat) (v : Value) (ps : List TV) : Prop where
  row : w.ownsRow B 56 5 v ps.length (tokCells ps)
  each : ∀ p ∈ ps, OwnsA w B p.2 p.1.attrs ∧ ApK p.2 v
def KR (w : World) (B : Nat) (v : Value) (ks : List Tk.Tok) : Prop := ∃ ps, ps.map (·.1) = ks ∧ KR' w B v ps
theorem KR.nil (w : World) (B : Nat) : KR w B (.slice none 0 0) [] := ⟨[], rfl, World.ownsRow_nil _ _ _ _, fun p h => by cases h⟩
theorem KR'.keep {w w' : World} {B : Nat} {v : Value} {ps : List TV} (h : KR' w B v ps) (hk : ∀ k, B ≤ k → k < w.heap.size → w'.heap[k]? = w.heap[k]?) : KR' w' B v ps :=
  ⟨row_keepK h.row (fun k e hl => hk k (World.ownsRow.lt h.row k e).1 hl), fun p hp => ⟨row_keepK (h.each p hp).1 (fun k e hl => hk k (World.ownsRow.lt (h.each p hp).1 k e).1 hl), (h.each p hp).2⟩⟩
theorem KR.keep {w w' : World} {B : Nat} {v : Value} {ks : List Tk.Tok} (h : KR w B v ks) (hk : ∀ k, B ≤ k → k < w.heap.size → w'.heap[k]? = w.heap[k]?) : KR w' B v ks := by
  obtain ⟨ps, h1, h2⟩ := h
  exact ⟨ps, h1, h2.keep hk⟩
theorem KR.below {w w' : World} {B : Nat} {v : Value} {ks : List Tk.Tok} (h : KR w B v ks) (hB : Below w.heap.size w w') : KR w' B v ks := h.keep (fun k _ hk => hB.block k hk)
theorem KR.kept {w w' : World} {B b : Nat} {v : Value} {ks : List Tk.Tok} (h : KR w B v ks) (hk : Kept b w w') (hb : b < B) : KR w' B v ks := h.keep (fun k h1 hl => hk.block k hl (by omega))
theorem KR.mono {w : World} {B B' : Nat} {v : Value} {ks : List Tk.Tok} (h : KR w B v ks) (hB : B' ≤ B) : KR w B' v ks := by
  obtain ⟨ps, h1, h2⟩ := h
  exact ⟨ps, h1, row_mono h2.row hB, fun p hp => ⟨OwnsPairs.mono (h2.each p hp).1 hB, (h2.each p hp).2⟩⟩
theorem KR.form {w : World} {B : Nat} {v : Value} {ks : List Tk.Tok} (h : KR w B v ks) : ∃ a c, v = .slice a ks.length c := by
  obtain ⟨ps, h1, h2⟩ := h
  have e : ps.length = ks.length := by rw [← h1, List.length_map]
  rcases h2.row.2 with ⟨rfl, hz⟩ | ⟨g, cap, cur, rfl, _⟩
  · exact ⟨none, 0, by rw [← e, hz]⟩
  · exact ⟨_, _, by rw [e]⟩
theorem KR.at_base {w : World} {B : Nat} {v : Value} {ks : List Tk.Tok} (h : KR w B v ks) {k : Nat} (hk : v.ownBlock = some k) : B ≤ k ∧ k < w.heap.size := by
  obtain ⟨ps, h1, h2⟩ := h
  exact World.ownsRow.lt h2.row k hk
/-- What a place of the row has. -/
theorem KR.at {w : World} {B : Nat} {a : Option Addr} {n c : Nat} {ks : List Tk.Tok} (h : KR w B (.slice a n c) ks) {j : Nat} {k : Tk.Tok} (hj : ks[j]? = some k) :
    ∃ g u, a = some ⟨g, 0, none⟩ ∧ B ≤ g ∧ g < w.heap.size ∧ n ≤ c ∧ w.cell? ⟨g, j * 5, none⟩ = some (.int .i64 k.kind) ∧ w.cell? ⟨g, j * 5 + 1, none⟩ = some (.string (str k.name)) ∧ w.cell? ⟨g, j * 5 + 2, none⟩ = some u ∧ w.cell? ⟨g, j * 5 + 3, none⟩ = some (.bool k.self) ∧ w.cell? ⟨g, j * 5 + 4, none⟩ = some (.string (str k.text)) ∧ OwnsA w B u k.attrs := by
  obtain ⟨ps, h1, h2⟩ := h
  have hjl : j < ks.length := (List.getElem?_eq_some_iff.1 hj).1
  have e : ps.length = ks.length := by rw [← h1, List.length_map]
  have hp : ps[j]? = some ps[j] := List.getElem?_eq_getElem (by omega)
  have hk : (ps[j]).1 = k := by
    have : (ps.map (·.1))[j]? = some k := by rw [h1]; exact hj
    rw [List.getElem?_map, hp] at this
    simpa using this
  have hr := h2.row
  rcases h2.row.2 with ⟨hs, hz⟩ | ⟨g, cap, cur, hs, hb, hg, hc, _⟩
  · omega
  · have hs2 : a = some ⟨g, 0, none⟩ ∧ n = ps.length ∧ c = cap := by
      simp only [Value.slice.injEq] at hs
      exact hs
    obtain ⟨rfl, rfl, rfl⟩ := hs2
    have hat := tokCells_at ps j _ hp
    rw [hk] at hat
    have hcell : ∀ i, i < 5 → w.cell? ⟨g, j * 5 + i, none⟩ = (tokCells ps)[j * 5 + i]? := fun i hi => World.ownsRow.cellAt (w := w) (base := B) (e := 56) (size := 5) (g := g) (cap := c) (n := ps.length) (xs := tokCells ps) hr (j * 5 + i) (by omega)
    have hm : ps[j] ∈ ps := List.getElem_mem (by omega)
    have ho := (h2.each _ hm).1
    rw [hk] at ho
    exact ⟨g, (ps[j]).2, rfl, hb, (Array.getElem?_eq_some_iff.1 hg).1, hc, (hcell 0 (by omega)).trans hat.1, (hcell 1 (by omega)).trans hat.2.1, (hcell 2 (by omega)).trans hat.2.2.1, (hcell 3 (by omega)).trans hat.2.2.2.1, (hcell 4 (by omega)).trans hat.2.2.2.2, ho⟩
theorem infoTok : (Tryz.prog.info? 56).map (fun i => (i.zero, i.size, i.bytes)) = some (some (.agg kCells0), 5, 72) := by kernel_rfl
theorem OwnsPairs.slice {t : TypeId} {w : World} {B : Nat} {v : Value} {ps : List Pr} (h : OwnsPairs t w B v ps) : v.oneCell' = true := by
  obtain ⟨a, c, rfl⟩ := h.reads.form
  rfl
theorem cell_five_new (w : World) (x0 x1 x2 x3 x4 : Value) (t : TypeId) : ∀ (j : Nat) (u : Value), [x0, x1, x2, x3, x4][j]? = some u → (w.alloc (.cells #[x0, x1, x2, x3, x4] t)).cell? ((⟨w.heap.size, 0, none⟩ : Addr).add j) = some u := by
  intro j u hj
  have hh := heap_new w (.cells #[x0, x1, x2, x3, x4] t)
  rw [add_addr, Nat.zero_add, Lib.cell_of_heap hh]
  rcases j with _ | _ | _ | _ | _ | j
  · exact hj
  · exact hj
  · exact hj
  · exact hj
  · exact hj
  · simp at hj
end Go.Proofs.YtiodaahncadodaaGreatDoor
