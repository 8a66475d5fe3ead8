/- Texts laid as one. -/
import Derived.Test.YtoiedadfpbbdgaaGreatKTkSV
import Derived.Test.YtoiedadfpbbdgaaGreatKTreRU
import Derived.Test.YtoiedadfpbbdgaaGreatKRfM
import Derived.Test.YtoiedadfpbbdgaaGreatKTreNW
import Derived.Test.YtoiedadfpbbdgaaGreatKTreM
import Derived.Test.YtoiedadfpbbdgaaGreatKTreAE
/- Rows of tokens whose rows of attributes are apart from one another (written by tools/mktret.py out of TkR and TkS); All's contract with them. -/
set_option linter.unusedVariables false
set_option linter.unusedSimpArgs false
namespace Go.Proofs.YtoiedadfpbbdgaaGreat
open Go.RowKit
/-- A row of tokens, from block B on. -/
structure KD' (w : World) (B U : Nat) (v : Value) (ps : List TV) : Prop where
  row : w.ownsRow B 110 5 v ps.length (tokCells ps)
  each : ∀ p ∈ ps, OwnsA w B p.2 p.1.attrs ∧ ApK p.2 v
  apart : ps.Pairwise fun p q => ApK p.2 q.2
  under : ∀ p ∈ ps, ∀ k, p.2.ownBlock = some k → k < U
def KD (w : World) (B U : Nat) (v : Value) (ks : List Tk.Tok) : Prop := ∃ ps, ps.map (·.1) = ks ∧ KD' w B U v ps
theorem KD.nil (w : World) (B U : Nat) : KD w B U (.slice none 0 0) [] := ⟨[], rfl, World.ownsRow_nil _ _ _ _, (fun p h => by cases h), List.Pairwise.nil, (fun p h => by cases h)⟩
theorem KD'.keep {w w' : World} {B U : Nat} {v : Value} {ps : List TV} (h : KD' w B U v ps) (hk : ∀ k, B ≤ k → k < w.heap.size → w'.heap[k]? = w.heap[k]?) : KD' w' B U v ps :=
  ⟨row_keepK h.row (fun k e hl => hk k (World.ownsRow.lt h.row k e).1 hl), fun p hp => ⟨row_keepK (h.each p hp).1 (fun k e hl => hk k (World.ownsRow.lt (h.each p hp).1 k e).1 hl), (h.each p hp).2⟩, h.apart, h.under⟩
theorem KD.keep {w w' : World} {B U : Nat} {v : Value} {ks : List Tk.Tok} (h : KD w B U v ks) (hk : ∀ k, B ≤ k → k < w.heap.size → w'.heap[k]? = w.heap[k]?) : KD w' B U v ks := by
  obtain ⟨ps, h1, h2⟩ := h
  exact ⟨ps, h1, h2.keep hk⟩
theorem KD.below {w w' : World} {B U : Nat} {v : Value} {ks : List Tk.Tok} (h : KD w B U v ks) (hB : Below w.heap.size w w') : KD w' B U v ks := h.keep (fun k _ hk => hB.block k hk)
theorem KD.kept {w w' : World} {B U b : Nat} {v : Value} {ks : List Tk.Tok} (h : KD w B U v ks) (hk : Kept b w w') (hb : b < B) : KD w' B U v ks := h.keep (fun k h1 hl => hk.block k hl (by omega))
theorem KD.mono {w : World} {B B' U U' : Nat} {v : Value} {ks : List Tk.Tok} (h : KD w B U v ks) (hB : B' ≤ B) (hU : U ≤ U') : KD w B' U' v ks := by
  obtain ⟨ps, h1, h2⟩ := h
  exact ⟨ps, h1, row_mono h2.row hB, fun p hp => ⟨OwnsPairs.mono (h2.each p hp).1 hB, (h2.each p hp).2⟩, h2.apart, fun p hp k e => Nat.lt_of_lt_of_le (h2.under p hp k e) hU⟩
theorem KD.form {w : World} {B U : Nat} {v : Value} {ks : List Tk.Tok} (h : KD w B U v ks) : ∃ a c, v = .slice a ks.length c := by
  obtain ⟨ps, h1, h2⟩ := h
  have e : ps.length = ks.length := by rw [← h1, List.length_map]
  rcases h2.row.2 with ⟨rfl, hz⟩ | ⟨g, cap, cur, rfl, _⟩
  · exact ⟨none, 0, by rw [← e, hz]⟩
  · exact ⟨_, _, by rw [e]⟩
theorem KD.at_base {w : World} {B U : Nat} {v : Value} {ks : List Tk.Tok} (h : KD w B U v ks) {k : Nat} (hk : v.ownBlock = some k) : B ≤ k ∧ k < w.heap.size := by
  obtain ⟨ps, h1, h2⟩ := h
  exact World.ownsRow.lt h2.row k hk
/-- What a place of the row has. -/
theorem KD.at {w : World} {B U : Nat} {a : Option Addr} {n c : Nat} {ks : List Tk.Tok} (h : KD w B U (.slice a n c) ks) {j : Nat} {k : Tk.Tok} (hj : ks[j]? = some k) :
    ∃ g u, a = some ⟨g, 0, none⟩ ∧ B ≤ g ∧ g < w.heap.size ∧ n ≤ c ∧ w.cell? ⟨g, j * 5, none⟩ = some (.int .i64 k.kind) ∧ w.cell? ⟨g, j * 5 + 1, none⟩ = some (.string (str k.name)) ∧ w.cell? ⟨g, j * 5 + 2, none⟩ = some u ∧ w.cell? ⟨g, j * 5 + 3, none⟩ = some (.bool k.self) ∧ w.cell? ⟨g, j * 5 + 4, none⟩ = some (.string (str k.text)) ∧ OwnsA w B u k.attrs := by
  obtain ⟨ps, h1, h2⟩ := h
  have hjl : j < ks.length := (List.getElem?_eq_some_iff.1 hj).1
  have e : ps.length = ks.length := by rw [← h1, List.length_map]
  have hp : ps[j]? = some ps[j] := List.getElem?_eq_getElem (by omega)
  have hk : (ps[j]).1 = k := by
    have : (ps.map (·.1))[j]? = some k := by rw [h1]; exact hj
    rw [List.getElem?_map, hp] at this
    simpa using this
  have hr := h2.row
  rcases h2.row.2 with ⟨hs, hz⟩ | ⟨g, cap, cur, hs, hb, hg, hc, _⟩
  · omega
  · have hs2 : a = some ⟨g, 0, none⟩ ∧ n = ps.length ∧ c = cap := by
      simp only [Value.slice.injEq] at hs
      exact hs
    obtain ⟨rfl, rfl, rfl⟩ := hs2
    have hat := tokCells_at ps j _ hp
    rw [hk] at hat
    have hcell : ∀ i, i < 5 → w.cell? ⟨g, j * 5 + i, none⟩ = (tokCells ps)[j * 5 + i]? := fun i hi => World.ownsRow.cellAt (w := w) (base := B) (e := 110) (size := 5) (g := g) (cap := c) (n := ps.length) (xs := tokCells ps) hr (j * 5 + i) (by omega)
    have hm : ps[j] ∈ ps := List.getElem_mem (by omega)
    have ho := (h2.each _ hm).1
    rw [hk] at ho
    exact ⟨g, (ps[j]).2, rfl, hb, (Array.getElem?_eq_some_iff.1 hg).1, hc, (hcell 0 (by omega)).trans hat.1, (hcell 1 (by omega)).trans hat.2.1, (hcell 2 (by omega)).trans hat.2.2.1, (hcell 3 (by omega)).trans hat.2.2.2.1, (hcell 4 (by omega)).trans hat.2.2.2.2, ho⟩
end Go.Proofs.YtoiedadfpbbdgaaGreat
/- The contract of tree.Parse. -/
namespace Go.Proofs.YtoiedadfpbbdgaaGreat
open Go.RowKit Go.Maps Go.WideMaps
/-- What Parse answers. -/
def parseR (s : List UInt8) : List Nd × Nat := if (allR s).2 = 0 then (match Tre.parseT (allR s).1 with | .error e => ([], e) | .ok ns => (ns, 0)) else ([], (allR s).2)
def ParsePost (w : World) (x : List Nd × Nat) (e : Ending) (w' : World) : Prop :=
  ∃ v, e = .returned (.tuple #[.agg #[v], .int .i64 (x.2 : Int)]) ∧ ReadsN w' v x.1 ∧ Below w.heap.size w w'
theorem allR_fits (s : List UInt8) : (allR s).1.length ≤ 16384 ∧ ∀ k ∈ (allR s).1, k.name.length ≤ 1000000 ∧ k.attrs.length ≤ 64 ∧ k.text.length ≤ 1000000 := by
  unfold allR
  split
  · exact ⟨Nat.zero_le _, fun k hk => by cases hk⟩
  · rename_i h
    have h1 : s.length ≤ 65536 := by omega
    have h2 := clean_len3 s
    refine ⟨by show (Tk.all (Tk.clean s)).length ≤ _; omega, fun k hk => ?_⟩
    have hz := (Tk.all_size (Tk.clean s) k hk).sz
    exact ⟨Nat.le_trans hz.1 (by omega), Tk.fine_ats k (Tk.all_fine _ k hk), Nat.le_trans hz.2.2 (by omega)⟩
/-- Which blocks the first tokens have handed over. -/
def Gone (tv : List TV) (j : Nat) : Nat → Prop := fun k => ∃ i p, i < j ∧ tv[i]? = some p ∧ p.2.ownBlock = some k
theorem step_err {b : Tre.St} {k : Tk.Tok} {e : Nat} (h : Tre.step b k = .error e) : e = 5 ∨ e = 8 := by
  unfold Tre.step at h
  split at h
  · unfold Tre.startT at h
    split at h
    · cases h
    · split at h
      · rename_i e2 he
        cases h
        exact lay_err he
      · cases h
  split at h
  · cases h
  split at h
  · unfold Tre.textT at h
    split at h
    · split at h
      · cases h
      · exact lay_err h
    · exact lay_err h
  · cases h
theorem Gone.more {tv : List TV} {j i k : Nat} (h : Gone tv j k) (hi : j ≤ i) : Gone tv i k := by
  obtain ⟨a, p, h1, h2, h3⟩ := h
  exact ⟨a, p, by omega, h2, h3⟩
end Go.Proofs.YtoiedadfpbbdgaaGreat
/- The contracts of the laws' own alive and long (layer 13); what Parse answers may be. -/
namespace Go.Proofs.YtoiedadfpbbdgaaGreat
open Go.RowKit
end Go.Proofs.YtoiedadfpbbdgaaGreat
