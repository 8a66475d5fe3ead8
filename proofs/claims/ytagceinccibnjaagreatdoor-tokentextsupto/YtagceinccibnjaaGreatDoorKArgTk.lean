/- What a law's walk is told of a token of the reference's that came in. -/
import Derived.Test.YtagceinccibnjaaGreatDoorKTrJK
import Derived.Test.YtagceinccibnjaaGreatDoorRows
import Derived.Lib.SmallJoins
import Derived.SizedLaws
import Derived.OpenShut
import Derived.ChangeArms
import Derived.Deep.SlicePairs
import Derived.ChangeSlices
import Derived.SliceStrings
set_option linter.unusedVariables false
namespace Go.Proofs.YtagceinccibnjaaGreatDoor
open Go.RowKit Go.ChangeShapes Go.WideShapes
theorem bulk_part12 {H : Type} {d : DataW H} {l : List (DataW H)} (h : d ∈ l) : Rows.uptoBulk d ≤ Rows.uptoBulkAll l := by
  induction l with
  | nil => cases h
  | cons x r ih =>
    simp only [Rows.uptoBulkAll]
    rcases List.mem_cons.1 h with rfl | e
    · omega
    · have := ih e; omega
theorem bulk_pos {H : Type} (d : DataW H) : 1 ≤ Rows.uptoBulk d := by
  cases d with
  | lit x => cases x <;> simp [Rows.uptoBulk]
  | _ => simp [Rows.uptoBulk]
theorem bulk_len {H : Type} : ∀ l : List (DataW H), l.length ≤ Rows.uptoBulkAll l
  | [] => Nat.zero_le _
  | x :: r => by
    have := bulk_len r
    have := bulk_pos x
    simp only [Rows.uptoBulkAll, List.length_cons]
    omega
theorem arg_attrs {H : Type} {enc : TypeId × Value → H} {W : World} {c2 : Value} {d : DataW H} {pl : List MemPlace} {base : Nat} {sp : Nat → Bool} {held : Bool} {fuel : Nat}
    (hf : DataW.trod enc Tryz.prog W base sp held fuel 33 [c2] = some (d, pl)) : ∃ a cap ps, c2 = .slice a ps.length cap ∧ ReadsPairs W c2 ps ∧ ps.length ≤ Rows.uptoBulk d ∧ ∀ p ∈ ps, p.1.length ≤ Rows.uptoBulk d ∧ p.2.length ≤ Rows.uptoBulk d := by
  rcases Go.Deep.open_slice_pairs Tryz.underlying33 Tryz.underlying49 (by kernel_rfl) rfl rfl (by kernel_rfl) (by kernel_rfl) hf with ⟨hcs, _⟩ | ⟨x, len, cap, m, n, V0, V1, D0, D1, P0, P1, hcs, _, hl, hm, hmm, hx, hcell⟩
  · simp at hcs
    subst hcs
    exact ⟨_, _, [], rfl, .inl ⟨_, _, rfl, rfl⟩, Nat.zero_le _, by simp⟩
  · simp at hcs
    subst hcs
    have hlm : len ≤ m := by rw [hmm]; split <;> omega
    have each : ∀ i, i < len → ∃ q : ByteArray × ByteArray, W.cell? (x.add (i * 2)) = some (.string q.1) ∧ W.cell? (x.add (i * 2 + 1)) = some (.string q.2) ∧ D0 i = .lit (.string q.1.data.toList) ∧ D1 i = .lit (.string q.2.data.toList) := by
      intro i hi
      obtain ⟨c0, c1, t0, t1⟩ := hcell i (by omega)
      obtain ⟨s0, e0, d0, _⟩ := DataW.trod_string Tryz.underlying9 t0
      obtain ⟨s1, e1, d1, _⟩ := DataW.trod_string Tryz.underlying9 t1
      simp at e0 e1
      rw [e0] at c0
      rw [e1] at c1
      exact ⟨(s0, s1), c0, c1, congrArg Prod.fst d0, congrArg Prod.fst d1⟩
    obtain ⟨S, hS⟩ : ∃ S : Nat → ByteArray × ByteArray, ∀ i, i < len → W.cell? (x.add (i * 2)) = some (.string (S i).1) ∧ W.cell? (x.add (i * 2 + 1)) = some (.string (S i).2) ∧ D0 i = .lit (.string (S i).1.data.toList) ∧ D1 i = .lit (.string (S i).2.data.toList) := by
      refine ⟨fun i => if h : i < len then (each i h).choose else (ByteArray.empty, ByteArray.empty), fun i hi => ?_⟩
      simp only [hi, dif_pos]
      exact (each i hi).choose_spec
    have htl : ((List.range len).map fun i => ((S i).1.data.toList, (S i).2.data.toList)).length = len := by simp
    have hd : d = _ := congrArg Prod.fst hx
    refine ⟨some x, cap, (List.range len).map fun i => ((S i).1.data.toList, (S i).2.data.toList), by rw [htl], ?_, ?_, ?_⟩
    · by_cases h0 : len = 0
      · subst h0
        exact .inl ⟨_, _, rfl, rfl⟩
      · obtain ⟨b, off, spot⟩ := x
        have hspot : spot = none := by simpa [Addr.add] using World.cell?_spot (hS 0 (by omega)).1
        subst hspot
        refine .inr ⟨b, off, cap, by rw [htl], by rw [htl]; exact hl, fun j p hj => ?_⟩
        rw [List.getElem?_map] at hj
        have hjl : j < len := by
          rcases Nat.lt_or_ge j len with h | h
          · exact h
          · rw [List.getElem?_eq_none (by simpa using h)] at hj
            cases hj
        rw [List.getElem?_range hjl] at hj
        simp only [Option.map_some, Option.some.injEq] at hj
        subst hj
        have := hS j hjl
        rw [add_addr, add_addr] at this
        refine ⟨?_, ?_⟩
        · rw [this.1, strV_data]
        · rw [show off + j * 2 + 1 = off + (j * 2 + 1) from by omega, this.2.1, strV_data]
    · rw [htl, hd]
      have := bulk_len ((List.range len).map fun i => DataW.agg [D0 i, D1 i])
      rw [List.length_map, List.length_range] at this
      simp only [Rows.uptoBulk] at this ⊢
      omega
    · intro p hp
      rw [List.mem_map] at hp
      obtain ⟨i, hi, rfl⟩ := hp
      have hil : i < len := by simpa using hi
      have hD := hS i hil
      rw [hd]
      have h1 : Rows.uptoBulk (.agg [D0 i, D1 i]) ≤ Rows.uptoBulkAll ((List.range len).map fun i => DataW.agg [D0 i, D1 i]) := bulk_part12 (List.mem_map.2 ⟨i, hi, rfl⟩)
      rw [hD.2.2.1, hD.2.2.2] at h1
      simp only [Rows.uptoBulk, Rows.uptoBulkAll] at h1 ⊢
      omega
theorem cellsTk : Tryz.prog.cellsOf 35 = 5 := by kernel_rfl
theorem cellsTs : Tryz.prog.cellsOf 9 = 1 := by kernel_rfl
theorem cellsTi : Tryz.prog.cellsOf 3 = 1 := by kernel_rfl
theorem cellsTb : Tryz.prog.cellsOf 4 = 1 := by kernel_rfl
theorem cellsTa : Tryz.prog.cellsOf 33 = 1 := by kernel_rfl
theorem array5 {cs : Array Value} (h : cs.size = 5) : ∃ c0 c1 c2 c3 c4, cs = #[c0, c1, c2, c3, c4] := by
  obtain ⟨l⟩ := cs
  match l, h with
  | [a, b, c, d, e], _ => exact ⟨a, b, c, d, e, rfl⟩
/-- A token that came in: no text of it is longer than n. -/
def ArgTk (w : World) (n : Nat) (v : Value) (kk : Int) (kn : List UInt8) (ka : List Pr) (ks : Bool) (kx : List UInt8) : Prop :=
  ∃ a cap, v = tokI kk kn (.slice a ka.length cap) ks kx ∧ ReadsPairs w (.slice a ka.length cap) ka ∧ kn.length ≤ n ∧ kx.length ≤ n ∧ ka.length ≤ n ∧ ∀ p ∈ ka, p.1.length ≤ n ∧ p.2.length ≤ n
set_option maxRecDepth 100000 in
theorem arg_Tk {H : Type} {enc : TypeId × Value → H} {W : World} {base : Nat} {spare : Nat → Bool} {held : Bool} {r : Reach} {b0 : Nat} {v : Value} {d : DataW H} {p : List MemPlace} (hv : Value.okWide Tryz.prog W r b0 35 v) (h : DataW.Trod enc Tryz.prog W base spare held 35 v d p) :
    ∃ kk kn ka ks kx, ArgTk W (Rows.uptoBulk d) v kk kn ka ks kx := by
  obtain ⟨cs, rfl, hsz⟩ := okWide_struct Tryz.underlying35 hv
  obtain ⟨c0, c1, c2, c3, c4, rfl⟩ := array5 (hsz.trans cellsTk)
  obtain ⟨fuel, hf⟩ := h
  obtain ⟨xs, n, _, hx, hl, hlen, hall⟩ := DataW.trod_struct Tryz.underlying35 hf
  match xs, hlen with
  | [y0, y1, y2, y3, y4], _ =>
    have h0 : DataW.trod enc Tryz.prog W base spare held n 3 (List.take (Tryz.prog.cellsOf 3) [c0, c1, c2, c3, c4]) = some y0 := hall 0 _ rfl
    rw [cellsTi] at h0
    have h1 : DataW.trod enc Tryz.prog W base spare held n 9 (List.take (Tryz.prog.cellsOf 9) [c1, c2, c3, c4]) = some y1 := hall 1 _ rfl
    rw [cellsTs] at h1
    have h2 : DataW.trod enc Tryz.prog W base spare held n 33 (List.take (Tryz.prog.cellsOf 33) [c2, c3, c4]) = some y2 := hall 2 _ rfl
    rw [cellsTa] at h2
    have h3 : DataW.trod enc Tryz.prog W base spare held n 4 (List.take (Tryz.prog.cellsOf 4) [c3, c4]) = some y3 := hall 3 _ rfl
    rw [cellsTb] at h3
    have h4 : DataW.trod enc Tryz.prog W base spare held n 9 (List.take (Tryz.prog.cellsOf 9) [c4]) = some y4 := hall 4 _ rfl
    rw [cellsTs] at h4
    obtain ⟨x0, e0, z0, _⟩ := DataW.trod_int Tryz.underlying3 h0
    obtain ⟨x1, e1, z1, _⟩ := DataW.trod_string Tryz.underlying9 h1
    obtain ⟨d2, p2⟩ := y2
    obtain ⟨a, cap, ps, e2, hr, hn, hp⟩ := arg_attrs h2
    obtain ⟨x3, e3, z3⟩ := DataW.trod_bool Tryz.underlying4 h3
    obtain ⟨x4, e4, z4, _⟩ := DataW.trod_string Tryz.underlying9 h4
    simp at e0 e1 e3 e4
    subst e0 e1 e3 e4 e2
    have hd : d = _ := (Prod.mk.inj hx).1
    have hb : Rows.uptoBulk d = x1.data.toList.length + 1 + (Rows.uptoBulk d2 + (1 + (x4.data.toList.length + 1))) + 2 := by
      rw [hd, z0, z1, z3, z4]
      simp only [List.map_cons, List.map_nil, Rows.uptoBulk, Rows.uptoBulkAll]
      omega
    refine ⟨x0, x1.data.toList, ps, x3, x4.data.toList, a, cap, (by show _ = Value.agg #[.int .i64 x0, .string (str x1.data.toList), .slice a ps.length cap, .bool x3, .string (str x4.data.toList)]; rw [str_self, str_self]), hr, by omega, by omega, by omega, fun q hq => ?_⟩
    have := hp q hq
    omega
end Go.Proofs.YtagceinccibnjaaGreatDoor
