/- Texts laid as one. -/
import Derived.Test.YtiodaahncadodaaGreatDoorKTkSV
import Derived.Test.YtiodaahncadodaaGreatDoorKTreM
import Derived.Deep.MidRow
/- Nodes in memory; the contracts of tree's isRoot, isText, isElement, liesRight. -/
set_option linter.unusedVariables false
set_option linter.unusedSimpArgs false
namespace Go.Proofs.YtiodaahncadodaaGreatDoor
open Go.RowKit
abbrev Nd := Tre.Nd
/-- The slice reads as these numbers. -/
def ReadsIs (w : World) (v : Value) (ks : List Int) : Prop :=
  (∃ a c, v = .slice a 0 c ∧ ks = []) ∨ ∃ b o c, v = .slice (some ⟨b, o, none⟩) ks.length c ∧ ks.length ≤ c ∧ ∀ (j : Nat) x, ks[j]? = some x → w.cell? ⟨b, o + j, none⟩ = some (.int .i64 x)
theorem ReadsIs.form {w : World} {v : Value} {ks : List Int} (h : ReadsIs w v ks) : ∃ a c, v = .slice a ks.length c := by
  rcases h with ⟨a, c, rfl, rfl⟩ | ⟨b, o, c, rfl, _, _⟩
  · exact ⟨_, _, rfl⟩
  · exact ⟨_, _, rfl⟩
theorem ReadsIs.at {w : World} {a : Option Addr} {n c : Nat} {ks : List Int} {k : Nat} {x : Int} (h : ReadsIs w (.slice a n c) ks) (hx : ks[k]? = some x) :
    ∃ b o, a = some ⟨b, o, none⟩ ∧ ks.length ≤ c ∧ b < w.heap.size ∧ w.cell? ⟨b, o + k, none⟩ = some (.int .i64 x) := by
  rcases h with ⟨a, c, _, rfl⟩ | ⟨b, o, c, h1, h2, h3⟩
  · simp at hx
  · cases h1
    exact ⟨b, o, rfl, h2, cell_lt (h3 k x hx), h3 k x hx⟩
theorem ReadsIs.below {w w' : World} {v : Value} {ks : List Int} (h : ReadsIs w v ks) (hb : Below w.heap.size w w') : ReadsIs w' v ks := by
  rcases h with h | ⟨b, o, c, rfl, hc, hr⟩
  · exact .inl h
  · exact .inr ⟨b, o, c, rfl, hc, fun j x hj => (hb.cell (p := ⟨b, o + j, none⟩) (cell_lt (hr j x hj))).trans (hr j x hj)⟩
abbrev nL (n : Nd) (aa : Option Addr) (ac : Nat) (ka : Option Addr) (kc : Nat) : List Value := [.int .i64 n.kind, .string (str n.name), .slice aa n.attrs.length ac, .string (str n.text), .int .i64 n.up, .slice ka n.kids.length kc]
abbrev nodeV (n : Nd) (aa : Option Addr) (ac : Nat) (ka : Option Addr) (kc : Nat) : Value := .agg #[.int .i64 n.kind, .string (str n.name), .slice aa n.attrs.length ac, .string (str n.text), .int .i64 n.up, .slice ka n.kids.length kc]
/-- A node at a place of a block. -/
def NdAt (w : World) (b o : Nat) (n : Nd) : Prop := ∃ aa ac ka kc, w.rangeAt b o (nL n aa ac ka kc) ∧ ReadsPairs w (.slice aa n.attrs.length ac) n.attrs ∧ ReadsIs w (.slice ka n.kids.length kc) n.kids
/-- The slice reads as these nodes. -/
def ReadsN (w : World) (v : Value) (ns : List Nd) : Prop :=
  (∃ a c, v = .slice a 0 c ∧ ns = []) ∨ ∃ b o c, v = .slice (some ⟨b, o, none⟩) ns.length c ∧ ns.length ≤ c ∧ ∀ (j : Nat) n, ns[j]? = some n → NdAt w b (o + j * 6) n
theorem rangeAt_lt {w : World} {b o : Nat} {x : Value} {cs : List Value} (h : w.rangeAt b o (x :: cs)) : b < w.heap.size := cell_lt (h 0 x rfl)
theorem NdAt.below {w w' : World} {b o : Nat} {n : Nd} (h : NdAt w b o n) (hb : Below w.heap.size w w') : NdAt w' b o n := by
  obtain ⟨aa, ac, ka, kc, h1, h2, h3⟩ := h
  exact ⟨aa, ac, ka, kc, fun i v hi => (hb.cell (p := ⟨b, o + i, none⟩) (rangeAt_lt h1)).trans (h1 i v hi), h2.below hb, h3.below hb⟩
theorem ReadsN.below {w w' : World} {v : Value} {ns : List Nd} (h : ReadsN w v ns) (hb : Below w.heap.size w w') : ReadsN w' v ns := by
  rcases h with h | ⟨b, o, c, rfl, hc, hr⟩
  · exact .inl h
  · exact .inr ⟨b, o, c, rfl, hc, fun j n hj => (hr j n hj).below hb⟩
theorem ReadsN.form {w : World} {v : Value} {ns : List Nd} (h : ReadsN w v ns) : ∃ a c, v = .slice a ns.length c := by
  rcases h with ⟨a, c, rfl, rfl⟩ | ⟨b, o, c, rfl, _, _⟩
  · exact ⟨_, _, rfl⟩
  · exact ⟨_, _, rfl⟩
/-- What a place has. -/
structure NdR (w : World) (b o : Nat) (n : Nd) (aa : Option Addr) (ac : Nat) (ka : Option Addr) (kc : Nat) : Prop where
  rng : w.rangeAt b o (nL n aa ac ka kc)
  ats : ReadsPairs w (.slice aa n.attrs.length ac) n.attrs
  kds : ReadsIs w (.slice ka n.kids.length kc) n.kids
theorem NdR.below {w w' : World} {b o : Nat} {n : Nd} {aa : Option Addr} {ac : Nat} {ka : Option Addr} {kc : Nat} (h : NdR w b o n aa ac ka kc) (hb : Below w.heap.size w w') : NdR w' b o n aa ac ka kc :=
  ⟨fun i v hi => (hb.cell (p := ⟨b, o + i, none⟩) (rangeAt_lt h.rng)).trans (h.rng i v hi), h.ats.below hb, h.kds.below hb⟩
theorem NdR.lt {w : World} {b o : Nat} {n : Nd} {aa : Option Addr} {ac : Nat} {ka : Option Addr} {kc : Nat} (h : NdR w b o n aa ac ka kc) : b < w.heap.size := rangeAt_lt h.rng
section
variable {w : World} {b o : Nat} {n : Nd} {aa : Option Addr} {ac : Nat} {ka : Option Addr} {kc : Nat}
theorem NdR.c0 (h : NdR w b o n aa ac ka kc) : w.cell? ⟨b, o, none⟩ = some (.int .i64 n.kind) := h.rng 0 _ rfl
theorem NdR.c1 (h : NdR w b o n aa ac ka kc) : w.cell? ⟨b, o + 1, none⟩ = some (.string (str n.name)) := h.rng 1 _ rfl
theorem NdR.c4 (h : NdR w b o n aa ac ka kc) : w.cell? ⟨b, o + 4, none⟩ = some (.int .i64 n.up) := h.rng 4 _ rfl
theorem NdR.c5 (h : NdR w b o n aa ac ka kc) : w.cell? ⟨b, o + 5, none⟩ = some (.slice ka n.kids.length kc) := h.rng 5 _ rfl
end
theorem ReadsN.at {w : World} {a : Option Addr} {m c : Nat} {ns : List Nd} {j : Nat} (h : ReadsN w (.slice a m c) ns) (hj : j < ns.length) :
    ∃ b o aa ac ka kc, a = some ⟨b, o, none⟩ ∧ ns.length ≤ c ∧ NdR w b (o + j * 6) (Tre.ndAt ns j) aa ac ka kc := by
  rcases h with ⟨a, c, _, rfl⟩ | ⟨b, o, c, h1, h2, h3⟩
  · simp at hj
  · cases h1
    obtain ⟨aa, ac, ka, kc, r1, r2, r3⟩ := h3 j _ (Tre.ndAt_get hj)
    exact ⟨b, o, aa, ac, ka, kc, rfl, h2, r1, r2, r3⟩
theorem ReadsN.spot {w : World} {a : Option Addr} {m c : Nat} {ns : List Nd} (h : ReadsN w (.slice a m c) ns) (hj : 0 < ns.length) : ∃ b o, a = some ⟨b, o, none⟩ ∧ ns.length ≤ c ∧ b < w.heap.size ∧ ∀ j, j < ns.length → ∃ aa ac ka kc, NdR w b (o + j * 6) (Tre.ndAt ns j) aa ac ka kc := by
  rcases h with ⟨a, c, _, rfl⟩ | ⟨b, o, c, h1, h2, h3⟩
  · simp at hj
  · cases h1
    have hh := fun j (hj : j < ns.length) => h3 j _ (Tre.ndAt_get hj)
    refine ⟨b, o, rfl, h2, ?_, fun j hj => ?_⟩
    · obtain ⟨aa, ac, ka, kc, r1, r2, r3⟩ := hh 0 hj
      exact rangeAt_lt r1
    · obtain ⟨aa, ac, ka, kc, r1, r2, r3⟩ := hh j hj
      exact ⟨aa, ac, ka, kc, r1, r2, r3⟩
theorem sizeN : (Tryz.prog.info? 43).map (·.size) = some 6 := by kernel_rfl
/-- A whole node is loaded. -/
theorem wpList_load_N {ops : Array Oper} {rest : List Oper} {op : Oper} {a : Act} {w : World} {Q : Exit → Act → World → Prop} (hw : Region.wanted op (yielded ops a.tmps) = true) (x : Operand) (ho : op.op = .load 43 x)
    (b o : Nat) (hx : a.eval x = .pointer (some ⟨b, o, none⟩)) (x0 x1 x2 x3 x4 x5 : Value) (hc : w.rangeAt b o [x0, x1, x2, x3, x4, x5])
    (h : wpList Tryz.prog ops Q rest (a.put op.dst (.agg #[x0, x1, x2, x3, x4, x5])) w) : wpList Tryz.prog ops Q (op :: rest) a w :=
  wpList_step fun _ hK => by
    rw [if_pos hw]
    exact wp_load_mid _ x ho b o hx [x0, x1, x2, x3, x4, x5] _ hc Tryz.underlying43 rfl sizeN (hK _ _ h)
theorem str_nil (l : List UInt8) : (str l).toList.isEmpty = (l == []) := by
  rw [str_list]
  cases l <;> rfl
theorem len_zero {α : Type} (l : List α) : ((l.length : Int) == 0) = (l.length == 0) := by
  cases l with
  | nil => rfl
  | cons a l =>
    rw [beq_eq_false_iff_ne.2 (by simp : ((a :: l).length) ≠ 0), beq_eq_false_iff_ne]
    simp
    omega
set_option maxHeartbeats 1000000 in
set_option maxRecDepth 100000 in
theorem isRoot_any (n : Nd) (aa : Option Addr) (ac : Nat) (ka : Option Addr) (kc : Nat) (w : World) :
    Calls Tryz.prog 31 #[nodeV n aa ac ka kc] w fun e w' => e = .returned (.bool (Tre.rootB n)) ∧ Below w.heap.size w w' := by
  obtain ⟨k, nm, ats, tx, up, ks⟩ := n
  have hb0 : Below w.heap.size w (w.alloc (.cells #[.int .i64 k, .string (str nm), .slice aa ats.length ac, .string (str tx), .int .i64 up, .slice ka ks.length kc] 43)) := (Below.refl _ w).alloc (Nat.le_refl _) _
  have HX : Hid (Tre.rootB ⟨k, nm, ats, tx, up, ks⟩ = ((k == 1) && ((up == -1) && ((nm == []) && ((ats.length == 0) && (tx == [])))))) := rfl
  have q1 := str_nil nm
  have q2 := str_nil tx
  have q3 := len_zero ats
  generalize (nm == []) = B1 at *
  generalize (tx == []) = B2 at *
  generalize (ats.length == 0) = B3 at *
  cases h1 : (k == 1)
  · rw [h1] at HX
    go_enter Tryz.func31, Tryz.ntmps31
    go_wp2
    go_ret
    exact ⟨ret_bool HX.out.symm, hb0⟩
  rw [h1] at HX
  cases h2 : (up == -1)
  · rw [h2] at HX
    go_enter Tryz.func31, Tryz.ntmps31
    go_wp2
    go_ret
    exact ⟨ret_bool HX.out.symm, hb0⟩
  rw [h2] at HX
  cases B1
  · go_enter Tryz.func31, Tryz.ntmps31
    go_wp2
    go_ret
    exact ⟨ret_bool HX.out.symm, hb0⟩
  cases B3
  · go_enter Tryz.func31, Tryz.ntmps31
    go_wp2
    go_ret
    exact ⟨ret_bool HX.out.symm, hb0⟩
  cases B2
  all_goals
    go_enter Tryz.func31, Tryz.ntmps31
    go_wp2
    go_ret
    exact ⟨ret_bool HX.out.symm, hb0⟩
set_option maxHeartbeats 1000000 in
set_option maxRecDepth 100000 in
theorem isText_any (n : Nd) (aa : Option Addr) (ac : Nat) (ka : Option Addr) (kc : Nat) (w : World) :
    Calls Tryz.prog 34 #[nodeV n aa ac ka kc] w fun e w' => e = .returned (.bool (Tre.textB n)) ∧ Below w.heap.size w w' := by
  obtain ⟨k, nm, ats, tx, up, ks⟩ := n
  have hb0 : Below w.heap.size w (w.alloc (.cells #[.int .i64 k, .string (str nm), .slice aa ats.length ac, .string (str tx), .int .i64 up, .slice ka ks.length kc] 43)) := (Below.refl _ w).alloc (Nat.le_refl _) _
  have HX : Hid (Tre.textB ⟨k, nm, ats, tx, up, ks⟩ = ((k == 3) && ((nm == []) && ((ats.length == 0) && !(tx == []))))) := rfl
  have q1 := str_nil nm
  have q2 := str_nil tx
  have q3 := len_zero ats
  generalize (nm == []) = B1 at *
  generalize (tx == []) = B2 at *
  generalize (ats.length == 0) = B3 at *
  cases h1 : (k == 3)
  · rw [h1] at HX
    go_enter Tryz.func34, Tryz.ntmps34
    go_wp2
    go_ret
    exact ⟨ret_bool HX.out.symm, hb0⟩
  rw [h1] at HX
  cases B1
  · go_enter Tryz.func34, Tryz.ntmps34
    go_wp2
    go_ret
    exact ⟨ret_bool HX.out.symm, hb0⟩
  cases B3
  · go_enter Tryz.func34, Tryz.ntmps34
    go_wp2
    go_ret
    exact ⟨ret_bool HX.out.symm, hb0⟩
  cases B2
  all_goals
    go_enter Tryz.func34, Tryz.ntmps34
    go_wp2
    go_ret
    exact ⟨ret_bool HX.out.symm, hb0⟩
set_option maxHeartbeats 1000000 in
theorem nameless_any (n v : List UInt8) (w : World) :
    Calls Tryz.prog 61 #[.agg #[.string (str n), .string (str v)]] w fun e w' => e = .returned (.bool (n == [])) ∧ Below w.heap.size w w' := by
  have hb : Below w.heap.size w (w.alloc (.cells #[.string (str n), .string (str v)] 67)) := (Below.refl _ w).alloc (Nat.le_refl _) _
  have q := str_nil n
  go_enter Tryz.func61, Tryz.ntmps61
  go_wp2
  go_ret
  exact ⟨ret_bool (by cases n <;> rfl), hb⟩
set_option maxHeartbeats 1000000 in
theorem namelessIndex_any (ats : List Pr) (v : Value) (w : World) (hv : ReadsPairs w v ats) (hl : ats.length ≤ 1000000) :
    Calls Tryz.prog 99 #[v, .func (.func 61) #[] #[]] w fun e w' => (∃ r, e = .returned (.int .i64 r) ∧ decide (0 ≤ r) = Tk.has ats []) ∧ Below w.heap.size w w' := by
  obtain ⟨a, c, rfl⟩ := hv.form
  have HV := hideT hv
  clear hv
  go_enter Tryz.func99, Tryz.ntmps99
  go_wp2
  go_loopw [8] (fun i wr => ∃ j : Nat, i = .int .i64 j ∧ j ≤ ats.length ∧ Hid (Tk.has (ats.take j) [] = false) ∧ Below w.heap.size w wr) (fun i _ => ats.length - (intOf i).toNat)
  case atStart => exact ⟨0, rfl, Nat.zero_le _, rfl, Below.refl _ _⟩
  case round =>
    obtain ⟨j, rfl, hj, HE, hB⟩ := hrel
    by_cases hjl : j < ats.length
    · have hat : ats[j]? = some ats[j] := List.getElem?_eq_getElem hjl
      obtain ⟨b, o, rfl, hc, hbl, h1, h2⟩ := HV.out.at hat
      have g1 := (hB.cell (p := ⟨b, o + j * 2, none⟩) hbl).trans h1
      have g2 := (hB.cell (p := ⟨b, o + j * 2 + 1, none⟩) hbl).trans h2
      have hF := nameless_any ats[j].1 ats[j].2 wr
      cases hq : (ats[j].1 == [])
      · have HN : Hid (Tk.has (ats.take (j + 1)) [] = false) := by
          show _ = _
          rw [has_take ats [] j hjl, HE.out, hq]
          rfl
        rw [hq] at hF
        clear hat h1 h2 hq
        generalize ats[j] = p at *
        go_wp2_with (go_at_call 61; refine hF.mono ?_; rintro e w1 ⟨rfl, hb1⟩)
        go_roundw
        case rel => exact ⟨j + 1, by go_num, by omega, HN, hB.trans (hb1.mono hB.size)⟩
        case measure => simp [intOf]; omega
      · have HN : Hid (Tk.has ats [] = true) := has_here ats [] j hjl hq
        rw [hq] at hF
        clear hat h1 h2 hq
        generalize ats[j] = p at *
        go_wp2_with (go_at_call 61; refine hF.mono ?_; rintro e w1 ⟨rfl, hb1⟩)
        go_ret
        exact ⟨⟨_, rfl, by rw [HN.out]; simp⟩, hB.trans (hb1.mono hB.size)⟩
    · have HN : Hid (Tk.has ats [] = false) := by
        have h := HE.out
        rwa [List.take_of_length_le (by omega)] at h
      go_wp2
      go_ret
      exact ⟨⟨_, rfl, by rw [HN.out]; rfl⟩, hB⟩
set_option maxHeartbeats 1000000 in
theorem namelessHas_any (ats : List Pr) (v : Value) (w : World) (hv : ReadsPairs w v ats) (hl : ats.length ≤ 1000000) :
    Calls Tryz.prog 62 #[v, .func (.func 61) #[] #[]] w fun e w' => e = .returned (.bool (Tk.has ats [])) ∧ Below w.heap.size w w' := by
  have hI := namelessIndex_any ats v w hv hl
  go_enter Tryz.func62, Tryz.ntmps62
  go_wp2_with (go_at_call 99; refine hI.mono ?_; rintro e w1 ⟨⟨r, rfl, hr⟩, hb1⟩)
  go_ret
  exact ⟨ret_bool (by simp), hb1⟩
set_option maxHeartbeats 1000000 in
set_option maxRecDepth 100000 in
theorem isElement_any (n : Nd) (aa : Option Addr) (ac : Nat) (ka : Option Addr) (kc : Nat) (w : World) (hv : ReadsPairs w (.slice aa n.attrs.length ac) n.attrs) (hl : n.attrs.length ≤ 1000000) :
    Calls Tryz.prog 33 #[nodeV n aa ac ka kc] w fun e w' => e = .returned (.bool (Tre.elemB n)) ∧ Below w.heap.size w w' := by
  obtain ⟨k, nm, ats, tx, up, ks⟩ := n
  simp only at hv hl
  have hb0 : Below w.heap.size w (w.alloc (.cells #[.int .i64 k, .string (str nm), .slice aa ats.length ac, .string (str tx), .int .i64 up, .slice ka ks.length kc] 43)) := (Below.refl _ w).alloc (Nat.le_refl _) _
  have hA : Hid (NdR (w.alloc (.cells #[.int .i64 k, .string (str nm), .slice aa ats.length ac, .string (str tx), .int .i64 up, .slice ka ks.length kc] 43)) w.heap.size 0 ⟨k, nm, ats, tx, up, []⟩ aa ac none 0 ∨ True) := .inr trivial
  have hh := heap_new w (.cells #[.int .i64 k, .string (str nm), .slice aa ats.length ac, .string (str tx), .int .i64 up, .slice ka ks.length kc] 43)
  have HH := hideT (namelessHas_any ats _ _ (hv.below hb0) hl)
  have HX : Hid (Tre.elemB ⟨k, nm, ats, tx, up, ks⟩ = ((k == 2) && (!(nm == []) && (!(Tk.has ats []) && (tx == []))))) := rfl
  have q1 := str_nil nm
  have q2 := str_nil tx
  clear hA hv
  generalize (nm == []) = B1 at *
  generalize (tx == []) = B2 at *
  generalize Tk.has ats [] = B3 at *
  cases h1 : (k == 2)
  · rw [h1] at HX
    clear HH
    go_enter Tryz.func33, Tryz.ntmps33
    go_wp2
    go_ret
    exact ⟨ret_bool HX.out.symm, hb0⟩
  rw [h1] at HX
  cases B1
  case true =>
    clear HH
    go_enter Tryz.func33, Tryz.ntmps33
    go_wp2
    go_ret
    exact ⟨ret_bool HX.out.symm, hb0⟩
  have c3 := Lib.cell_of_heap hh 3
  have hlt : w.heap.size < (w.alloc (.cells #[.int .i64 k, .string (str nm), .slice aa ats.length ac, .string (str tx), .int .i64 up, .slice ka ks.length kc] 43)).heap.size := by simp
  cases B3
  case true =>
    clear c3 hh
    go_enter Tryz.func33, Tryz.ntmps33
    go_wp2_with (go_at_call 62; refine HH.out.mono ?_; rintro e w1 ⟨rfl, hb1⟩)
    go_ret
    exact ⟨ret_bool HX.out.symm, bel hb0 hb1⟩
  cases B2
  all_goals
    clear hh
    go_enter Tryz.func33, Tryz.ntmps33
    go_wp2_with (go_at_call 62; refine HH.out.mono ?_; rintro e w1 ⟨rfl, hb1⟩; have d3 := (hb1.cell (p := ⟨w.heap.size, 3, none⟩) hlt).trans c3)
    go_ret
    exact ⟨ret_bool HX.out.symm, bel hb0 hb1⟩
set_option maxHeartbeats 1000000 in
set_option maxRecDepth 100000 in
theorem liesRight_any (ns : List Nd) (v : Value) (i : Nat) (w : World) (hv : ReadsN w v ns) (hi : i < ns.length) (hl : ns.length ≤ 1000000000) :
    Calls Tryz.prog 32 #[v, .int .i64 (i : Int)] w fun e w' => e = .returned (.bool (Tre.liesB ns i)) ∧ w' = w := by
  obtain ⟨a, c, rfl⟩ := hv.form
  obtain ⟨b, o, rfl, hc, hbl, hall⟩ := hv.spot (by omega)
  obtain ⟨aa, ac, ka, kc, hr⟩ := hall i hi
  have c4 := hr.c4
  have HX : Hid (Tre.liesB ns i = (decide (0 ≤ (Tre.ndAt ns i).up) && (decide ((Tre.ndAt ns i).up < (i : Int)) && !((Tre.ndAt ns (Tre.ndAt ns i).up.toNat).kind == 3)))) := rfl
  have HAll := hideT hall
  clear hr hall hv
  generalize (Tre.ndAt ns i).up = up at *
  by_cases h0 : 0 ≤ up
  · by_cases h1 : up < (i : Int)
    · obtain ⟨u, rfl⟩ : ∃ u : Nat, up = (u : Int) := ⟨up.toNat, by omega⟩
      have hu : u < ns.length := by omega
      obtain ⟨aa2, ac2, ka2, kc2, hr2⟩ := HAll.out u hu
      have c0 := hr2.c0
      have e : ((u : Int)).toNat = u := by omega
      rw [e, decide_eq_true h0, decide_eq_true h1] at HX
      clear hr2 HAll e
      cases h3 : ((Tre.ndAt ns u).kind == 3)
      · have h4 := ne_of_beq h3
        rw [h3] at HX
        generalize (Tre.ndAt ns u).kind = kd at *
        clear h3
        go_enter Tryz.func32, Tryz.ntmps32
        go_wp2
        go_ret
        exact ⟨ret_bool HX.out.symm, rfl⟩
      · have h4 := eq_of_beq' h3
        rw [h3] at HX
        generalize (Tre.ndAt ns u).kind = kd at *
        clear h3
        go_enter Tryz.func32, Tryz.ntmps32
        go_wp2
        go_ret
        exact ⟨ret_bool HX.out.symm, rfl⟩
    · rw [decide_eq_true h0, decide_eq_false h1] at HX
      clear HAll
      go_enter Tryz.func32, Tryz.ntmps32
      go_wp2
      go_ret
      exact ⟨ret_bool HX.out.symm, rfl⟩
  · rw [decide_eq_false h0] at HX
    clear HAll
    go_enter Tryz.func32, Tryz.ntmps32
    go_wp2
    go_ret
    exact ⟨ret_bool HX.out.symm, rfl⟩
end Go.Proofs.YtiodaahncadodaaGreatDoor
/- The contracts of tree's haveKids and May. -/
namespace Tre
theorem kidsTo_one {ns : List Nd} (h : (ndAt ns 0).up = -1) (u : Nat) : kidsTo ns u 1 = [] := by
  rw [kidsTo, kidsTo, if_neg (by rw [h]; omega)]
  rfl
theorem kidsTo_here {ns : List Nd} {u k : Nat} (h : (ndAt ns k).up = (u : Int)) : kidsTo ns u (k + 1) = kidsTo ns u k ++ [(k : Int)] := by rw [kidsTo, if_pos h]
theorem kidsTo_there {ns : List Nd} {u x k : Nat} (h : (ndAt ns k).up = (u : Int)) (hx : x ≠ u) : kidsTo ns x (k + 1) = kidsTo ns x k := by
  rw [kidsTo, if_neg (by rw [h]; omega), List.append_nil]
/-- The kids so far are how the node's own begin. -/
def Goes (ns : List Nd) (k : Nat) : Prop := ∀ u, u < ns.length → kidsTo ns u k = (ndAt ns u).kids.take (kidsTo ns u k).length
theorem Goes.le {ns : List Nd} {k : Nat} (h : Goes ns k) {u : Nat} (hu : u < ns.length) : (kidsTo ns u k).length ≤ (ndAt ns u).kids.length := by
  have := congrArg List.length (h u hu)
  rw [List.length_take] at this
  omega
theorem kids_next {ns : List Nd} {u k : Nat} (hk : k < ns.length) (h : (ndAt ns k).up = (u : Int)) : (kidsTo ns u ns.length)[(kidsTo ns u k).length]? = some (k : Int) := by
  have hp := kidsTo_pre ns u ns.length (k + 1) hk
  rw [kidsTo_here h] at hp
  have h2 : (kidsTo ns u k ++ [(k : Int)])[(kidsTo ns u k).length]? = some (k : Int) := by simp
  rw [hp, List.getElem?_take] at h2
  split at h2
  · exact h2
  · cases h2
theorem kids_no {ns : List Nd} {u k : Nat} (hk : k < ns.length) (hu : u < ns.length) (h : (ndAt ns k).up = (u : Int)) (hn : (ndAt ns u).kids[(kidsTo ns u k).length]? ≠ some (k : Int)) : allTo (kidsB ns) ns.length = false := by
  refine allTo_no _ hu (decide_eq_false (fun e => hn ?_))
  rw [e]
  exact kids_next hk h
theorem Goes.next {ns : List Nd} {k : Nat} (h : Goes ns k) {u : Nat} (hu : (ndAt ns k).up = (u : Int)) (hx : (ndAt ns u).kids[(kidsTo ns u k).length]? = some (k : Int)) : Goes ns (k + 1) := by
  intro x hxl
  by_cases e : x = u
  · subst e
    rw [kidsTo_here hu, List.length_append, List.length_singleton, List.take_add_one, hx, ← h x hxl]
    rfl
  · rw [kidsTo_there hu e]
    exact h x hxl
theorem Goes.all {ns : List Nd} (h : Goes ns ns.length) (hl : ∀ u, u < ns.length → (kidsTo ns u ns.length).length = (ndAt ns u).kids.length) : allTo (kidsB ns) ns.length = true := by
  rw [allTo_iff]
  intro u hu
  refine decide_eq_true ?_
  rw [h u hu, hl u hu, List.take_length]
theorem kids_len_no {ns : List Nd} {u : Nat} (hu : u < ns.length) (h : (kidsTo ns u ns.length).length ≠ (ndAt ns u).kids.length) : allTo (kidsB ns) ns.length = false :=
  allTo_no _ hu (decide_eq_false (fun e => h (by rw [e])))
end Tre
namespace Go.Proofs.YtiodaahncadodaaGreatDoor
open Go.RowKit
def metL (ns : List Nd) (k : Nat) : List Value := (List.range ns.length).map fun u => .int .i64 ((Tre.kidsTo ns u k).length : Int)
theorem metL_at (ns : List Nd) (k u : Nat) (h : u < ns.length) : (metL ns k)[u]? = some (.int .i64 ((Tre.kidsTo ns u k).length : Int)) := by
  unfold metL
  rw [List.getElem?_map, List.getElem?_range h]
  rfl
theorem metL_len (ns : List Nd) (k : Nat) : (metL ns k).length = ns.length := by simp [metL]
theorem metL_one {ns : List Nd} (h : (Tre.ndAt ns 0).up = -1) : metL ns 1 = List.replicate ns.length (.int .i64 0) := by
  apply List.ext_getElem?
  intro j
  by_cases hj : j < ns.length
  · rw [metL_at ns 1 j hj, Tre.kidsTo_one h, List.getElem?_replicate, if_pos hj]
    rfl
  · rw [List.getElem?_eq_none (by rw [metL_len]; omega), List.getElem?_eq_none (by simp; omega)]
theorem metL_set {ns : List Nd} {k u : Nat} (hu : (Tre.ndAt ns k).up = (u : Int)) (hl : u < ns.length) : (metL ns k).set u (.int .i64 (((Tre.kidsTo ns u k).length : Int) + 1)) = metL ns (k + 1) := by
  apply List.ext_getElem?
  intro j
  by_cases hj : j < ns.length
  · rw [metL_at ns (k + 1) j hj, List.getElem?_set]
    by_cases e : u = j
    · subst e
      rw [if_pos rfl, if_pos (by rw [metL_len]; exact hl), Tre.kidsTo_here hu, List.length_append]
      rfl
    · rw [if_neg e, metL_at ns k j hj, Tre.kidsTo_there hu (fun e2 => e e2.symm)]
  · rw [List.getElem?_eq_none (by rw [List.length_set, metL_len]; omega), List.getElem?_eq_none (by rw [metL_len]; omega)]
theorem infoInt13 : (Tryz.prog.info? 3).map (fun i => (i.zero, i.size, i.bytes)) = some (some (.int .i64 0), 1, 8) := by kernel_rfl
set_option maxHeartbeats 2000000 in
set_option maxRecDepth 100000 in
theorem haveKids_any (ns : List Nd) (v : Value) (w : World) (hv : ReadsN w v ns) (h1 : 1 ≤ ns.length) (h2 : ns.length ≤ 4096) (hup : ∀ i, i < ns.length → i ≠ 0 → 0 ≤ (Tre.ndAt ns i).up ∧ (Tre.ndAt ns i).up < (i : Int)) (h0 : (Tre.ndAt ns 0).up = -1) :
    Calls Tryz.prog 35 #[v] w fun e w' => e = .returned (.bool (Tre.allTo (Tre.kidsB ns) ns.length)) ∧ Below w.heap.size w w' := by
  obtain ⟨i0, hi, hz0, hz1, hz2⟩ := info_parts infoInt13
  obtain ⟨a, c, rfl⟩ := hv.form
  obtain ⟨b, o, rfl, hc, hbl, hall⟩ := hv.spot (by omega)
  have HAll := hideT hall
  have HUp := hideT hup
  have HM1 := hideT (metL_one h0)
  have HG1 : Hid (Tre.Goes ns 1) := fun u hu => by rw [Tre.kidsTo_one h0]; rfl
  clear hv hall hup h0
  go_enter Tryz.func35, Tryz.ntmps35
  go_wp2_with (at_make; refine wpList_make_full _ rfl (.tmp 10) (.tmp 10) 41 rfl w.heap.size 3 i0 (.int .i64 0) 1 Tryz.underlying41 hi hz0 hz1 _ _ _ _ ns.length rfl rfl rfl rfl (by rw [hz2]; omega) (by unfold maxLen; omega) (Nat.le_refl _) ?_; intro w1 hown1 hgrow1)
  have HB1 : Hid (Below w.heap.size w w1) := (Below.refl _ _).grown hgrow1 (Nat.le_refl _) (by simp)
  have HO1 : Hid (w1.ownsRow w.heap.size 3 1 (.slice (some ⟨w.heap.size, 0, none⟩) ns.length ns.length) ns.length (metL ns 1)) := by
    have h := hown1
    rw [show (Value.int IntKind.i64 0).cells = #[.int .i64 0] from rfl, toList_madeCells_one, Nat.mul_one, ← HM1.out] at h
    exact h
  clear hown1 hgrow1 HM1
  go_loopw [4] (fun i wr => ∃ k : Nat, i = .int .i64 k ∧ 1 ≤ k ∧ k ≤ ns.length ∧ Hid (Tre.Goes ns k) ∧ Hid (wr.ownsRow w.heap.size 3 1 (.slice (some ⟨w.heap.size, 0, none⟩) ns.length ns.length) ns.length (metL ns k)) ∧ Hid (Below w.heap.size w wr)) (fun i _ => ns.length - (intOf i).toNat)
  case atStart => exact ⟨1, rfl, Nat.le_refl _, h1, HG1, HO1, HB1⟩
  case round =>
    obtain ⟨k, rfl, hk1, hk2, HG, HO, HB⟩ := hrel
    by_cases hlt : k < ns.length
    · obtain ⟨hu0, hu1⟩ := HUp.out k hlt (by omega)
      obtain ⟨aa, ac, ka, kc, hr⟩ := HAll.out k hlt
      obtain ⟨u, hu⟩ : ∃ u : Nat, (Tre.ndAt ns k).up = (u : Int) := ⟨(Tre.ndAt ns k).up.toNat, by omega⟩
      have hul : u < ns.length := by omega
      obtain ⟨aa2, ac2, ka2, kc2, hr2⟩ := HAll.out u hul
      have hr' := hr.below HB.out
      have hr2' := hr2.below HB.out
      have c4 := hr'.c4
      have c5 := hr2'.c5
      rw [hu] at c4
      have HU := hideT hu
      have hm := HG.out.le hul
      have hm4 : (Tre.kidsTo ns u k).length ≤ 4096 := Nat.le_trans (Tre.kidsTo_le ns u k) (by omega)
      have cm := (World.ownsRow.cellAt (w := wr) HO.out u (by omega)).trans (metL_at ns k u hul)
      have fm := World.ownsRow.frozenAt (w := wr) HO.out u
      obtain ⟨m, hmd⟩ : ∃ m, (Tre.kidsTo ns u k).length = m := ⟨_, rfl⟩
      have HMd := hideT hmd
      rw [hmd] at hm cm hm4
      clear hu0 hu1 hu hr hr2 hr' hmd
      by_cases hme : m = (Tre.ndAt ns u).kids.length
      · have HX : Hid (Tre.allTo (Tre.kidsB ns) ns.length = false) := Tre.kids_no hlt hul HU.out (by rw [HMd.out, List.getElem?_eq_none (by omega)]; simp)
        have q : ((m : Int) == ((Tre.ndAt ns u).kids.length : Int)) = true := by rw [hme]; simp
        clear hr2' hme
        generalize (Tre.ndAt ns u).kids.length = kl at *
        go_wp2
        go_ret
        exact ⟨ret_bool HX.out.symm, HB.out⟩
      · have hml : m < (Tre.ndAt ns u).kids.length := by omega
        obtain ⟨x, hx⟩ : ∃ x, (Tre.ndAt ns u).kids[m]? = some x := ⟨_, List.getElem?_eq_getElem hml⟩
        have q : ((m : Int) == ((Tre.ndAt ns u).kids.length : Int)) = false := by rw [beq_eq_false_iff_ne]; omega
        obtain ⟨b3, o3, rfl, hc3, hb3, cx⟩ := hr2'.kds.at hx
        have HXX := hideT hx
        clear hr2' hme hx
        by_cases hxk : x = (k : Int)
        · subst hxk
          have HG2 : Hid (Tre.Goes ns (k + 1)) := Tre.Goes.next HG.out HU.out (by rw [HMd.out]; exact HXX.out)
          have q2 : ((k : Int) != (k : Int)) = false := by simp
          have HO2 : Hid ((wr.setCell ⟨w.heap.size, u, none⟩ (.int .i64 ((m : Int) + 1))).ownsRow w.heap.size 3 1 (.slice (some ⟨w.heap.size, 0, none⟩) ns.length ns.length) ns.length (metL ns (k + 1))) := by
            have := (World.ownsRow.stored (w := wr) HO.out u (.int .i64 ((m : Int) + 1))).1
            rw [← HMd.out, metL_set HU.out hul, HMd.out] at this
            exact this
          have HB2 : Hid (Below w.heap.size w (wr.setCell ⟨w.heap.size, u, none⟩ (.int .i64 ((m : Int) + 1)))) := HB.out.setCell (Nat.le_refl _) _
          clear HXX HG
          generalize (Tre.ndAt ns u).kids.length = kl at *
          go_wp2
          go_roundw
          case rel => exact ⟨k + 1, by go_num, by omega, by omega, HG2, HO2, HB2⟩
          case measure => simp [intOf]; omega
        · have HX : Hid (Tre.allTo (Tre.kidsB ns) ns.length = false) := Tre.kids_no hlt hul HU.out (by rw [HMd.out, HXX.out]; simpa using hxk)
          have q2 : (x != (k : Int)) = true := by simpa using hxk
          clear HXX hxk
          generalize (Tre.ndAt ns u).kids.length = kl at *
          go_wp2
          go_ret
          exact ⟨ret_bool HX.out.symm, HB.out⟩
    · have hke : k = ns.length := by omega
      subst hke
      clear hlt hk1 hk2 HG1 HO1 HB1
      have HWR := HB
      go_wp2
      go_loopw [54] (fun i wr2 => ∃ k : Nat, i = .int .i64 k ∧ k ≤ ns.length ∧ Hid (∀ u, u < k → (Tre.kidsTo ns u ns.length).length = (Tre.ndAt ns u).kids.length) ∧ Hid (Below wr.heap.size wr wr2)) (fun i _ => ns.length - (intOf i).toNat)
      case atStart => exact ⟨0, rfl, Nat.zero_le _, fun u hu => absurd hu (Nat.not_lt_zero _), Below.refl _ _⟩
      case round =>
        obtain ⟨k, rfl, hk, HL, HB2⟩ := hrel
        rename World => X
        have HB3 : Hid (Below w.heap.size w X) := HB.out.trans (HB2.out.mono HB.out.size)
        by_cases hlt : k < ns.length
        · obtain ⟨aa, ac, ka, kc, hr⟩ := HAll.out k hlt
          have hr' := hr.below HB3.out
          obtain ⟨n, hn⟩ : ∃ n, Tre.ndAt ns k = n := ⟨_, rfl⟩
          have HN := hideT hn
          rw [hn] at hr'
          clear hn hr
          obtain ⟨kd, nm, ats, tx, up, ks⟩ := n
          have hrng := hideT hr'.rng
          have hb4 : Below X.heap.size X (X.alloc (.cells #[.int .i64 kd, .string (str nm), .slice aa ats.length ac, .string (str tx), .int .i64 up, .slice ka ks.length kc] 43)) := (Below.refl _ _).alloc (Nat.le_refl _) _
          have hh := heap_new X (.cells #[.int .i64 kd, .string (str nm), .slice aa ats.length ac, .string (str tx), .int .i64 up, .slice ka ks.length kc] 43)
          have c5 := Lib.cell_of_heap hh 5
          have HO4 := hideT (ownsRow_below HO.out (HB2.out.trans (hb4.mono HB2.out.size)))
          have cm := (World.ownsRow.cellAt (w := (X.alloc (.cells #[.int .i64 kd, .string (str nm), .slice aa ats.length ac, .string (str tx), .int .i64 up, .slice ka ks.length kc] 43))) HO4.out k (by omega)).trans (metL_at ns ns.length k hlt)
          have HB4 : Hid (Below wr.heap.size wr (X.alloc (.cells #[.int .i64 kd, .string (str nm), .slice aa ats.length ac, .string (str tx), .int .i64 up, .slice ka ks.length kc] 43))) := (HB2.out.trans (hb4.mono HB2.out.size))
          have HB5 : Hid (Below w.heap.size w (X.alloc (.cells #[.int .i64 kd, .string (str nm), .slice aa ats.length ac, .string (str tx), .int .i64 up, .slice ka ks.length kc] 43))) := (HB3.out.trans (hb4.mono HB3.out.size))
          clear hr' hb4 hh
          by_cases hq : (Tre.kidsTo ns k ns.length).length = ks.length
          · have q : (((Tre.kidsTo ns k ns.length).length : Int) != (ks.length : Int)) = false := by rw [hq]; simp
            have HL2 : Hid (∀ u, u < k + 1 → (Tre.kidsTo ns u ns.length).length = (Tre.ndAt ns u).kids.length) := fun u hu => by
              rcases Nat.lt_succ_iff_lt_or_eq.1 hu with h | rfl
              · exact HL.out u h
              · rw [HN.out]
                exact hq
            clear hq HL
            go_wp2_with ((with_reducible show wpList _ _ _ ({ op := Op.load 43 _, .. } :: _) _ _); refine wpList_load_N (by rfl) _ rfl b (o + k * 6) rfl _ _ _ _ _ _ hrng.out ?_)
            go_quiet (fail)
            go_wp2
            go_roundw
            case rel => exact ⟨k + 1, by go_num, by omega, HL2, HB4.out.trans ((bel_quiet ⟨nq, rfl⟩).mono HB4.out.size)⟩
            case measure => simp [intOf]; omega
          · have q : (((Tre.kidsTo ns k ns.length).length : Int) != (ks.length : Int)) = true := by simpa using (fun e => hq (by exact_mod_cast e))
            have HX : Hid (Tre.allTo (Tre.kidsB ns) ns.length = false) := Tre.kids_len_no hlt (by rw [HN.out]; exact hq)
            clear hq HL
            go_wp2_with ((with_reducible show wpList _ _ _ ({ op := Op.load 43 _, .. } :: _) _ _); refine wpList_load_N (by rfl) _ rfl b (o + k * 6) rfl _ _ _ _ _ _ hrng.out ?_)
            go_quiet (fail)
            go_wp2
            go_ret
            exact ⟨ret_bool HX.out.symm, HB5.out.trans ((bel_quiet ⟨nq, rfl⟩).mono HB5.out.size)⟩
        · have hke : k = ns.length := by omega
          subst hke
          have HX : Hid (Tre.allTo (Tre.kidsB ns) ns.length = true) := HG.out.all HL.out
          go_wp2
          go_ret
          exact ⟨ret_bool HX.out.symm, HB3.out⟩
set_option maxHeartbeats 2000000 in
set_option maxRecDepth 100000 in
theorem May_any (ns : List Nd) (v : Value) (w : World) (hv : ReadsN w v ns) (hn : ns.length ≤ 1000000000) (hat : ns.length ≤ 4096 → ∀ i, i < ns.length → (Tre.ndAt ns i).attrs.length ≤ 1000000) :
    Calls Tryz.prog 15 #[.agg #[v]] w fun e w' => e = .returned (.bool (Tre.mayB ns)) ∧ Below w.heap.size w w' := by
  obtain ⟨a, c, rfl⟩ := hv.form
  have hb0 : Below w.heap.size w (w.alloc (.cells #[.slice a ns.length c] 26)) := (Below.refl _ _).alloc (Nat.le_refl _) _
  have hh := heap_new w (.cells #[.slice a ns.length c] 26)
  have hv0 := hv.below hb0
  clear hv
  by_cases h0 : ns.length = 0
  · have HX : Hid (Tre.mayB ns = false) := Tre.mayB_no_len (.inl h0)
    have q : ((ns.length : Int) == 0) = true := by rw [h0]; rfl
    clear h0 hv0 hat
    go_enter Tryz.func15, Tryz.ntmps15
    go_wp2
    go_ret
    exact ⟨ret_bool HX.out.symm, hb0⟩
  have q0 : ((ns.length : Int) == 0) = false := by rw [beq_eq_false_iff_ne]; omega
  by_cases h1 : 4096 < ns.length
  · have HX : Hid (Tre.mayB ns = false) := Tre.mayB_no_len (.inr h1)
    have q1 : (4096 : Int) < (ns.length : Int) := by omega
    clear h1 h0 hv0 hat
    go_enter Tryz.func15, Tryz.ntmps15
    go_wp2
    go_ret
    exact ⟨ret_bool HX.out.symm, hb0⟩
  have q1 : ¬ (4096 : Int) < (ns.length : Int) := by omega
  have HAt := hideT (hat (by omega))
  clear hat
  obtain ⟨b, o, rfl, hc, hbl, hall⟩ := hv0.spot (by omega)
  have HAll := hideT hall
  have HV := hideT hv0
  obtain ⟨aa, ac, ka, kc, hr⟩ := hall 0 (by omega)
  have hrng := hideT hr.rng
  have hRt := hideT (fun W => isRoot_any (Tre.ndAt ns 0) aa ac ka kc W)
  have c0 := Lib.cell_of_heap hh 0
  have hlw := hb0.size
  have hwW : w.heap.size < (w.alloc (.cells #[.slice (some ⟨b, o, none⟩) ns.length c] 26)).heap.size := by simp
  clear hall hv0 hr hh
  cases hrt : Tre.rootB (Tre.ndAt ns 0)
  · have HX : Hid (Tre.mayB ns = false) := Tre.mayB_no_shape (i := 0) (by omega) (by unfold Tre.shapeB; rw [if_pos rfl, hrt])
    rw [hrt] at hRt
    go_enter Tryz.func15, Tryz.ntmps15
    go_wp2_with (first
      | ((with_reducible show wpList _ _ _ ({ op := Op.load 43 _, .. } :: _) _ _); refine wpList_load_N (by rfl) _ rfl b (o + 0 * 6) (by rw [Nat.zero_mul]; rfl) _ _ _ _ _ _ hrng.out ?_)
      | (go_at_call 31; refine (hRt.out _).mono ?_; rintro e w1 ⟨rfl, hb1⟩))
    go_ret
    exact ⟨ret_bool HX.out.symm, bel hb0 hb1⟩
  · have HR0 := hideT hrt
    have hup0 : (Tre.ndAt ns 0).up = -1 := by
      unfold Tre.rootB at hrt
      simp only [Bool.and_eq_true, beq_iff_eq] at hrt
      exact hrt.2.1
    have HU0 := hideT hup0
    rw [hrt] at hRt
    clear hrt hup0
    go_enter Tryz.func15, Tryz.ntmps15
    go_wp2_with (first
      | ((with_reducible show wpList _ _ _ ({ op := Op.load 43 _, .. } :: _) _ _); refine wpList_load_N (by rfl) _ rfl b (o + 0 * 6) (by rw [Nat.zero_mul]; rfl) _ _ _ _ _ _ hrng.out ?_)
      | (go_at_call 31; refine (hRt.out _).mono ?_; rintro e w1 ⟨rfl, hb1⟩))
    have HB1 := hideT (bel hb0 hb1)
    have HV1 := hideT (HV.out.below hb1)
    have c01 := (hb1.cell (p := ⟨w.heap.size, 0, none⟩) hwW).trans c0
    have HAll1 : Hid (∀ j, j < ns.length → ∃ aa ac ka kc, NdR w1 b (o + j * 6) (Tre.ndAt ns j) aa ac ka kc) := fun j hj => by
      obtain ⟨aa, ac, ka, kc, h⟩ := HAll.out j hj
      exact ⟨aa, ac, ka, kc, h.below hb1⟩
    have hw1 : w.heap.size < w1.heap.size := Nat.lt_of_lt_of_le hwW hb1.size
    clear HAll HV hb1 c0 hwW hlw hRt hrng
    go_loopw [3] (fun i wr => ∃ k : Nat, i = .int .i64 k ∧ 1 ≤ k ∧ k ≤ ns.length ∧ Hid (∀ i, i < k → Tre.shapeB ns i = true) ∧ Hid (Below w1.heap.size w1 wr)) (fun i _ => ns.length - (intOf i).toNat)
    case atStart => exact ⟨1, rfl, Nat.le_refl _, by omega, fun i hi => by
      have : i = 0 := by omega
      subst this
      unfold Tre.shapeB
      rw [if_pos rfl]
      exact HR0.out, Below.refl _ _⟩
    case round =>
      obtain ⟨k, rfl, hk1, hk2, HS, HB⟩ := hrel
      have cw := (HB.out.cell (p := ⟨w.heap.size, 0, none⟩) hw1).trans c01
      rename World => X
      by_cases hlt : k < ns.length
      · have hLie := hideT (liesRight_any ns _ k X (HV1.out.below HB.out) hlt hn)
        obtain ⟨aa, ac, ka, kc, hr⟩ := HAll1.out k hlt
        have hr' := hr.below HB.out
        have hrng := hideT hr'.rng
        have hEl := hideT (isElement_any (Tre.ndAt ns k) aa ac ka kc X hr'.ats (HAt.out k hlt))
        have hTx := hideT (fun W => isText_any (Tre.ndAt ns k) aa ac ka kc W)
        have HSh : Hid (Tre.shapeB ns k = (Tre.liesB ns k && (Tre.elemB (Tre.ndAt ns k) || Tre.textB (Tre.ndAt ns k)))) := by
          show _ = _
          unfold Tre.shapeB
          rw [if_neg (by omega)]
        have HX : Hid (Tre.shapeB ns k = false → Tre.mayB ns = false) := fun h => Tre.mayB_no_shape hlt h
        have HNx : Hid (Tre.shapeB ns k = true → ∀ i, i < k + 1 → Tre.shapeB ns i = true) := fun h i hi => by
          rcases Nat.lt_succ_iff_lt_or_eq.1 hi with h2 | rfl
          · exact HS.out i h2
          · exact h
        have hXs := HB.out.size
        clear hr hr' HS
        cases hl : Tre.liesB ns k
        · rw [hl] at hLie HSh
          have HXX : Hid (Tre.mayB ns = false) := HX.out HSh.out
          clear HX HNx HSh hEl hTx hrng hl
          go_wp2_with (go_at_call 32; refine hLie.out.mono ?_; rintro e w2 ⟨rfl, hw2⟩; replace hw2 := hw2.symm; subst hw2)
          go_ret
          exact ⟨ret_bool HXX.out.symm, bel HB1.out HB.out⟩
        · rw [hl] at hLie HSh
          clear hl
          cases he : Tre.elemB (Tre.ndAt ns k)
          · rw [he] at hEl HSh
            clear he
            cases ht : Tre.textB (Tre.ndAt ns k)
            · rw [ht] at hTx HSh
              have HXX : Hid (Tre.mayB ns = false) := HX.out HSh.out
              clear ht HX HNx HSh
              go_wp2_with (first
                | (go_at_call 32; refine hLie.out.mono ?_; rintro e w2 ⟨rfl, hw2⟩; replace hw2 := hw2.symm; subst hw2)
                | ((with_reducible show wpList _ _ _ ({ op := Op.load 43 _, .. } :: _) _ _); refine wpList_load_N (by rfl) _ rfl b (o + k * 6) rfl _ _ _ _ _ _ (by first | exact hrng.out | exact (fun i v hi => (hb3.cell (p := ⟨b, o + k * 6 + i, none⟩) (rangeAt_lt hrng.out)).trans (hrng.out i v hi))) ?_)
                | (go_at_call 33; refine hEl.out.mono ?_; rintro e w3 ⟨rfl, hb3⟩; have cw3 := (hb3.cell (p := ⟨w.heap.size, 0, none⟩) (Nat.lt_of_lt_of_le hw1 hXs)).trans cw)
                | (go_at_call 34; refine (hTx.out _).mono ?_; rintro e w4 ⟨rfl, hb4⟩))
              go_ret
              exact ⟨ret_bool HXX.out.symm, bel HB1.out (bel HB.out (bel hb3 hb4))⟩
            · rw [ht] at hTx HSh
              have HN2 := hideT (HNx.out HSh.out)
              clear ht HX HNx HSh
              go_wp2_with (first
                | (go_at_call 32; refine hLie.out.mono ?_; rintro e w2 ⟨rfl, hw2⟩; replace hw2 := hw2.symm; subst hw2)
                | ((with_reducible show wpList _ _ _ ({ op := Op.load 43 _, .. } :: _) _ _); refine wpList_load_N (by rfl) _ rfl b (o + k * 6) rfl _ _ _ _ _ _ (by first | exact hrng.out | exact (fun i v hi => (hb3.cell (p := ⟨b, o + k * 6 + i, none⟩) (rangeAt_lt hrng.out)).trans (hrng.out i v hi))) ?_)
                | (go_at_call 33; refine hEl.out.mono ?_; rintro e w3 ⟨rfl, hb3⟩; have cw3 := (hb3.cell (p := ⟨w.heap.size, 0, none⟩) (Nat.lt_of_lt_of_le hw1 hXs)).trans cw)
                | (go_at_call 34; refine (hTx.out _).mono ?_; rintro e w4 ⟨rfl, hb4⟩))
              go_roundw
              case rel => exact ⟨k + 1, by go_num, by omega, by omega, HN2, bel HB.out (bel hb3 hb4)⟩
              case measure => simp [intOf]; omega
          · rw [he] at hEl HSh
            have HN2 := hideT (HNx.out HSh.out)
            clear he HX HNx HSh
            go_wp2_with (first
              | (go_at_call 32; refine hLie.out.mono ?_; rintro e w2 ⟨rfl, hw2⟩; replace hw2 := hw2.symm; subst hw2)
              | ((with_reducible show wpList _ _ _ ({ op := Op.load 43 _, .. } :: _) _ _); refine wpList_load_N (by rfl) _ rfl b (o + k * 6) rfl _ _ _ _ _ _ hrng.out ?_)
              | (go_at_call 33; refine hEl.out.mono ?_; rintro e w3 ⟨rfl, hb3⟩))
            go_roundw
            case rel => exact ⟨k + 1, by go_num, by omega, by omega, HN2, bel HB.out hb3⟩
            case measure => simp [intOf]; omega
      · have hke : k = ns.length := by omega
        subst hke
        have HU : Hid (∀ i, i < ns.length → i ≠ 0 → 0 ≤ (Tre.ndAt ns i).up ∧ (Tre.ndAt ns i).up < (i : Int)) := fun i hi h => by
          have hs := HS.out i hi
          unfold Tre.shapeB Tre.liesB at hs
          rw [if_neg h] at hs
          simp only [Bool.and_eq_true, decide_eq_true_eq] at hs
          exact ⟨hs.1.1, hs.1.2.1⟩
        have hK := hideT (haveKids_any ns _ X (HV1.out.below HB.out) (by omega) (by omega) HU.out HU0.out)
        have HX : Hid (Tre.mayB ns = Tre.allTo (Tre.kidsB ns) ns.length) := by
          show _ = _
          cases hq : Tre.allTo (Tre.kidsB ns) ns.length
          · cases hm : Tre.mayB ns
            · rfl
            · have := (Tre.allTo_iff _ _).2 ((Tre.mayB_iff ns).1 hm).2.2
              rw [hq] at this
              cases this
          · exact Tre.mayB_yes ⟨by omega, by omega⟩ HS.out ((Tre.allTo_iff _ _).1 hq)
        go_wp2_with (go_at_call 35; refine hK.out.mono ?_; rintro e w3 ⟨rfl, hb3⟩)
        go_ret
        exact ⟨ret_bool HX.out.symm, bel HB1.out (bel HB.out hb3)⟩
end Go.Proofs.YtiodaahncadodaaGreatDoor
/- The contracts of slices.Equal at numbers, of tree's sameNode and Same; of the reference's sameInts and Same. -/
namespace Go.Proofs.YtiodaahncadodaaGreatDoor
open Go.RowKit
theorem take_next {α : Type} {a b : List α} {k : Nat} {x : α} (h : a.take k = b.take k) (h1 : a[k]? = some x) (h2 : b[k]? = some x) : a.take (k + 1) = b.take (k + 1) := by
  rw [List.take_add_one, List.take_add_one, h, h1, h2]
end Go.Proofs.YtiodaahncadodaaGreatDoor
/- The contracts of tree's Same and Deep. -/
namespace Go.Proofs.YtiodaahncadodaaGreatDoor
open Go.RowKit
theorem new_range (w : World) (x0 x1 x2 x3 x4 x5 : Value) (t : TypeId) : (w.alloc (.cells #[x0, x1, x2, x3, x4, x5] t)).rangeAt w.heap.size 0 [x0, x1, x2, x3, x4, x5] := by
  intro j u hj
  rw [Lib.cell_of_heap (heap_new w _), Nat.zero_add]
  simpa using hj
end Go.Proofs.YtiodaahncadodaaGreatDoor
/- The contract of tree's Deep. -/
namespace Go.Proofs.YtiodaahncadodaaGreatDoor
open Go.RowKit
/-- How deep the first k nodes are; of the others 0. -/
def depL (ns : List Nd) (k : Nat) : List Value := (List.range ns.length).map fun u => .int .i64 (if u < k then (Tre.dep ns u : Int) else 0)
theorem depL_at (ns : List Nd) (k u : Nat) (h : u < ns.length) : (depL ns k)[u]? = some (.int .i64 (if u < k then (Tre.dep ns u : Int) else 0)) := by
  unfold depL
  rw [List.getElem?_map, List.getElem?_range h]
  rfl
theorem depL_len (ns : List Nd) (k : Nat) : (depL ns k).length = ns.length := by simp [depL]
theorem depL_one (ns : List Nd) : depL ns 1 = List.replicate ns.length (.int .i64 0) := by
  apply List.ext_getElem?
  intro j
  by_cases hj : j < ns.length
  · rw [depL_at ns 1 j hj, List.getElem?_replicate, if_pos hj]
    by_cases h : j < 1
    · have : j = 0 := by omega
      subst this
      rfl
    · rw [if_neg h]
  · rw [List.getElem?_eq_none (by rw [depL_len]; omega), List.getElem?_eq_none (by simp; omega)]
theorem depL_set (ns : List Nd) (k : Nat) (hk : k < ns.length) : (depL ns k).set k (.int .i64 (Tre.dep ns k : Int)) = depL ns (k + 1) := by
  apply List.ext_getElem?
  intro j
  by_cases hj : j < ns.length
  · rw [depL_at ns (k + 1) j hj, List.getElem?_set]
    by_cases e : k = j
    · subst e
      rw [if_pos rfl, if_pos (by rw [depL_len]; exact hk), if_pos (by omega)]
    · rw [if_neg e, depL_at ns k j hj]
      by_cases h : j < k
      · rw [if_pos h, if_pos (by omega)]
      · rw [if_neg h, if_neg (by omega)]
  · rw [List.getElem?_eq_none (by rw [List.length_set, depL_len]; omega), List.getElem?_eq_none (by rw [depL_len]; omega)]
set_option maxHeartbeats 2000000 in
set_option maxRecDepth 100000 in
theorem Deep_any (ns : List Nd) (v : Value) (w : World) (hv : ReadsN w v ns) (hn : ns.length ≤ 1000000000) (hat : ns.length ≤ 4096 → ∀ i, i < ns.length → (Tre.ndAt ns i).attrs.length ≤ 1000000) :
    Calls Tryz.prog 17 #[.agg #[v]] w fun e w' => e = .returned (.int .i64 (Tre.deepN ns : Int)) ∧ Below w.heap.size w w' := by
  obtain ⟨i0, hi, hz0, hz1, hz2⟩ := info_parts infoInt13
  obtain ⟨a, c, rfl⟩ := hv.form
  have hb0 : Below w.heap.size w (w.alloc (.cells #[.slice a ns.length c] 26)) := (Below.refl _ _).alloc (Nat.le_refl _) _
  have hh := heap_new w (.cells #[.slice a ns.length c] 26)
  have c0 := Lib.cell_of_heap hh 0
  have hM := hideT (May_any ns _ _ (hv.below hb0) hn hat)
  have HV := hideT (hv.below hb0)
  have HB0 := hideT hb0
  have hwW : w.heap.size < (w.alloc (.cells #[.slice a ns.length c] 26)).heap.size := by simp
  clear hv hh hat hb0
  cases hm : Tre.mayB ns
  · rw [hm] at hM
    have HX : Hid (Tre.deepN ns = 0) := by
      show _ = _
      unfold Tre.deepN
      rw [hm]
      rfl
    clear hm
    go_enter Tryz.func17, Tryz.ntmps17
    go_wp2_with (go_at_call 15; refine hM.out.mono ?_; rintro e w1 ⟨rfl, hb1⟩)
    go_ret
    exact ⟨by rw [HX.out]; rfl, bel HB0.out hb1⟩
  · rw [hm] at hM
    have HX : Hid (Tre.deepN ns = Tre.maxD ns ns.length) := by
      show _ = _
      unfold Tre.deepN
      rw [hm]
      rfl
    have hle := ((Tre.mayB_iff ns).1 hm).1
    have HUp : Hid (∀ i, i < ns.length → i ≠ 0 → 0 ≤ (Tre.ndAt ns i).up ∧ (Tre.ndAt ns i).up < (i : Int)) := fun i hi h0 => Tre.may_up hm hi h0
    have HD1 := hideT (depL_one ns)
    clear hm
    go_enter Tryz.func17, Tryz.ntmps17
    go_wp2_with (first
      | (go_at_call 15; refine hM.out.mono ?_; rintro e w1 ⟨rfl, hb1⟩; have c01 := (hb1.cell (p := ⟨w.heap.size, 0, none⟩) hwW).trans c0)
      | (at_make; refine wpList_make_full _ rfl (.tmp 11) (.tmp 11) 41 rfl w.heap.size 3 i0 (.int .i64 0) 1 Tryz.underlying41 hi hz0 hz1 _ _ _ _ ns.length rfl rfl rfl rfl (by rw [hz2]; omega) (by unfold maxLen; omega) (Nat.le_trans HB0.out.size hb1.size) ?_; intro w2 hown2 hgrow2))
    have HB1 := hideT (bel HB0.out hb1)
    have hg2 : Below w1.heap.size w1 w2 := (Below.refl _ _).grown hgrow2 (Nat.le_refl _) (by simp)
    have HB2 := hideT (bel HB1.out hg2)
    have c02 := (hg2.cell (p := ⟨w.heap.size, 0, none⟩) (Nat.lt_of_lt_of_le hwW hb1.size)).trans c01
    have HV1 := hideT (HV.out.below hb1)
    have HG2 := hideT hg2
    have HO1 : Hid (w2.ownsRow w.heap.size 3 1 (.slice (some ⟨w1.heap.size, 0, none⟩) ns.length ns.length) ns.length (depL ns 1)) := by
      have h := hown2
      rw [show (Value.int IntKind.i64 0).cells = #[.int .i64 0] from rfl, toList_madeCells_one, Nat.mul_one, ← HD1.out] at h
      exact h
    have hw01 : w.heap.size < w1.heap.size := Nat.lt_of_lt_of_le hwW hb1.size
    clear hown2 hgrow2 HD1 c0 c01 HV hb1 hwW
    go_loopw [5, 3] (fun i m wr => ∃ k : Nat, i = .int .i64 k ∧ m = .int .i64 (Tre.maxD ns k : Int) ∧ 1 ≤ k ∧ k ≤ ns.length ∧ Tre.maxD ns k ≤ 4096 ∧ Hid (wr.ownsRow w.heap.size 3 1 (.slice (some ⟨w1.heap.size, 0, none⟩) ns.length ns.length) ns.length (depL ns k)) ∧ Hid (Below w1.heap.size w2 wr)) (fun i _ _ => ns.length - (intOf i).toNat)
    case atStart => exact ⟨1, rfl, rfl, Nat.le_refl _, hle.1, by rw [Tre.maxD, Tre.maxD, Tre.dep_zero]; decide, HO1, Below.refl _ _⟩
    case round =>
      obtain ⟨k, rfl, rfl, hk1, hk2, hmx, HO, HB⟩ := hrel
      have cw := (HB.out.cell (p := ⟨w.heap.size, 0, none⟩) hw01).trans c02
      rename World => X
      have HBX : Hid (Below w1.heap.size w1 X) := HG2.out.trans HB.out
      by_cases hlt : k < ns.length
      · obtain ⟨hu0, hu1⟩ := HUp.out k hlt (by omega)
        obtain ⟨b, o, aa, ac, ka, kc, rfl, hc, hr⟩ := (HV1.out.below HBX.out).at hlt
        obtain ⟨u, hu⟩ : ∃ u : Nat, (Tre.ndAt ns k).up = (u : Int) := ⟨(Tre.ndAt ns k).up.toNat, by omega⟩
        have hul : u < ns.length := by omega
        have c4 := hr.c4
        rw [hu] at c4
        have cm := (World.ownsRow.cellAt (w := X) HO.out u (by omega)).trans (depL_at ns k u hul)
        rw [if_pos (by omega)] at cm
        have fm := World.ownsRow.frozenAt (w := X) HO.out k
        have hdk : Tre.dep ns k = Tre.dep ns u + 1 := by
          rw [Tre.dep_up HUp.out hlt (by omega), hu]
          rfl
        have hdl : Tre.dep ns u ≤ u := Tre.dep_le ns u u
        have HO2 : Hid ((X.setCell ⟨w1.heap.size, k, none⟩ (.int .i64 ((Tre.dep ns u : Int) + 1))).ownsRow w.heap.size 3 1 (.slice (some ⟨w1.heap.size, 0, none⟩) ns.length ns.length) ns.length (depL ns (k + 1))) := by
          have := (World.ownsRow.stored (w := X) HO.out k (.int .i64 (Tre.dep ns k : Int))).1
          rw [depL_set ns k hlt] at this
          rw [show ((Tre.dep ns u : Int) + 1) = (Tre.dep ns k : Int) from by omega]
          exact this
        have ck := (World.ownsRow.cellAt (w := X) HO.out k (by omega)).trans (depL_at ns k k hlt)
        rw [if_neg (by omega)] at ck
        have cn := (World.ownsRow.cellAt HO2.out k (by omega)).trans (depL_at ns (k + 1) k hlt)
        rw [if_pos (by omega), show (Tre.dep ns k : Int) = ((Tre.dep ns u : Int) + 1) from by omega] at cn
        have HB3 : Hid (Below w1.heap.size w2 (X.setCell ⟨w1.heap.size, k, none⟩ (.int .i64 ((Tre.dep ns u : Int) + 1)))) := HB.out.setCell (Nat.le_refl _) _
        have HM : Hid (Tre.maxD ns (k + 1) = max (Tre.maxD ns k) (Tre.dep ns u + 1)) := by
          show _ = _
          rw [Tre.maxD, hdk]
        clear hu0 hu1 hr hu hdk
        generalize Tre.dep ns u = q at *
        generalize Tre.maxD ns k = m at *
        by_cases hmq : m ≤ q + 1
        · have HM2 : Hid (Tre.maxD ns (k + 1) = q + 1) := by
            show _ = _
            rw [HM.out]
            exact Nat.max_eq_right hmq
          have h1 : ¬ ((q : Int) + 1 < (m : Int)) := by omega
          clear HM hmq
          go_wp2
          go_roundw
          case rel => exact ⟨k + 1, by go_num, by rw [HM2.out]; congr 1; omega, by omega, by omega, by rw [HM2.out]; omega, HO2, HB3⟩
          case measure => simp [intOf]; omega
        · have HM2 : Hid (Tre.maxD ns (k + 1) = m) := by
            show _ = _
            rw [HM.out]
            exact Nat.max_eq_left (by omega)
          have h1 : ((q : Int) + 1 < (m : Int)) := by omega
          clear HM hmq
          go_wp2
          go_roundw
          case rel => exact ⟨k + 1, by go_num, by rw [HM2.out]; congr 1; omega, by omega, by omega, by rw [HM2.out]; omega, HO2, HB3⟩
          case measure => simp [intOf]; omega
      · have hke : k = ns.length := by omega
        subst hke
        go_wp2
        go_ret
        exact ⟨by rw [HX.out]; rfl, HB2.out.trans (HB.out.mono (by have := HB0.out.size; omega))⟩
end Go.Proofs.YtiodaahncadodaaGreatDoor
