/- Texts laid as one. -/
import Derived.Test.YtcjbceidgaieaaaKDkJL
import Derived.Test.YtcjbceidgaieaaaKDkR2
import Derived.Lib.SlBytesConst
import Derived.Laws.Tables
/- Disks within a law; the contract of alive. -/
set_option linter.unusedVariables false
set_option linter.unusedSimpArgs false
namespace Go.Proofs.Ytcjbceidgaieaaa
open Go.RowKit
/-- A disk of the law's own, that w0 began with. -/
structure Lt (w0 : World) (T : Nat → Prop) (b : Nat) (d : Dk.D) (W : World) : Prop where
  dsk : DskE W T b d
  base : ∀ k, T k → w0.heap.size ≤ k
  bel : Below w0.heap.size w0 W
theorem more_base {T : Nat → Prop} {B : Nat} {w w' : World} (h : ∀ k, T k → B ≤ k) (hB : B ≤ w.heap.size) : ∀ k, More T w w' k → B ≤ k := fun k hk => by
  rcases hk with hk | hk
  · exact h k hk
  · omega
theorem Lt.act {w0 W W' : World} {T : Nat → Prop} {b : Nat} {d : Dk.D} {r : Int × Dk.D} {e : Ending} (h : Lt w0 T b d W) (hp : ActPost W T b r e W') : Lt w0 (More T W W') b r.2 W' :=
  ⟨hp.2.1, more_base h.base h.bel.size, h.bel.trans (hp.2.2.below h.base h.bel.size)⟩
theorem Lt.below {w0 W W' : World} {T : Nat → Prop} {b : Nat} {d : Dk.D} (h : Lt w0 T b d W) (hB : Below W.heap.size W W') : Lt w0 T b d W' := ⟨h.dsk.below hB, h.base, h.bel.trans (hB.mono h.bel.size)⟩
theorem Lt.own {w0 W W' : World} {T : Nat → Prop} {b : Nat} {d d' : Dk.D} (h : Lt w0 T b d W) (hD : DskE W' T b d') (hO : Own T W W') : Lt w0 T b d' W' := ⟨hD, h.base, h.bel.trans (hO.below h.base h.bel.size)⟩
theorem Lt.new {w0 W W' : World} {room : Int} (hB : Below w0.heap.size w0 W) (hD : Dsk W' (fun k => k = W.heap.size) W.heap.size (Dk.new room) nilS nilS nilS nilS) (hB2 : Below W.heap.size W W') : Lt w0 (fun k => k = W.heap.size) W.heap.size (Dk.new room) W' :=
  ⟨⟨_, _, _, _, hD⟩, fun k hk => by rw [hk]; exact hB.size, hB.trans (hB2.mono hB.size)⟩
/-- What an act of a law's own disk leaves. -/
def LtPost (w0 : World) (T : Nat → Prop) (b : Nat) (W : World) (x : Int) (d : Dk.D) (e : Ending) (w' : World) : Prop := e = .returned (.int .i64 x) ∧ Lt w0 (More T W w') b d w' ∧ Own T W w'
theorem Lt.post {w0 W W' : World} {T : Nat → Prop} {b : Nat} {d : Dk.D} {r : Int × Dk.D} {e : Ending} (h : Lt w0 T b d W) (hp : ActPost W T b r e W') : LtPost w0 T b W r.1 r.2 e W' := ⟨hp.1, h.act hp, hp.2.2⟩
theorem Lt.append {w0 W : World} {T : Nat → Prop} {b : Nat} {d : Dk.D} (h : Lt w0 T b d W) (f : Int) (y : Value) (l : List UInt8) (hy : RB W y l) (hl : l.length ≤ maxLen) {x : Int} {d' : Dk.D} (e : d.append f l = (x, d')) : Calls Try.prog 66 #[ptr b 0, .int .i64 f, y] W (LtPost w0 T b W x d') := by
  obtain ⟨n0, g0, n1, g1, hD⟩ := h.dsk
  have := Append_yes hD f y l hy hl
  rw [e] at this
  exact this.mono (fun _ _ hp => h.post hp)
theorem Lt.sync {w0 W : World} {T : Nat → Prop} {b : Nat} {d : Dk.D} (h : Lt w0 T b d W) (f : Int) {x : Int} {d' : Dk.D} (e : d.sync f = (x, d')) : Calls Try.prog 67 #[ptr b 0, .int .i64 f] W (LtPost w0 T b W x d') := by
  obtain ⟨n0, g0, n1, g1, hD⟩ := h.dsk
  have := Sync_yes hD f
  rw [e] at this
  exact this.mono (fun _ _ hp => h.post hp)
theorem Lt.start {w0 W : World} {T : Nat → Prop} {b : Nat} {d : Dk.D} (h : Lt w0 T b d W) (k0 k1 : Int) (c0 c1 : Bool) (hk0 : -9223372036854775808 ≤ k0 ∧ k0 ≤ 9223372036854775807) (hk1 : -9223372036854775808 ≤ k1 ∧ k1 ≤ 9223372036854775807) {x : Int} {d' : Dk.D} (e : d.start k0 k1 c0 c1 = (x, d')) : Calls Try.prog 22 #[ptr b 0, lossV k0 k1 c0 c1] W (LtPost w0 T b W x d') := by
  obtain ⟨n0, g0, n1, g1, hD⟩ := h.dsk
  have := Start_yes hD k0 k1 c0 c1 hk0 hk1
  rw [e] at this
  exact this.mono (fun _ _ hp => h.post hp)
theorem Lt.does {w0 W : World} {T : Nat → Prop} {b : Nat} {d : Dk.D} (h : Lt w0 T b d W) (a : Ac) (hA : AcOK W a) {x : Int} {d' : Dk.D} (e : d.doo a = (x, d')) : Calls Try.prog 41 #[ptr b 0, aV a] W (LtPost w0 T b W x d') := by
  obtain ⟨n0, g0, n1, g1, hD⟩ := h.dsk
  have := does_any hD a hA
  rw [e] at this
  exact this.mono (fun _ _ hp => h.post hp)
theorem Lt.fail {w0 W : World} {T : Nat → Prop} {b : Nat} {d : Dk.D} (h : Lt w0 T b d W) : Calls Try.prog 21 #[ptr b 0] W fun e w' => e = .returned (.tuple #[]) ∧ Lt w0 T b d.fail w' ∧ Own T W w' := by
  obtain ⟨n0, g0, n1, g1, hD⟩ := h.dsk
  exact (Fail_yes hD).mono (fun _ _ hp => ⟨hp.1, h.own ⟨_, _, _, _, hp.2.1⟩ hp.2.2, hp.2.2⟩)
theorem Lt.read {w0 W : World} {T : Nat → Prop} {b : Nat} {d : Dk.D} (h : Lt w0 T b d W) (f : Int) {l : List UInt8} (hf : d.why f = 0) (hl : (d.at f).now = l) : Calls Try.prog 26 #[ptr b 0, .int .i64 f] W fun e w' => ∃ u, e = .returned (.tuple #[u, .int .i64 0]) ∧ OwnsBytes w' W.heap.size u l ∧ Below W.heap.size W w' := by
  subst hl
  obtain ⟨n0, g0, n1, g1, hD⟩ := h.dsk
  exact Read_yes hD f hf
theorem Lt.left {w0 W : World} {T : Nat → Prop} {b : Nat} {d : Dk.D} (h : Lt w0 T b d W) {x : Int} (e : d.left = x) : Calls Try.prog 43 #[ptr b 0] W fun e w' => e = .returned (.int .i64 x) ∧ Below W.heap.size W w' := by
  subst e
  obtain ⟨n0, g0, n1, g1, hD⟩ := h.dsk
  exact Left_yes hD
theorem Lt.isOn {w0 W : World} {T : Nat → Prop} {b : Nat} {d : Dk.D} (h : Lt w0 T b d W) : Calls Try.prog 18 #[ptr b 0] W fun e w' => e = .returned (.bool d.on) ∧ w' = W := by
  obtain ⟨n0, g0, n1, g1, hD⟩ := h.dsk
  exact On_yes hD
theorem Lt.root {w0 W : World} {T : Nat → Prop} {b : Nat} {d : Dk.D} (h : Lt w0 T b d W) : Calls Try.prog 25 #[ptr b 0] W fun e w' => e = .returned (.tuple #[.int .i64 (if d.on = true then d.root else 0), .int .i64 (if d.on = true then 0 else 12)]) ∧ w' = W := by
  obtain ⟨n0, g0, n1, g1, hD⟩ := h.dsk
  exact Root_yes hD
def al1 : Dk.D := ⟨true, 100, 0, ⟨[97, 98], 0, []⟩, ⟨[], 0, []⟩, -1, false⟩
def al2 : Dk.D := ⟨true, 100, 0, ⟨[97, 98], 2, []⟩, ⟨[], 0, []⟩, -1, false⟩
def al3 : Dk.D := ⟨true, 100, 0, ⟨[97, 98, 99, 100], 2, []⟩, ⟨[], 0, []⟩, -1, false⟩
def al4 : Dk.D := ⟨false, 100, 0, ⟨[97, 98, 99, 100], 2, []⟩, ⟨[], 0, []⟩, -1, false⟩
def al5 : Dk.D := ⟨true, 100, 0, ⟨[97, 98, 99], 3, []⟩, ⟨[], 0, []⟩, -1, false⟩
theorem al_1 : (Dk.new 100).append 0 [97, 98] = (0, al1) := by rfl
theorem al_2 : al1.sync 0 = (0, al2) := by rfl
theorem al_3 : al2.append 0 [99, 100] = (0, al3) := by rfl
theorem al_4 : al3.fail = al4 := by rfl
theorem al_5 : al4.start 1 0 false false = (0, al5) := by rfl
theorem al_6 : al5.why 0 = 0 := by rfl
theorem al_7 : al5.left = 97 := by rfl
theorem al_8 : (al5.at 0).now = [97, 98, 99] := by rfl
set_option maxHeartbeats 2000000 in
set_option maxRecDepth 100000 in
theorem alive9_any (w : World) :
    Calls Try.prog 39 #[] w fun e w' => e = .returned (.bool true) ∧ Below w.heap.size w w' := by
  have kc := fun (w : World) (C : Array Value) (n c : Nat) => Lib.run_convert_bytes_const (P := Try.prog) w 27 5 C n c Try.underlying27 Try.underlying5
  have hN := New_yes 100 (by decide) (by decide) w
  go_enter Try.func39, Try.ntmps39
  go_wp2_with (first
    | (go_at_call 9; refine hN.mono ?_; rintro e w1 ⟨rfl, hD1, hB1⟩; have L1 := (Lt.new (Below.refl _ w) hD1 hB1).below (alloc1 w1 (.cells #[.int .u8 97, .int .u8 98] 5 (2, 3))); have C1 := L1.append 0 _ [97, 98] (RB.new w1 [97, 98] #[.int .u8 97, .int .u8 98] rfl 5 (2, 3) 2 rfl) (by decide) al_1; unfold LtPost at C1; clear hN hD1 L1)
    | (go_at_call 66; refine C1.mono ?_; rintro e w2 ⟨rfl, L2, _⟩; have C2 := L2.sync 0 al_2; unfold LtPost at C2; clear L2 C1)
    | (go_at_call 67; refine C2.mono ?_; rintro e w3 ⟨rfl, L3, _⟩; have L4 := L3.below (alloc1 w3 (.cells #[.int .u8 99, .int .u8 100] 5 (2, 3))); have C3 := L4.append 0 _ [99, 100] (RB.new w3 [99, 100] #[.int .u8 99, .int .u8 100] rfl 5 (2, 3) 2 rfl) (by decide) al_3; unfold LtPost at C3; clear L3 L4 C2)
    | (go_at_call 66; refine C3.mono ?_; rintro e w4 ⟨rfl, L5, _⟩; have C4 := L5.fail; rw [al_4] at C4; clear L5 C3)
    | (go_at_call 21; refine C4.mono ?_; rintro e w5 ⟨rfl, L6, _⟩; have C5 := L6.start 1 0 false false ⟨by decide, by decide⟩ ⟨by decide, by decide⟩ al_5; unfold LtPost at C5; clear L6 C4)
    | (go_at_call 22; refine C5.mono ?_; rintro e w6 ⟨rfl, L7, _⟩; have C6 := L7.read 0 al_6 al_8; have L7' := hide9 L7; clear L7 C5)
    | (go_at_call 26; refine C6.mono ?_; rintro e w7 ⟨u, rfl, hu, hB7⟩; obtain ⟨ua, uc, rfl⟩ := hu.form; have hcv : (convert 27 9 (.slice ua 3 uc)).run Try.prog w7 = .ok (.string ⟨#[97, 98, 99]⟩) w7 := conv_RB hu.reads; have L8 := L7'.out.below hB7; have C7 := L8.left al_7; have HB8 := hide9 L8.bel; clear C6 L7' L8)
    | (go_at_call 43; refine C7.mono ?_; rintro e w8 ⟨rfl, hB9⟩))
  go_ret
  exact ⟨rfl, bel HB8.out hB9⟩
end Go.Proofs.Ytcjbceidgaieaaa
/- Scripts; the contracts of short and far. -/
set_option linter.unusedVariables false
set_option linter.unusedSimpArgs false
namespace Go.Proofs.Ytcjbceidgaieaaa
open Go.RowKit
/-- A slice reads as these acts. -/
def RAs (w : World) (v : Value) (as9 : List Ac) : Prop :=
  (∃ a c, v = .slice a 0 c ∧ as9 = [] ∧ (a = none → c = 0)) ∨ ∃ b o c, v = .slice (some ⟨b, o, none⟩) as9.length c ∧ as9.length ≤ c ∧ b < w.heap.size ∧ ∀ (j : Nat) a, as9[j]? = some a → w.rangeAt b (o + j * 9) (aX a).toList ∧ AcOK w a
theorem RAs.below {w w' : World} {v : Value} {as9 : List Ac} (h : RAs w v as9) (hB : Below w.heap.size w w') : RAs w' v as9 := by
  rcases h with h | ⟨b, o, c, rfl, hc, hb, hr⟩
  · exact .inl h
  · exact .inr ⟨b, o, c, rfl, hc, Nat.lt_of_lt_of_le hb hB.size, fun j a hj => ⟨fun i x hx => (hB.cell (p := ⟨b, o + j * 9 + i, none⟩) hb).trans ((hr j a hj).1 i x hx), (hr j a hj).2.below hB⟩⟩
theorem RAs.form {w : World} {v : Value} {as9 : List Ac} (h : RAs w v as9) : ∃ a c, v = .slice a as9.length c ∧ as9.length ≤ c := by
  rcases h with ⟨a, c, rfl, rfl, _⟩ | ⟨b, o, c, rfl, hc, _⟩
  · exact ⟨a, c, rfl, Nat.zero_le _⟩
  · exact ⟨_, c, rfl, hc⟩
theorem RAs.take {w : World} {a : Option Addr} {n c : Nat} {as9 : List Ac} (h : RAs w (.slice a n c) as9) (k : Nat) (hk : k ≤ as9.length) : RAs w (.slice a k c) (as9.take k) := by
  have hlk : (as9.take k).length = k := by simp; omega
  rcases h with ⟨a', c', he, rfl, h0⟩ | ⟨b, o, c', he, hc, hb, hr⟩
  · cases he
    have : k = 0 := by simpa using hk
    subst this
    exact .inl ⟨_, _, rfl, rfl, h0⟩
  · cases he
    refine .inr ⟨b, o, c, by rw [hlk], by omega, hb, fun j a hj => hr j a ?_⟩
    rw [List.getElem?_take] at hj
    split at hj
    · exact hj
    · cases hj
theorem RAs.at {w : World} {a : Option Addr} {n c : Nat} {as9 : List Ac} (h : RAs w (.slice a n c) as9) {j : Nat} (hj : j < as9.length) : n = as9.length ∧ n ≤ c ∧ ∃ b o, a = some ⟨b, o, none⟩ ∧ w.rangeAt b (o + j * 9) (aX as9[j]).toList ∧ AcOK w as9[j] := by
  rcases h with ⟨a', c', he, rfl, _⟩ | ⟨b, o, c', he, hc, hb, hr⟩
  · simp at hj
  · cases he
    exact ⟨rfl, hc, b, o, rfl, hr j _ (List.getElem?_eq_getElem hj)⟩
theorem RAs.ok {w : World} {v : Value} {as9 : List Ac} (h : RAs w v as9) {j : Nat} (hj : j < as9.length) : AcOK w as9[j] := by
  rcases h with ⟨a', c', he, rfl, _⟩ | ⟨b, o, c', he, hc, hb, hr⟩
  · simp at hj
  · exact (hr j _ (List.getElem?_eq_getElem hj)).2
theorem sizeA : (Try.prog.info? 85).map (·.size) = some 9 := by kernel_rfl
/-- An act's own block. -/
def AAt (w : World) (b : Nat) (a : Ac) : Prop := w.heap[b]? = some (.cells (aX a) 85 (0, 0))
theorem AAt.cell {w : World} {b : Nat} {a : Ac} (h : AAt w b a) (i : Nat) : w.cell? ⟨b, i, none⟩ = (aX a)[i]? := Lib.cell_of_heap h i
theorem AAt.range {w : World} {b : Nat} {a : Ac} (h : AAt w b a) : w.rangeAt b 0 (aX a).toList := fun j v hj => by
  rw [h.cell, Nat.zero_add, ← Array.getElem?_toList]
  exact hj
theorem AAt.lt {w : World} {b : Nat} {a : Ac} (h : AAt w b a) : b < w.heap.size := (Array.getElem?_eq_some_iff.1 h).1
theorem AAt.keep {w w' : World} {b : Nat} {a : Ac} (h : AAt w b a) (e : w'.heap[b]? = w.heap[b]?) : AAt w' b a := e.trans h
theorem wpList_load_A {ops : Array Oper} {rest : List Oper} {op : Oper} {a : Act} {w : World} {Q : Exit → Act → World → Prop} (hgd : op.guard = none) (x : Operand) (ho : op.op = .load 85 x)
    (b o : Nat) (hx : a.eval x = ptr b o) (ac : Ac) (hc : w.rangeAt b o (aX ac).toList)
    (h : wpList Try.prog ops Q rest (a.put op.dst (aV ac)) w) : wpList Try.prog ops Q (op :: rest) a w :=
  wpList_load_mid hgd _ x ho b o hx (aX ac).toList _ hc Try.underlying85 rfl sizeA h
theorem wpList_store_A {ops : Array Oper} {rest : List Oper} {o : Oper} {a : Act} {w : World} {Q : Exit → Act → World → Prop} (x y : Operand) (ho : o.op = .store 85 x y) (hg : o.guard = none) (b : Nat) (ac : Ac) (Y : Array Value) (hx : a.eval x = ptr b 0) (hy : a.eval y = aV ac) (h : w.heap[b]? = some (.cells Y 85 (0, 0))) (hY : Y.size = 9) (hv : ac.v.oneCell' = true)
    (hn : ∀ w', AAt w' b ac → Own (fun k => k = b) w w' → wpList Try.prog ops Q rest (a.put o.dst undef) w') : wpList Try.prog ops Q (o :: rest) a w := by
  refine wpList_plain hg fun K hK => ?_
  unfold Oper.wp
  have e : (execOp a.eval o).run Try.prog w = .ok .skip (w.setRow b (aX ac)) := by
    unfold execOp
    rw [ho]
    have e2 : (Instr.storeAt 85 (ptr b 0) (aV ac)).run Try.prog w = .ok () (w.setRow b (aX ac)) := by
      simp only [Instr.storeAt, Instr.sureAddr, Sem.run_bind, Sem.run_pure, Result.andThen]
      exact run_storeVar_row _ _ _ _ _ _ h sizeA hY (by simp [hv]; exact ⟨rfl, rfl, rfl, rfl, rfl, rfl, rfl, rfl⟩)
    simp only [hx, hy, Sem.run_bind, e2, Result.andThen, Sem.run_pure]
  rw [e, Oper.upon_skip]
  refine hK _ _ (hn _ (setRow_heap w b Y (aX ac) _ _ h) ⟨rfl, rfl, rfl, by simp [World.setRow], fun k _ hk => setRow_other w b k _ hk⟩)
set_option maxHeartbeats 2000000 in
set_option maxRecDepth 100000 in
theorem short_any {w : World} {v : Value} {as9 : List Ac} (h : RAs w v as9) (hl : as9.length ≤ maxLen) :
    Calls Try.prog 40 #[v] w fun e w' => ∃ v', e = .returned v' ∧ (∀ W, RAs W v as9 → RAs W v' (as9.take 60)) ∧ w' = w := by
  obtain ⟨a, c, rfl, hc⟩ := h.form
  unfold maxLen at hl
  by_cases h6 : as9.length ≤ 60
  · have hT : ∀ W, RAs W (.slice a as9.length c) as9 → RAs W (.slice a as9.length c) (as9.take 60) := fun W h => by rw [List.take_of_length_le h6]; exact h
    have HT := hide9 hT
    clear h hT
    have h7 : (as9.length : Int) ≤ 60 := by omega
    go_enter Try.func40, Try.ntmps40
    go_wp2
    go_ret
    exact ⟨_, rfl, HT.out, rfl⟩
  · have hT : ∀ W, RAs W (.slice a as9.length c) as9 → RAs W (.slice a 60 c) (as9.take 60) := fun W h => h.take 60 (by omega)
    have HT := hide9 hT
    clear h hT
    have h7 : ¬ (as9.length : Int) ≤ 60 := by omega
    have h8 : (60 : Int) < (as9.length : Int) := by omega
    have h9 : 60 ≤ c := by omega
    go_enter Try.func40, Try.ntmps40
    go_wp2
    go_ret
    exact ⟨_, rfl, HT.out, rfl⟩
/-- It returns yes, or no. -/
def IsB (e : Ending) : Prop := ∃ x, e = .returned (.bool x)
theorem one_of {w : World} {v : Value} {l : List UInt8} (h : RB w v l) : v.oneCell' = true := by
  obtain ⟨a, c, rfl⟩ := h.form
  rfl
set_option maxHeartbeats 2000000 in
set_option maxRecDepth 100000 in
theorem far_any {w : World} {v : Value} {as9 : List Ac} (h : RAs w v as9) (hl : as9.length ≤ maxLen) :
    Calls Try.prog 38 #[v] w fun e w' => IsB e ∧ Below w.heap.size w w' := by
  have hS := short_any h hl
  have hlen : (as9.take 60).length ≤ 60 := by simp; omega
  have HH := hide9 h
  clear h hl
  generalize as9.take 60 = bs at *
  go_enter Try.func38, Try.ntmps38
  go_wp2_with (go_at_call 40; refine hS.mono ?_; rintro e w2 ⟨v', rfl, hv'', he⟩; replace he := he.symm; subst he; have hv' := hv'' _ HH.out; clear hv''; obtain ⟨a, c, rfl, hc⟩ := hv'.form; clear hS)
  go_loopw [3, 9] (fun x i wr => ∃ (j : Nat) (n : Int), j ≤ bs.length ∧ i = .int .i64 (j : Int) ∧ x = .int .i64 n ∧ 0 ≤ n ∧ n ≤ 5000 * (j : Int) ∧ Below w.heap.size w wr) (fun _ i _ => bs.length - (intOf i).toNat)
  case atStart => exact ⟨0, 0, Nat.zero_le _, rfl, rfl, by omega, by omega, Below.refl _ _⟩
  case round =>
    obtain ⟨j, n, hj, rfl, rfl, hn0, hn1, hB⟩ := hrel
    by_cases hlt : j < bs.length
    · obtain ⟨_, _, b, o, rfl, hr, hA⟩ := RAs.at (hv'.below hB) hlt
      have hone := one_of hA.rb
      obtain ⟨va, vc, hvf⟩ := hA.rb.form
      have hal := hA.len
      unfold maxLen at hal
      generalize bs[j] = ac at *
      have HB : Hid (Below w.heap.size w wr) := hB
      have hi1 : (j : Int) < (bs.length : Int) := by omega
      go_wp2_with (first
        | ((with_reducible show wpList _ _ _ ({ op := Op.load 85 _, .. } :: _) _ _); refine wpList_load_A rfl _ rfl _ _ rfl ac hr ?_)
        | ((with_reducible show wpList _ _ _ ({ op := Op.store 85 _ _, .. } :: _) _ _); refine wpList_store_A _ _ rfl rfl _ ac _ rfl rfl (heap_new _ _) rfl hone ?_; intro wn hAn hOn; have c4 := hAn.cell 4))
      refine ⟨⟨j + 1, n + (if (5000 : Int) < (ac.l.length : Int) then 5000 else (ac.l.length : Int)), by omega, by go_num, rfl, ?_, ?_, ?_⟩, ?_⟩
      · split <;> omega
      · split <;> omega
      · exact (HB.out.alloc HB.out.size _).trans (hOn.below (fun k hk => by rw [hk]; exact HB.out.size) (by have := HB.out.size; simp; omega))
      · simp [intOf]; omega
    · have hi1 : ¬ (j : Int) < (bs.length : Int) := by omega
      go_wp2
      go_ret
      exact ⟨⟨_, rfl⟩, hB⟩
end Go.Proofs.Ytcjbceidgaieaaa
/- What comes in; values beside a disk; what a disk does, further mathematics. -/
set_option linter.unusedVariables false
set_option linter.unusedSimpArgs false
namespace Go.Proofs.Ytcjbceidgaieaaa
open Go.RowKit
/-- Bytes that came in. -/
def ArgB (w : World) (v : Value) (l : List UInt8) : Prop := RB w v l ∧ l.length ≤ maxLen
/-- A script that came in. -/
def ArgA (w : World) (v : Value) (as9 : List Ac) : Prop := RAs w v as9 ∧ as9.length ≤ maxLen
/-- A slice of the law's own, beside the disk's. -/
def Out (T : Nat → Prop) (W : World) (v : Value) : Prop := ∀ k, v.ownBlock = some k → ¬ T k ∧ k < W.heap.size
theorem Out.own {T : Nat → Prop} {W W' : World} {v : Value} (h : Out T W v) (hO : Own T W W') : Out (More T W W') W' v := fun k e => ⟨fun hx => by
  rcases hx with hx | hx
  · exact (h k e).1 hx
  · have := (h k e).2
    omega, Nat.lt_of_lt_of_le (h k e).2 hO.size⟩
theorem Out.below {T : Nat → Prop} {W W' : World} {v : Value} (h : Out T W v) (hs : W.heap.size ≤ W'.heap.size) : Out T W' v := fun k e => ⟨(h k e).1, Nat.lt_of_lt_of_le (h k e).2 hs⟩
theorem OwnsBytes.own {T : Nat → Prop} {B : Nat} {W W' : World} {v : Value} {l : List UInt8} (h : OwnsBytes W B v l) (ho : Out T W v) (hO : Own T W W') : OwnsBytes W' B v l := h.keep (fun k e hk => hO.block k hk (ho k e).1)
theorem RB.own {T : Nat → Prop} {W W' : World} {v : Value} {l : List UInt8} (h : RB W v l) (ho : Out T W v) (hO : Own T W W') : RB W' v l := h.keep (fun k e hk => hO.block k hk (ho k e).1)
/-- What was just made lies beside the disk. -/
theorem out_new {T : Nat → Prop} {W W' : World} {v : Value} {l : List UInt8} (h : OwnsBytes W' W.heap.size v l) (hl : ∀ k, T k → k < W.heap.size) : Out T W' v := fun k e => ⟨fun hx => by have := hl k hx; have := (h.lt e).1; omega, (h.lt e).2⟩
/-- A byte beside the disk is written. -/
theorem Lt.set {w0 W : World} {T : Nat → Prop} {b g i : Nat} {d : Dk.D} {v : Value} (h : Lt w0 T b d W) (hg : ¬ T g) (hb : w0.heap.size ≤ g) : Lt w0 T b d (W.setCell ⟨g, i, none⟩ v) := by
  obtain ⟨n0, g0, n1, g1, hD⟩ := h.dsk
  refine ⟨⟨n0, g0, n1, g1, hD.keep (by rw [setCell_size]; exact Nat.le_refl _) (fun k _ hk => Below.heap_setCell _ _ _ _ (fun e => hg (by have e2 : k = g := e; rw [← e2]; exact hk)))⟩, h.base, h.bel.setCell hb _⟩
theorem u8_up (x : UInt8) : IntKind.u8.wrap ((x.toNat : Int) + 1) = (((x + 1 : UInt8)).toNat : Int) := by
  rw [IntKind.wrap_u8, UInt8.toNat_add]
  simp
theorem Lt.low {w0 W : World} {T : Nat → Prop} {b : Nat} {d : Dk.D} (h : Lt w0 T b d W) : ∀ k, T k → k < W.heap.size := h.dsk.low
theorem Lt.fine {w0 W : World} {T : Nat → Prop} {b : Nat} {d : Dk.D} (h : Lt w0 T b d W) : d.Fine := by
  obtain ⟨_, _, _, _, hD⟩ := h.dsk
  exact hD.fine
theorem Lt.doesP {w0 W : World} {T : Nat → Prop} {b : Nat} {d : Dk.D} (h : Lt w0 T b d W) (a : Ac) (hA : AcOK W a) {r : Int × Dk.D} (e : Hid (d.doo a = r)) : Calls Try.prog 41 #[ptr b 0, aV a] W (fun e w' => e = .returned (.int .i64 r.1) ∧ Lt w0 (More T W w') b r.2 w' ∧ Own T W w') := by
  cases r
  exact h.does a hA e.out
namespace Dk
/-- A disk without a fuse, with power. -/
structure D.Calm (d : D) : Prop where
  on : d.on = true
  fuse : d.fuse = -1
theorem act_calm {d : D} (h : d.Calm) (f q : Int) (does : D → D) (hd : (does d).fuse = -1) : d.act f q does = if f < 0 ∨ 2 ≤ f then (1, d) else if q ≠ 0 then (q, d) else (0, does d) := by
  unfold D.act D.why
  rw [h.on, h.fuse]
  by_cases h1 : f < 0 ∨ 2 ≤ f
  · rw [if_pos h1]
    simp [h1]
  · rw [if_neg h1]
    by_cases h2 : q = 0
    · subst h2
      simp [h1]
      rw [← hd]
    · simp [h1, h2]
theorem put_fuse (d : D) (f : Int) (c : Cn) : (d.put f c).fuse = d.fuse := by unfold D.put; split <;> rfl
theorem put_on (d : D) (f : Int) (c : Cn) : (d.put f c).on = d.on := by unfold D.put; split <;> rfl
theorem put_room (d : D) (f : Int) (c : Cn) : (d.put f c).room = d.room := by unfold D.put; split <;> rfl
theorem put_root (d : D) (f : Int) (c : Cn) : (d.put f c).root = d.root := by unfold D.put; split <;> rfl
theorem append_calm {d : D} (h : d.Calm) (f : Int) (l : List UInt8) : d.append f l = if f < 0 ∨ 2 ≤ f then (1, d) else if d.left < l.length then (11, d) else (0, d.put f ((d.at f).app l)) := by
  unfold D.append
  rw [act_calm h _ _ _ (by rw [put_fuse]; exact h.fuse)]
  by_cases h1 : d.left < l.length
  · rw [if_pos h1, if_pos h1]; simp
  · rw [if_neg h1, if_neg h1]; simp
theorem sync_calm {d : D} (h : d.Calm) (f : Int) : d.sync f = if f < 0 ∨ 2 ≤ f then (1, d) else (0, d.put f (d.at f).settle) := by
  unfold D.sync
  rw [act_calm h _ _ _ (by rw [put_fuse]; exact h.fuse)]
  simp
theorem trunc_calm {d : D} (h : d.Calm) (f n : Int) : d.trunc f n = if f < 0 ∨ 2 ≤ f then (1, d) else if n < 0 ∨ ((d.at f).now.length : Int) < n then (1, d) else (0, d.put f ((d.at f).trunc n.toNat)) := by
  unfold D.trunc
  rw [act_calm h _ _ _ (by rw [put_fuse]; exact h.fuse)]
  by_cases h1 : n < 0 ∨ ((d.at f).now.length : Int) < n
  · rw [if_pos h1, if_pos h1]; simp
  · rw [if_neg h1, if_neg h1]; simp
theorem switch_calm {d : D} (h : d.Calm) (f : Int) : d.switch f = if f < 0 ∨ 2 ≤ f then (1, d) else (0, { d with root := f }) := by
  unfold D.switch
  rw [act_calm h _ _ _ (by exact h.fuse)]
  simp
theorem calm_put {d : D} (h : d.Calm) (f : Int) (c : Cn) : (d.put f c).Calm := ⟨by rw [put_on]; exact h.on, by rw [put_fuse]; exact h.fuse⟩
end Dk
/-- A script's act that arms nothing, lets no power go off and starts nothing. -/
def Plain (a : Ac) : Prop := a.kind % 8 < 4 ∨ a.kind % 8 = 7
theorem calm_doo {d : Dk.D} (h : d.Calm) (a : Ac) (hp : Plain a) : (d.doo a).2.Calm := by
  unfold Dk.D.doo
  have : a.kind % 8 ≠ 4 ∧ a.kind % 8 ≠ 5 ∧ a.kind % 8 ≠ 6 := by unfold Plain at hp; omega
  split
  · rw [Dk.sync_calm h]; split; exact h; exact Dk.calm_put h _ _
  · split
    · rw [Dk.trunc_calm h]; split; exact h; split; exact h; exact Dk.calm_put h _ _
    · split
      · rw [Dk.switch_calm h]; split; exact h; exact ⟨h.on, h.fuse⟩
      · rw [if_neg this.1, if_neg this.2.1, if_neg this.2.2, Dk.append_calm h]
        split; exact h; split; exact h; exact Dk.calm_put h _ _
/-- Acts on file 0 leave file 1. -/
theorem other_doo {d : Dk.D} (h : d.Calm) (a : Ac) (hp : Plain a) (h0 : a.file = 0) : (d.doo a).2.b = d.b := by
  unfold Dk.D.doo
  have : a.kind % 8 ≠ 4 ∧ a.kind % 8 ≠ 5 ∧ a.kind % 8 ≠ 6 := by unfold Plain at hp; omega
  rw [h0]
  split
  · rw [Dk.sync_calm h]; split <;> rfl
  · split
    · rw [Dk.trunc_calm h]; split; rfl; split <;> rfl
    · split
      · rw [Dk.switch_calm h]; split <;> rfl
      · rw [if_neg this.1, if_neg this.2.1, if_neg this.2.2, Dk.append_calm h]
        split; rfl; split <;> rfl
end Go.Proofs.Ytcjbceidgaieaaa
/- Reading a disk, whatever it is; what is refused turns nothing. -/
set_option linter.unusedVariables false
set_option linter.unusedSimpArgs false
namespace Go.Proofs.Ytcjbceidgaieaaa
open Go.RowKit
/-- What Read tells. -/
def Dk.D.readL (d : Dk.D) (f : Int) : List UInt8 := if d.why f = 0 then (d.at f).now else []
theorem Lt.readAny {w0 W : World} {T : Nat → Prop} {b : Nat} {d : Dk.D} (h : Lt w0 T b d W) (f : Int) {l : List UInt8} {q : Int} (hl : Hid (d.readL f = l)) (hq : Hid (d.why f = q)) : Calls Try.prog 26 #[ptr b 0, .int .i64 f] W fun e w' => ∃ u, e = .returned (.tuple #[u, .int .i64 q]) ∧ OwnsBytes w' W.heap.size u l ∧ Below W.heap.size W w' := by
  have e1 := hl.out
  have e2 := hq.out
  subst e1
  subst e2
  obtain ⟨n0, g0, n1, g1, hD⟩ := h.dsk
  unfold Dk.D.readL
  by_cases hw : d.why f = 0
  · rw [if_pos hw, hw]
    exact Read_yes hD f hw
  · rw [if_neg hw]
    exact (Read_no hD f hw).mono (fun e w' h => ⟨_, h.1, OwnsBytes.nil _ _, by rw [h.2]; exact Below.refl _ _⟩)
/-- A slice beside the disk reads as these bytes. -/
def Rd9 (T : Nat → Prop) (W : World) (u : Value) (l : List UInt8) : Prop := OwnsBytes W 0 u l ∧ Out T W u
theorem Rd9.below {T : Nat → Prop} {W W' : World} {u : Value} {l : List UInt8} (h : Rd9 T W u l) (hB : Below W.heap.size W W') : Rd9 T W' u l := ⟨h.1.keep (fun k _ hk => hB.block k hk), h.2.below hB.size⟩
theorem Rd9.own {T : Nat → Prop} {W W' : World} {u : Value} {l : List UInt8} (h : Rd9 T W u l) (hO : Own T W W') : Rd9 (More T W W') W' u l := ⟨h.1.own h.2 hO, h.2.own hO⟩
theorem Rd9.conv {T : Nat → Prop} {W : World} {u : Value} {l : List UInt8} (h : Rd9 T W u l) : (convert 27 9 u).run Try.prog W = .ok (.string (str l)) W := conv_RB h.1.reads
theorem Rd9.form {T : Nat → Prop} {W : World} {u : Value} {l : List UInt8} (h : Rd9 T W u l) : ∃ a c, u = .slice a l.length c := h.1.form
theorem Lt.reads {w0 W : World} {T : Nat → Prop} {b : Nat} {d : Dk.D} (h : Lt w0 T b d W) (f : Int) {l : List UInt8} {q : Int} (hl : Hid (d.readL f = l)) (hq : Hid (d.why f = q)) : Calls Try.prog 26 #[ptr b 0, .int .i64 f] W fun e w' => ∃ a c, e = .returned (.tuple #[.slice a l.length c, .int .i64 q]) ∧ Rd9 T w' (.slice a l.length c) l ∧ Below W.heap.size W w' :=
  (h.readAny f hl hq).mono (fun e w' ⟨u, e1, hu, hB⟩ => by
    obtain ⟨a, c, rfl⟩ := hu.form
    exact ⟨a, c, e1, ⟨hu.base (fun _ _ => Nat.zero_le _), out_new hu h.low⟩, hB⟩)
theorem Lt.leftH {w0 W : World} {T : Nat → Prop} {b : Nat} {d : Dk.D} (h : Lt w0 T b d W) {x : Int} (e : Hid (d.left = x)) : Calls Try.prog 43 #[ptr b 0] W fun e w' => e = .returned (.int .i64 x) ∧ Below W.heap.size W w' := h.left e.out
theorem Lt.rootH {w0 W : World} {T : Nat → Prop} {b : Nat} {d : Dk.D} (h : Lt w0 T b d W) {x y : Int} (e1 : Hid ((if d.on = true then d.root else 0) = x)) (e2 : Hid ((if d.on = true then (0 : Int) else 12) = y)) : Calls Try.prog 25 #[ptr b 0] W fun e w' => e = .returned (.tuple #[.int .i64 x, .int .i64 y]) ∧ w' = W := by
  have a1 := e1.out
  have a2 := e2.out
  subst a1
  subst a2
  exact h.root
theorem Lt.onH {w0 W : World} {T : Nat → Prop} {b : Nat} {d : Dk.D} (h : Lt w0 T b d W) {x : Bool} (e : Hid (d.on = x)) : Calls Try.prog 18 #[ptr b 0] W fun e w' => e = .returned (.bool x) ∧ w' = W := by
  have a1 := e.out
  subst a1
  exact h.isOn
theorem act_refused {d : Dk.D} {f q : Int} {does : Dk.D → Dk.D} (h1 : (d.act f q does).1 ≠ 0) (h2 : (d.act f q does).2.on = d.on) : (d.act f q does).2 = d := by
  unfold Dk.D.act at *
  by_cases hw : d.why f ≠ 0
  · rw [if_pos hw]
  · rw [if_neg hw] at *
    by_cases hq : q ≠ 0
    · rw [if_pos hq]
    · rw [if_neg hq] at *
      by_cases hf : d.fuse = 0
      · rw [if_pos hf] at h2
        have := (Dk.D.why_file (by simpa using hw)).2
        rw [this] at h2
        cases h2
      · rw [if_neg hf] at h1
        exact absurd rfl h1
theorem doo_refused {d : Dk.D} {a : Ac} (h1 : (d.doo a).1 ≠ 0) (h2 : (d.doo a).2.on = d.on) : (d.doo a).2 = d := by
  unfold Dk.D.doo at *
  split at h1
  · rename_i h; rw [if_pos h] at h2 ⊢; exact act_refused h1 h2
  · rename_i h
    rw [if_neg h] at h2 ⊢
    split at h1
    · rename_i h; rw [if_pos h] at h2 ⊢; exact act_refused h1 h2
    · rename_i h
      rw [if_neg h] at h2 ⊢
      split at h1
      · rename_i h; rw [if_pos h] at h2 ⊢; exact act_refused h1 h2
      · rename_i h
        rw [if_neg h] at h2 ⊢
        split at h1
        · exact absurd rfl h1
        · rename_i h
          rw [if_neg h] at h2 ⊢
          split at h1
          · exact absurd rfl h1
          · rename_i h
            rw [if_neg h] at h2 ⊢
            split at h1
            · rename_i h
              rw [if_pos h] at h2 ⊢
              unfold Dk.D.start at *
              split at h1
              · rename_i h; rw [if_pos h]
              · exact absurd rfl h1
            · rename_i h; rw [if_neg h] at h2 ⊢; exact act_refused h1 h2
end Go.Proofs.Ytcjbceidgaieaaa
/- What was sure: mathematics, and the law's own blocks. -/
set_option linter.unusedVariables false
set_option linter.unusedSimpArgs false
namespace Go.Proofs.Ytcjbceidgaieaaa
open Go.RowKit
namespace Dk
/-- What was sure as it was synced last. -/
def Cn.sure (c : Cn) : List UInt8 := c.now.take c.whole ++ c.gone.reverse
theorem sure_app (c : Cn) (h : c.Fine) (l : List UInt8) : (c.app l).sure = c.sure := by
  unfold Cn.sure Cn.app
  show (c.now ++ l).take c.whole ++ c.gone.reverse = _
  rw [List.take_append_of_le_length h.whole]
theorem sure_settle (c : Cn) : c.settle.sure = c.now := by
  unfold Cn.sure Cn.settle
  simp
theorem sure_trunc (c : Cn) (h : c.Fine) (n : Nat) : (c.trunc n).sure = c.sure := by
  unfold Cn.sure Cn.trunc
  show (c.now.take n).take (min c.whole n) ++ (c.gone ++ ((c.now.take c.whole).drop n).reverse).reverse = _
  rw [List.reverse_append, List.reverse_reverse, List.take_take, ← List.append_assoc]
  congr 1
  have e : (c.now.take c.whole).take n = c.now.take (min (min c.whole n) n) := by rw [List.take_take]; congr 1; omega
  rw [← e, List.take_append_drop]
/-- What a loss leaves. -/
theorem left_ok (c : Cn) (h : c.Fine) (k : Int) (cut : Bool) : c.whole ≤ (c.left k cut).length ∧ (c.left k cut).take c.whole = c.sure.take c.whole ∧ (c.left k cut = c.sure ∨ ((c.left k cut).length ≤ c.now.length ∧ c.left k cut = c.now.take (c.left k cut).length)) := by
  have h1 := h.whole
  have e0 : (c.now.take c.whole).length = c.whole := by simp; omega
  have e1 : c.sure.take c.whole = c.now.take c.whole := by
    unfold Cn.sure
    rw [List.take_append_of_le_length (by omega), List.take_take, Nat.min_self]
  rw [e1]
  unfold Cn.left
  split
  · refine ⟨by rw [List.length_append]; omega, ?_, .inl rfl⟩
    rw [List.take_append_of_le_length (by omega), List.take_take, Nat.min_self]
  · have hk : c.kept k ≤ c.now.length - c.whole := by unfold Cn.kept; omega
    have e2 : (c.now.take (c.whole + c.kept k)).length = c.whole + c.kept k := by simp; omega
    refine ⟨by omega, ?_, .inr ⟨by omega, by rw [e2]⟩⟩
    rw [List.take_take]
    congr 1
    omega
end Dk
/-- A block of the law's own, beside the disk. -/
def K9 (T : Nat → Prop) (W : World) (k : Nat) (X : Array Value) (t : TypeId) : Prop := W.heap[k]? = some (.cells X t (0, 0)) ∧ ¬ T k
theorem K9.lt {T : Nat → Prop} {W : World} {k : Nat} {X : Array Value} {t : TypeId} (h : K9 T W k X t) : k < W.heap.size := (Array.getElem?_eq_some_iff.1 h.1).1
theorem K9.below {T : Nat → Prop} {W W' : World} {k : Nat} {X : Array Value} {t : TypeId} (h : K9 T W k X t) (hB : Below W.heap.size W W') : K9 T W' k X t := ⟨(hB.block k h.lt).trans h.1, h.2⟩
theorem K9.own {T : Nat → Prop} {W W' : World} {k : Nat} {X : Array Value} {t : TypeId} (h : K9 T W k X t) (hO : Own T W W') : K9 (More T W W') W' k X t := ⟨(hO.block k h.lt h.2).trans h.1, fun hx => by
  rcases hx with hx | hx
  · exact h.2 hx
  · have := h.lt
    omega⟩
theorem K9.cell {T : Nat → Prop} {W : World} {k : Nat} {X : Array Value} {t : TypeId} (h : K9 T W k X t) (i : Nat) : W.cell? ⟨k, i, none⟩ = X[i]? := Lib.cell_of_heap h.1 i
theorem K9.free {T : Nat → Prop} {W : World} {k : Nat} {X : Array Value} {t : TypeId} (h : K9 T W k X t) (i : Nat) : W.frozen? ⟨k, i, none⟩ = false := Lib.frozen_of_heap h.1 i
theorem K9.set {T : Nat → Prop} {W : World} {k : Nat} {X : Array Value} {t : TypeId} (h : K9 T W k X t) (i : Nat) (v : Value) : K9 T (W.setCell ⟨k, i, none⟩ v) k (X.setIfInBounds i v) t := ⟨heap_set h.1 v, h.2⟩
theorem K9.other {T : Nat → Prop} {W : World} {k : Nat} {X : Array Value} {t : TypeId} (h : K9 T W k X t) {k' : Nat} (hn : k ≠ k') (i : Nat) (v : Value) : K9 T (W.setCell ⟨k', i, none⟩ v) k X t := ⟨(Below.heap_setCell _ _ _ _ hn).trans h.1, h.2⟩
theorem Rd9.other {T : Nat → Prop} {W : World} {u : Value} {l : List UInt8} (h : Rd9 T W u l) {k' : Nat} (hn : u.ownBlock ≠ some k') (i : Nat) (v : Value) : Rd9 T (W.setCell ⟨k', i, none⟩ v) u l := ⟨h.1.keep (fun k e _ => Below.heap_setCell _ _ _ _ (fun e2 => hn (by rw [e]; exact congrArg some e2))), fun k e => ⟨(h.2 k e).1, by rw [setCell_size]; exact (h.2 k e).2⟩⟩
theorem K9.drew {T : Nat → Prop} {W : World} {k : Nat} {X : Array Value} {t : TypeId} (h : K9 T W k X t) : K9 T W.drew k X t := h
theorem new_ne {T : Nat → Prop} {W W' : World} {u : Value} {l : List UInt8} {k : Nat} (h : OwnsBytes W' W.heap.size u l) (hk : k < W.heap.size) : u.ownBlock ≠ some k := fun e => by have := (h.lt e).1; omega
theorem Lt.reads9 {w0 W : World} {T : Nat → Prop} {b : Nat} {d : Dk.D} (h : Lt w0 T b d W) (f : Int) {l : List UInt8} {q : Int} (hl : Hid (d.readL f = l)) (hq : Hid (d.why f = q)) : Calls Try.prog 26 #[ptr b 0, .int .i64 f] W fun e w' => ∃ a c, e = .returned (.tuple #[.slice a l.length c, .int .i64 q]) ∧ Rd9 T w' (.slice a l.length c) l ∧ Below W.heap.size W w' ∧ ∀ k, k < W.heap.size → (Value.slice a l.length c).ownBlock ≠ some k :=
  (h.readAny f hl hq).mono (fun e w' ⟨u, e1, hu, hB⟩ => by
    obtain ⟨a, c, rfl⟩ := hu.form
    exact ⟨a, c, e1, ⟨hu.base (fun _ _ => Nat.zero_le _), out_new hu h.low⟩, hB, fun k hk e => by have := (hu.lt e).1; omega⟩)
theorem Lt.more {w0 W W' : World} {T : Nat → Prop} {b : Nat} {d : Dk.D} (h : Lt w0 T b d W') (hs : w0.heap.size ≤ W.heap.size) : Lt w0 (More T W W') b d W' := ⟨DskE.more (w := W) h.dsk W, more_base h.base hs, h.bel⟩
theorem conv_drewN {T : Nat → Prop} {W : World} {a : Option Addr} {n c : Nat} {l : List UInt8} (h : Rd9 T W (.slice a n c) l) (k : Nat) (hk : k ≤ l.length) (m : Nat) : (convert 27 9 (.slice a k c)).run Try.prog (W.drewN m) = .ok (.string (str (l.take k))) (W.drewN m) := conv_RB (((h.1.take k hk).keep (w' := W.drewN m) (fun _ _ _ => rfl)).reads)
theorem conv_drewNN {T : Nat → Prop} {W : World} {a : Option Addr} {n c : Nat} {l : List UInt8} (h : Rd9 T W (.slice a n c) l) (k : Nat) (hk : k ≤ l.length) (m m' : Nat) : (convert 27 9 (.slice a k c)).run Try.prog ((W.drewN m).drewN m') = .ok (.string (str (l.take k))) ((W.drewN m).drewN m') := conv_RB (((h.1.take k hk).keep (w' := (W.drewN m).drewN m') (fun _ _ _ => rfl)).reads)
theorem far_set (w : World) {k k' : Nat} (i j : Nat) (v : Value) (h : k' ≠ k) : (w.setCell ⟨k', i, none⟩ v).cell? ⟨k, j, none⟩ = w.cell? ⟨k, j, none⟩ := World.cell?_of_block (w := w) (a := ⟨k, j, none⟩) (Below.heap_setCell _ _ _ _ (fun e => h e.symm))
theorem calm_why {d : Dk.D} (h : d.Calm) {f : Int} (hf : f = 0 ∨ f = 1) : d.why f = 0 := by
  unfold Dk.D.why
  rw [h.on]
  rcases hf with rfl | rfl <;> rfl
theorem calm_read {d : Dk.D} (h : d.Calm) {f : Int} (hf : f = 0 ∨ f = 1) : d.readL f = (d.at f).now := by
  unfold Dk.D.readL
  rw [if_pos (calm_why h hf)]
theorem keep_put {d : Dk.D} {f : Int} {c : Dk.Cn} (h : c.sure = (d.at f).sure) (hw : c.whole = (d.at f).whole) : (d.put f c).a.sure = d.a.sure ∧ (d.put f c).b.sure = d.b.sure ∧ (d.put f c).a.whole = d.a.whole ∧ (d.put f c).b.whole = d.b.whole := by
  unfold Dk.D.put Dk.D.at at *
  split
  · rename_i h0
    rw [if_pos h0] at h hw
    exact ⟨h, rfl, hw, rfl⟩
  · rename_i h0
    rw [if_neg h0] at h hw
    exact ⟨rfl, h, rfl, hw⟩
/-- What an act of kind 0 or 7 leaves. -/
theorem doo_app {d : Dk.D} (h : d.Calm) (hF : d.Fine) (a : Ac) (hk : a.kind % 8 = 0 ∨ a.kind % 8 = 7) : (d.doo a).2.a.sure = d.a.sure ∧ (d.doo a).2.b.sure = d.b.sure ∧ (d.doo a).2.a.whole = d.a.whole ∧ (d.doo a).2.b.whole = d.b.whole ∧ (d.doo a).2.root = d.root := by
  unfold Dk.D.doo
  rw [if_neg (by omega), if_neg (by omega), if_neg (by omega), if_neg (by omega), if_neg (by omega), if_neg (by omega), Dk.append_calm h]
  split
  · exact ⟨rfl, rfl, rfl, rfl, rfl⟩
  · split
    · exact ⟨rfl, rfl, rfl, rfl, rfl⟩
    · have := keep_put (d := d) (f := a.file) (c := (d.at a.file).app a.l) (Dk.sure_app _ (hF.at _) _) rfl
      exact ⟨this.1, this.2.1, this.2.2.1, this.2.2.2, Dk.put_root _ _ _⟩
theorem doo_one {d : Dk.D} (h : d.Calm) (a : Ac) (hk : a.kind % 8 = 1) (hf : a.file = 0 ∨ a.file = 1) : d.doo a = (0, d.put a.file (d.at a.file).settle) := by
  unfold Dk.D.doo
  rw [if_pos hk, Dk.sync_calm h, if_neg (by omega)]
theorem doo_two {d : Dk.D} (h : d.Calm) (a : Ac) (hk : a.kind % 8 = 2) (hf : a.file = 0 ∨ a.file = 1) (he : (d.doo a).1 = 0) : d.doo a = (0, d.put a.file ((d.at a.file).trunc a.n.toNat)) ∧ 0 ≤ a.n ∧ a.n ≤ ((d.at a.file).now.length : Int) := by
  unfold Dk.D.doo at *
  rw [if_neg (by omega), if_pos hk, Dk.trunc_calm h, if_neg (by omega)] at *
  by_cases hn : a.n < 0 ∨ ((d.at a.file).now.length : Int) < a.n
  · rw [if_pos hn] at he
    cases he
  · rw [if_neg hn]
    exact ⟨rfl, by omega, by omega⟩
theorem doo_three {d : Dk.D} (h : d.Calm) (a : Ac) (hk : a.kind % 8 = 3) (hf : a.file = 0 ∨ a.file = 1) : d.doo a = (0, { d with root := a.file }) := by
  unfold Dk.D.doo
  rw [if_neg (by omega), if_neg (by omega), if_pos hk, Dk.switch_calm h, if_neg (by omega)]
theorem calm_err {d : Dk.D} (h : d.Calm) (a : Ac) (hp : Plain a) (he : (d.doo a).1 ≠ 0) : (d.doo a).2 = d := doo_refused he (by rw [(calm_doo h a hp).on, h.on])
theorem calm_file {d : Dk.D} (h : d.Calm) (a : Ac) (hp : Plain a) (hf : a.file < 0 ∨ 2 ≤ a.file) : d.doo a = (1, d) := by
  unfold Dk.D.doo
  have : a.kind % 8 ≠ 4 ∧ a.kind % 8 ≠ 5 ∧ a.kind % 8 ≠ 6 := by unfold Plain at hp; omega
  rw [Dk.sync_calm h, Dk.trunc_calm h, Dk.switch_calm h, Dk.append_calm h, if_pos hf, if_pos hf, if_pos hf, if_pos hf, if_neg this.1, if_neg this.2.1, if_neg this.2.2]
  split
  · rfl
  · split
    · rfl
    · split <;> rfl
end Go.Proofs.Ytcjbceidgaieaaa
