/- Disks within a law; the contract of alive. -/
import Derived.Test.YtnnlmnjbmbflpaaDkL
import Derived.Test.YtnnlmnjbmbflpaaDkR2
import Derived.Lib.SlBytesConst
set_option linter.unusedVariables false
set_option linter.unusedSimpArgs false
namespace Go.Proofs.Ytnnlmnjbmbflpaa
open Go.RowKit
/-- A disk of the law's own, that w0 began with. -/
structure Lt (w0 : World) (T : Nat → Prop) (b : Nat) (d : Dk.D) (W : World) : Prop where
  dsk : DskE W T b d
  base : ∀ k, T k → w0.heap.size ≤ k
  bel : Below w0.heap.size w0 W
theorem more_base {T : Nat → Prop} {B : Nat} {w w' : World} (h : ∀ k, T k → B ≤ k) (hB : B ≤ w.heap.size) : ∀ k, More T w w' k → B ≤ k := fun k hk => by
  rcases hk with hk | hk
  · exact h k hk
  · omega
theorem Lt.act {w0 W W' : World} {T : Nat → Prop} {b : Nat} {d : Dk.D} {r : Int × Dk.D} {e : Ending} (h : Lt w0 T b d W) (hp : ActPost W T b r e W') : Lt w0 (More T W W') b r.2 W' :=
  ⟨hp.2.1, more_base h.base h.bel.size, h.bel.trans (hp.2.2.below h.base h.bel.size)⟩
theorem Lt.below {w0 W W' : World} {T : Nat → Prop} {b : Nat} {d : Dk.D} (h : Lt w0 T b d W) (hB : Below W.heap.size W W') : Lt w0 T b d W' := ⟨h.dsk.below hB, h.base, h.bel.trans (hB.mono h.bel.size)⟩
theorem Lt.own {w0 W W' : World} {T : Nat → Prop} {b : Nat} {d d' : Dk.D} (h : Lt w0 T b d W) (hD : DskE W' T b d') (hO : Own T W W') : Lt w0 T b d' W' := ⟨hD, h.base, h.bel.trans (hO.below h.base h.bel.size)⟩
theorem Lt.new {w0 W W' : World} {room : Int} (hB : Below w0.heap.size w0 W) (hD : Dsk W' (fun k => k = W.heap.size) W.heap.size (Dk.new room) nilS nilS nilS nilS) (hB2 : Below W.heap.size W W') : Lt w0 (fun k => k = W.heap.size) W.heap.size (Dk.new room) W' :=
  ⟨⟨_, _, _, _, hD⟩, fun k hk => by rw [hk]; exact hB.size, hB.trans (hB2.mono hB.size)⟩
/-- What an act of a law's own disk leaves. -/
def LtPost (w0 : World) (T : Nat → Prop) (b : Nat) (W : World) (x : Int) (d : Dk.D) (e : Ending) (w' : World) : Prop := e = .returned (.int .i64 x) ∧ Lt w0 (More T W w') b d w' ∧ Own T W w'
theorem Lt.post {w0 W W' : World} {T : Nat → Prop} {b : Nat} {d : Dk.D} {r : Int × Dk.D} {e : Ending} (h : Lt w0 T b d W) (hp : ActPost W T b r e W') : LtPost w0 T b W r.1 r.2 e W' := ⟨hp.1, h.act hp, hp.2.2⟩
theorem Lt.append {w0 W : World} {T : Nat → Prop} {b : Nat} {d : Dk.D} (h : Lt w0 T b d W) (f : Int) (y : Value) (l : List UInt8) (hy : RB W y l) (hl : l.length ≤ maxLen) {x : Int} {d' : Dk.D} (e : d.append f l = (x, d')) : Calls Try.prog 44 #[ptr b 0, .int .i64 f, y] W (LtPost w0 T b W x d') := by
  obtain ⟨n0, g0, n1, g1, hD⟩ := h.dsk
  have := Append_yes hD f y l hy hl
  rw [e] at this
  exact this.mono (fun _ _ hp => h.post hp)
theorem Lt.sync {w0 W : World} {T : Nat → Prop} {b : Nat} {d : Dk.D} (h : Lt w0 T b d W) (f : Int) {x : Int} {d' : Dk.D} (e : d.sync f = (x, d')) : Calls Try.prog 45 #[ptr b 0, .int .i64 f] W (LtPost w0 T b W x d') := by
  obtain ⟨n0, g0, n1, g1, hD⟩ := h.dsk
  have := Sync_yes hD f
  rw [e] at this
  exact this.mono (fun _ _ hp => h.post hp)
theorem Lt.start {w0 W : World} {T : Nat → Prop} {b : Nat} {d : Dk.D} (h : Lt w0 T b d W) (k0 k1 : Int) (c0 c1 : Bool) (hk0 : -9223372036854775808 ≤ k0 ∧ k0 ≤ 9223372036854775807) (hk1 : -9223372036854775808 ≤ k1 ∧ k1 ≤ 9223372036854775807) {x : Int} {d' : Dk.D} (e : d.start k0 k1 c0 c1 = (x, d')) : Calls Try.prog 31 #[ptr b 0, lossV k0 k1 c0 c1] W (LtPost w0 T b W x d') := by
  obtain ⟨n0, g0, n1, g1, hD⟩ := h.dsk
  have := Start_yes hD k0 k1 c0 c1 hk0 hk1
  rw [e] at this
  exact this.mono (fun _ _ hp => h.post hp)
theorem Lt.does {w0 W : World} {T : Nat → Prop} {b : Nat} {d : Dk.D} (h : Lt w0 T b d W) (a : Ac) (hA : AcOK W a) {x : Int} {d' : Dk.D} (e : d.doo a = (x, d')) : Calls Try.prog 14 #[ptr b 0, aV a] W (LtPost w0 T b W x d') := by
  obtain ⟨n0, g0, n1, g1, hD⟩ := h.dsk
  have := does_any hD a hA
  rw [e] at this
  exact this.mono (fun _ _ hp => h.post hp)
theorem Lt.fail {w0 W : World} {T : Nat → Prop} {b : Nat} {d : Dk.D} (h : Lt w0 T b d W) : Calls Try.prog 30 #[ptr b 0] W fun e w' => e = .returned (.tuple #[]) ∧ Lt w0 T b d.fail w' ∧ Own T W w' := by
  obtain ⟨n0, g0, n1, g1, hD⟩ := h.dsk
  exact (Fail_yes hD).mono (fun _ _ hp => ⟨hp.1, h.own ⟨_, _, _, _, hp.2.1⟩ hp.2.2, hp.2.2⟩)
theorem Lt.read {w0 W : World} {T : Nat → Prop} {b : Nat} {d : Dk.D} (h : Lt w0 T b d W) (f : Int) {l : List UInt8} (hf : d.why f = 0) (hl : (d.at f).now = l) : Calls Try.prog 20 #[ptr b 0, .int .i64 f] W fun e w' => ∃ u, e = .returned (.tuple #[u, .int .i64 0]) ∧ OwnsBytes w' W.heap.size u l ∧ Below W.heap.size W w' := by
  subst hl
  obtain ⟨n0, g0, n1, g1, hD⟩ := h.dsk
  exact Read_yes hD f hf
theorem Lt.left {w0 W : World} {T : Nat → Prop} {b : Nat} {d : Dk.D} (h : Lt w0 T b d W) {x : Int} (e : d.left = x) : Calls Try.prog 17 #[ptr b 0] W fun e w' => e = .returned (.int .i64 x) ∧ Below W.heap.size W w' := by
  subst e
  obtain ⟨n0, g0, n1, g1, hD⟩ := h.dsk
  exact Left_yes hD
theorem Lt.isOn {w0 W : World} {T : Nat → Prop} {b : Nat} {d : Dk.D} (h : Lt w0 T b d W) : Calls Try.prog 16 #[ptr b 0] W fun e w' => e = .returned (.bool d.on) ∧ w' = W := by
  obtain ⟨n0, g0, n1, g1, hD⟩ := h.dsk
  exact On_yes hD
theorem Lt.root {w0 W : World} {T : Nat → Prop} {b : Nat} {d : Dk.D} (h : Lt w0 T b d W) : Calls Try.prog 19 #[ptr b 0] W fun e w' => e = .returned (.tuple #[.int .i64 (if d.on = true then d.root else 0), .int .i64 (if d.on = true then 0 else 12)]) ∧ w' = W := by
  obtain ⟨n0, g0, n1, g1, hD⟩ := h.dsk
  exact Root_yes hD
def al1 : Dk.D := ⟨true, 100, 0, ⟨[97, 98], 0, []⟩, ⟨[], 0, []⟩, -1, false⟩
def al2 : Dk.D := ⟨true, 100, 0, ⟨[97, 98], 2, []⟩, ⟨[], 0, []⟩, -1, false⟩
def al3 : Dk.D := ⟨true, 100, 0, ⟨[97, 98, 99, 100], 2, []⟩, ⟨[], 0, []⟩, -1, false⟩
def al4 : Dk.D := ⟨false, 100, 0, ⟨[97, 98, 99, 100], 2, []⟩, ⟨[], 0, []⟩, -1, false⟩
def al5 : Dk.D := ⟨true, 100, 0, ⟨[97, 98, 99], 3, []⟩, ⟨[], 0, []⟩, -1, false⟩
theorem al_1 : (Dk.new 100).append 0 [97, 98] = (0, al1) := by rfl
theorem al_2 : al1.sync 0 = (0, al2) := by rfl
theorem al_3 : al2.append 0 [99, 100] = (0, al3) := by rfl
theorem al_4 : al3.fail = al4 := by rfl
theorem al_5 : al4.start 1 0 false false = (0, al5) := by rfl
theorem al_6 : al5.why 0 = 0 := by rfl
theorem al_7 : al5.left = 97 := by rfl
theorem al_8 : (al5.at 0).now = [97, 98, 99] := by rfl
set_option maxHeartbeats 2000000 in
set_option maxRecDepth 100000 in
theorem alive9_any (w : World) :
    Calls Try.prog 12 #[] w fun e w' => e = .returned (.bool true) ∧ Below w.heap.size w w' := by
  have kc := fun (w : World) (C : Array Value) (n c : Nat) => Lib.run_convert_bytes_const (P := Try.prog) w 27 5 C n c Try.underlying27 Try.underlying5
  have hN := New_yes 100 (by decide) (by decide) w
  go_enter Try.func12, Try.ntmps12
  go_wp2_with (first
    | (go_at_call 9; refine hN.mono ?_; rintro e w1 ⟨rfl, hD1, hB1⟩; have L1 := (Lt.new (Below.refl _ w) hD1 hB1).below (alloc1 w1 (.cells #[.int .u8 97, .int .u8 98] 5 (2, 3))); have C1 := L1.append 0 _ [97, 98] (RB.new w1 [97, 98] #[.int .u8 97, .int .u8 98] rfl 5 (2, 3) 2 rfl) (by decide) al_1; unfold LtPost at C1; clear hN hD1 L1)
    | (go_at_call 44; refine C1.mono ?_; rintro e w2 ⟨rfl, L2, _⟩; have C2 := L2.sync 0 al_2; unfold LtPost at C2; clear L2 C1)
    | (go_at_call 45; refine C2.mono ?_; rintro e w3 ⟨rfl, L3, _⟩; have L4 := L3.below (alloc1 w3 (.cells #[.int .u8 99, .int .u8 100] 5 (2, 3))); have C3 := L4.append 0 _ [99, 100] (RB.new w3 [99, 100] #[.int .u8 99, .int .u8 100] rfl 5 (2, 3) 2 rfl) (by decide) al_3; unfold LtPost at C3; clear L3 L4 C2)
    | (go_at_call 44; refine C3.mono ?_; rintro e w4 ⟨rfl, L5, _⟩; have C4 := L5.fail; rw [al_4] at C4; clear L5 C3)
    | (go_at_call 30; refine C4.mono ?_; rintro e w5 ⟨rfl, L6, _⟩; have C5 := L6.start 1 0 false false ⟨by decide, by decide⟩ ⟨by decide, by decide⟩ al_5; unfold LtPost at C5; clear L6 C4)
    | (go_at_call 31; refine C5.mono ?_; rintro e w6 ⟨rfl, L7, _⟩; have C6 := L7.read 0 al_6 al_8; have L7' := hide9 L7; clear L7 C5)
    | (go_at_call 20; refine C6.mono ?_; rintro e w7 ⟨u, rfl, hu, hB7⟩; obtain ⟨ua, uc, rfl⟩ := hu.form; have hcv : (convert 27 9 (.slice ua 3 uc)).run Try.prog w7 = .ok (.string ⟨#[97, 98, 99]⟩) w7 := conv_RB hu.reads; have L8 := L7'.out.below hB7; have C7 := L8.left al_7; have HB8 := hide9 L8.bel; clear C6 L7' L8)
    | (go_at_call 17; refine C7.mono ?_; rintro e w8 ⟨rfl, hB9⟩))
  go_ret
  exact ⟨rfl, bel HB8.out hB9⟩
end Go.Proofs.Ytnnlmnjbmbflpaa
