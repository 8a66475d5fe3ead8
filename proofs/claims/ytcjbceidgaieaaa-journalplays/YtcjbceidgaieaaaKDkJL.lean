/- Texts laid as one. -/
import Derived.Test.YtcjbceidgaieaaaKDkI
import Derived.Test.YtcjbceidgaieaaaKDkIa
import Derived.Test.YtcjbceidgaieaaaKDkIb
import Derived.Test.YtcjbceidgaieaaaKDkIc
/- The contracts of Sync, Switch, Truncate and Append. -/
set_option linter.unusedVariables false
set_option linter.unusedSimpArgs false
namespace Go.Proofs.Ytcjbceidgaieaaa
open Go.RowKit
theorem hmf (fn : Fn) (first cap : Array Value) (w : World) : (Instr.makeFunc fn first cap).run Try.prog w = .ok (.func fn first cap) w := rfl
theorem put_same (d : Dk.D) (f : Int) (c : Dk.Cn) : (d.put f c).fuse = d.fuse ∧ (d.put f c).on = d.on ∧ (d.put f c).behind = d.behind := by unfold Dk.D.put; split <;> exact ⟨rfl, rfl, rfl⟩
theorem ActPost.ahead {w W w' : World} {T : Nat → Prop} {b : Nat} {r : Int × Dk.D} {e : Ending} (h : ActPost W T b r e w') (hB : Below w.heap.size w W) : ActPost w T b r e w' := ⟨h.1, h.2.1.step hB.size, (Own.of hB).trans h.2.2 (fun k hk => .inl hk)⟩
theorem box_at (w : World) (v : Value) (t : TypeId) : (w.alloc (.cells #[v] t)).cell? ⟨w.heap.size, 0, none⟩ = some v := by rw [Lib.cell_of_heap (heap_new w _)]; rfl
theorem box_at1 (w : World) (v u : Value) (t s : TypeId) : ((w.alloc (.cells #[v] t)).alloc (.cells #[u] s)).cell? ⟨w.heap.size + 1, 0, none⟩ = some u := by
  have := box_at (w.alloc (.cells #[v] t)) u s
  rw [size_alloc] at this
  exact this
theorem box_at0 (w : World) (v u : Value) (t s : TypeId) : ((w.alloc (.cells #[v] t)).alloc (.cells #[u] s)).cell? ⟨w.heap.size, 0, none⟩ = some v := by
  have hB : Below (w.alloc (.cells #[v] t)).heap.size (w.alloc (.cells #[v] t)) ((w.alloc (.cells #[v] t)).alloc (.cells #[u] s)) := (Below.refl _ _).alloc (Nat.le_refl _) _
  exact (hB.cell (p := ⟨w.heap.size, 0, none⟩) (by rw [size_alloc]; exact Nat.lt_succ_self _)).trans (box_at w v t)
theorem two_boxes (w : World) (o o' : Obj) : Below w.heap.size w ((w.alloc o).alloc o') := ((Below.refl _ w).alloc (Nat.le_refl _) _).alloc (by simp) _
set_option maxHeartbeats 2000000 in
set_option maxRecDepth 100000 in
theorem act_nil {w : World} {v : Value} (h : Made w v false) (f : Int) (x y : Value) :
    Calls Try.prog 79 #[v, .int .i64 f, x, y] w fun e w' => e = .returned (.int .i64 2) ∧ w' = w := by
  have hO := open_nil h f
  go_enter Try.func79, Try.ntmps79
  go_wp2_with (go_at_call 55; refine hO.mono ?_; rintro e w2 ⟨rfl, he⟩; replace he := he.symm; subst he)
  go_ret
  exact ⟨rfl, rfl⟩
set_option maxHeartbeats 2000000 in
set_option maxRecDepth 100000 in
theorem Sync_no {w : World} {v : Value} (h : Made w v false) (f : Int) :
    Calls Try.prog 67 #[v, .int .i64 f] w fun e w' => e = .returned (.int .i64 2) ∧ Below w.heap.size w w' := by
  have H := act_nil h f
  go_enter Try.func67, Try.ntmps67
  go_wp2_with (go_at_call 79; refine (H _ _).mono ?_; rintro e w2 ⟨rfl, he⟩; replace he := he.symm; subst he)
  go_ret
  exact ⟨rfl, Below.refl _ _⟩
set_option maxHeartbeats 2000000 in
set_option maxRecDepth 100000 in
theorem Sync_yes {w : World} {T : Nat → Prop} {b : Nat} {d : Dk.D} {n0 g0 n1 g1 : Value} (h : Dsk w T b d n0 g0 n1 g1) (f : Int) :
    Calls Try.prog 67 #[ptr b 0, .int .i64 f] w (ActPost w T b (d.sync f)) := by
  have H : Calls _ _ _ _ _ := act_sync h f 0 (fun x => x.put f (x.at f).settle) (fun _ => sync_asks _ w) (fun hw _ W hB => sync_does (h.below hB) f (Dk.D.why_file hw).1) (put_same _ _ _)
  have HD : Hid (d.sync f = d.act f 0 (fun x => x.put f (x.at f).settle)) := rfl
  clear h
  generalize d.act f 0 (fun x => x.put f (x.at f).settle) = r at *
  rw [HD.out]
  unfold ActPost at *
  go_enter Try.func67, Try.ntmps67
  go_wp2_with (go_at_call 79; refine H.mono ?_; rintro e w2 ⟨rfl, hp⟩)
  go_ret
  exact ⟨rfl, hp⟩
set_option maxHeartbeats 2000000 in
set_option maxRecDepth 100000 in
theorem Switch_no {w : World} {v : Value} (h : Made w v false) (f : Int) :
    Calls Try.prog 64 #[v, .int .i64 f] w fun e w' => e = .returned (.int .i64 2) ∧ Below w.heap.size w w' := by
  have hm := hmf
  have hB := two_boxes w (.cells #[v] 23) (.cells #[.int .i64 f] 3)
  have c0 := box_at0 w v (.int .i64 f) 23 3
  have c1 := box_at1 w v (.int .i64 f) 23 3
  have H := act_nil (h.below hB) f
  have HB : Hid (Below w.heap.size w ((w.alloc (.cells #[v] 23)).alloc (.cells #[.int .i64 f] 3))) := hB
  have hv : ∃ p, v = .pointer p := by
    rcases h with ⟨rfl, _⟩ | ⟨b, rfl, _⟩
    · exact ⟨_, rfl⟩
    · exact ⟨_, rfl⟩
  obtain ⟨p, rfl⟩ := hv
  clear h hB
  go_enter Try.func64, Try.ntmps64
  go_wp2_with (go_at_call 79; refine (H _ _).mono ?_; rintro e w2 ⟨rfl, he⟩; subst he)
  go_ret
  exact ⟨rfl, HB.out⟩
set_option maxHeartbeats 2000000 in
set_option maxRecDepth 100000 in
theorem Switch_yes {w : World} {T : Nat → Prop} {b : Nat} {d : Dk.D} {n0 g0 n1 g1 : Value} (h : Dsk w T b d n0 g0 n1 g1) (f : Int) :
    Calls Try.prog 64 #[ptr b 0, .int .i64 f] w (ActPost w T b (d.switch f)) := by
  have hm := hmf
  have hB := two_boxes w (.cells #[ptr b 0] 23) (.cells #[.int .i64 f] 3)
  have c0 := box_at0 w (ptr b 0) (.int .i64 f) 23 3
  have c1 := box_at1 w (ptr b 0) (.int .i64 f) 23 3
  generalize hW : (w.alloc (.cells #[ptr b 0] 23)).alloc (.cells #[.int .i64 f] 3) = W at *
  have H := act_switch (h.below hB) f 0 (fun x => { x with root := f }) (w.heap.size + 1) w.heap.size (fun _ => switch_asks _ W) (fun hw _ W' hB' => switch_does ((h.below hB).below hB') f (Dk.D.why_file hw).1 _ (w.heap.size + 1) w.heap.size ((hB'.cell (p := ⟨w.heap.size + 1, 0, none⟩) (cell_lt c1)).trans c1) ((hB'.cell (p := ⟨w.heap.size, 0, none⟩) (cell_lt c0)).trans c0)) ⟨rfl, rfl, rfl⟩
  have HD : Hid (d.switch f = d.act f 0 (fun x => { x with root := f })) := rfl
  have HB : Hid (Below w.heap.size w W) := hB
  clear h hB
  generalize d.act f 0 (fun x => { x with root := f }) = r at *
  rw [HD.out]
  subst hW
  go_enter Try.func64, Try.ntmps64
  go_wp2_with (go_at_call 79; refine H.mono ?_; rintro e w2 hp; have hp2 := hp.ahead HB.out; unfold ActPost at hp; obtain ⟨rfl, _⟩ := hp)
  go_ret
  exact hp2
set_option maxHeartbeats 2000000 in
set_option maxRecDepth 100000 in
theorem Truncate_no {w : World} {v : Value} (h : Made w v false) (f n : Int) :
    Calls Try.prog 68 #[v, .int .i64 f, .int .i64 n] w fun e w' => e = .returned (.int .i64 2) ∧ Below w.heap.size w w' := by
  have hm := hmf
  have hB : Below w.heap.size w (w.alloc (.cells #[.int .i64 n] 3)) := (Below.refl _ w).alloc (Nat.le_refl _) _
  have H := act_nil (h.below hB) f
  have HB : Hid (Below w.heap.size w (w.alloc (.cells #[.int .i64 n] 3))) := hB
  clear h hB
  go_enter Try.func68, Try.ntmps68
  go_wp2_with (go_at_call 79; refine (H _ _).mono ?_; rintro e w2 ⟨rfl, he⟩; subst he)
  go_ret
  exact ⟨rfl, HB.out⟩
set_option maxHeartbeats 2000000 in
set_option maxRecDepth 100000 in
theorem Truncate_yes {w : World} {T : Nat → Prop} {b : Nat} {d : Dk.D} {n0 g0 n1 g1 : Value} (h : Dsk w T b d n0 g0 n1 g1) (f n : Int) :
    Calls Try.prog 68 #[ptr b 0, .int .i64 f, .int .i64 n] w (ActPost w T b (d.trunc f n)) := by
  have hm := hmf
  have hB : Below w.heap.size w (w.alloc (.cells #[.int .i64 n] 3)) := (Below.refl _ w).alloc (Nat.le_refl _) _
  have c0 := box_at w (.int .i64 n) 3
  generalize hW : w.alloc (.cells #[.int .i64 n] 3) = W at *
  have H := act_trunc (h.below hB) f (if n < 0 ∨ ((d.at f).now.length : Int) < n then 1 else 0) (fun x => x.put f ((x.at f).trunc n.toNat)) w.heap.size (fun hw => trunc_asks (h.below hB) f (Dk.D.why_file hw).1 n w.heap.size c0) (fun hw hq W' hB' => by
    have hx : ¬ (n < 0 ∨ ((d.at f).now.length : Int) < n) := fun hx => by rw [if_pos hx] at hq; cases hq
    exact trunc_does ((h.below hB).below hB') f (Dk.D.why_file hw).1 n (by omega) (by omega) w.heap.size ((hB'.cell (p := ⟨w.heap.size, 0, none⟩) (cell_lt c0)).trans c0)) (put_same _ _ _)
  have HD : Hid (d.trunc f n = d.act f (if n < 0 ∨ ((d.at f).now.length : Int) < n then 1 else 0) (fun x => x.put f ((x.at f).trunc n.toNat))) := rfl
  have HB : Hid (Below w.heap.size w W) := hB
  clear h hB
  generalize d.act f (if n < 0 ∨ ((d.at f).now.length : Int) < n then 1 else 0) (fun x => x.put f ((x.at f).trunc n.toNat)) = r at *
  rw [HD.out]
  subst hW
  go_enter Try.func68, Try.ntmps68
  go_wp2_with (go_at_call 79; refine H.mono ?_; rintro e w2 hp; have hp2 := hp.ahead HB.out; unfold ActPost at hp; obtain ⟨rfl, _⟩ := hp)
  go_ret
  exact hp2
set_option maxHeartbeats 2000000 in
set_option maxRecDepth 100000 in
theorem Append_no {w : World} {v : Value} (h : Made w v false) (f : Int) (a : Option Addr) (n c : Nat) :
    Calls Try.prog 66 #[v, .int .i64 f, .slice a n c] w fun e w' => e = .returned (.int .i64 2) ∧ Below w.heap.size w w' := by
  have hm := hmf
  have hB := two_boxes w (.cells #[v] 23) (.cells #[.slice a n c] 27)
  have c0 := box_at0 w v (.slice a n c) 23 27
  have H := act_nil (h.below hB) f
  have HB : Hid (Below w.heap.size w ((w.alloc (.cells #[v] 23)).alloc (.cells #[.slice a n c] 27))) := hB
  have hv : ∃ p, v = .pointer p := by
    rcases h with ⟨rfl, _⟩ | ⟨b, rfl, _⟩
    · exact ⟨_, rfl⟩
    · exact ⟨_, rfl⟩
  obtain ⟨p, rfl⟩ := hv
  clear h hB
  go_enter Try.func66, Try.ntmps66
  go_wp2_with (go_at_call 79; refine (H _ _).mono ?_; rintro e w2 ⟨rfl, he⟩; subst he)
  go_ret
  exact ⟨rfl, HB.out⟩
set_option maxHeartbeats 2000000 in
set_option maxRecDepth 100000 in
theorem Append_yes {w : World} {T : Nat → Prop} {b : Nat} {d : Dk.D} {n0 g0 n1 g1 : Value} (h : Dsk w T b d n0 g0 n1 g1) (f : Int) (y : Value) (l : List UInt8) (hy : RB w y l) (hl : l.length ≤ maxLen) :
    Calls Try.prog 66 #[ptr b 0, .int .i64 f, y] w (ActPost w T b (d.append f l)) := by
  have hm := hmf
  obtain ⟨ya, yc, rfl⟩ := hy.form
  have hB := two_boxes w (.cells #[ptr b 0] 23) (.cells #[.slice ya l.length yc] 27)
  have c0 := box_at0 w (ptr b 0) (.slice ya l.length yc) 23 27
  have c1 := box_at1 w (ptr b 0) (.slice ya l.length yc) 23 27
  generalize hW : (w.alloc (.cells #[ptr b 0] 23)).alloc (.cells #[.slice ya l.length yc] 27) = W at *
  have H := act_append (h.below hB) f (if d.left < l.length then 11 else 0) (fun x => x.put f ((x.at f).app l)) (w.heap.size + 1) w.heap.size (fun _ => append_asks (h.below hB) _ _ l (hy.below hB) (by unfold maxLen at hl; omega) (w.heap.size + 1) w.heap.size c1 c0) (fun hw hq W' hB' => by
    have hx : ¬ (d.left < l.length) := fun hx => by rw [if_pos hx] at hq; cases hq
    have h4 := h.fine.room
    have h5 : ((d.at f).now.length : Int) ≤ d.room - d.left := by unfold Dk.D.left Dk.D.at; split <;> omega
    exact append_does ((h.below hB).below hB') f (Dk.D.why_file hw).1 _ l ((hy.below hB).below hB') (by omega) (w.heap.size + 1) ((hB'.cell (p := ⟨w.heap.size + 1, 0, none⟩) (cell_lt c1)).trans c1)) (put_same _ _ _)
  have HD : Hid (d.append f l = d.act f (if d.left < l.length then 11 else 0) (fun x => x.put f ((x.at f).app l))) := rfl
  have HB : Hid (Below w.heap.size w W) := hB
  clear h hB hy
  generalize d.act f (if d.left < l.length then 11 else 0) (fun x => x.put f ((x.at f).app l)) = r at *
  rw [HD.out]
  subst hW
  go_enter Try.func66, Try.ntmps66
  go_wp2_with (go_at_call 79; refine H.mono ?_; rintro e w2 hp; have hp2 := hp.ahead HB.out; unfold ActPost at hp; obtain ⟨rfl, _⟩ := hp)
  go_ret
  exact hp2
end Go.Proofs.Ytcjbceidgaieaaa
/- The contract of Start. -/
set_option linter.unusedVariables false
set_option linter.unusedSimpArgs false
namespace Go.Proofs.Ytcjbceidgaieaaa
open Go.RowKit
theorem lose_any {w : World} {b o : Nat} {X : Array Value} {c : Dk.Cn} {nv gv : Value} (h : Ct w b o X c nv gv) (hf : c.Fine) (k : Int) (hk : -9223372036854775808 ≤ k ∧ k ≤ 9223372036854775807) (cut : Bool) :
    Calls Try.prog 53 #[ptr b o, .int .i64 k, .bool cut] w fun e w' => e = .returned (.tuple #[]) ∧ CtPost w b o X nv gv (c.lose k cut) w' := by
  by_cases hg : c.gone = []
  · exact lose_stay h hf k hk cut (.inl hg)
  · cases cut with
    | true => exact lose_stay h hf k hk true (.inr rfl)
    | false => exact lose_back h hf k hg
abbrev lossV (k0 k1 : Int) (c0 c1 : Bool) : Value := .agg #[.int .i64 k0, .int .i64 k1, .bool c0, .bool c1]
abbrev lossX (k0 k1 : Int) (c0 c1 : Bool) : Array Value := #[.int .i64 k0, .int .i64 k1, .bool c0, .bool c1]
theorem more_more {T : Nat → Prop} {w w1 w2 : World} {b : Nat} {d : Dk.D} (h : DskE w2 (More (More T w w1) w1 w2) b d) (h1 : w.heap.size ≤ w1.heap.size) (h2 : w1.heap.size ≤ w2.heap.size) : DskE w2 (More T w w2) b d := h.mono (fun k hk => by
  rcases hk with (hk | hk) | hk
  · exact .inl hk
  · exact .inr ⟨hk.1, by omega⟩
  · exact .inr ⟨by omega, hk.2⟩) (fun k hk => by
  rcases hk with hk | hk
  · exact h.low k (.inl (.inl hk))
  · exact hk.2)
theorem own_more {T : Nat → Prop} {w w1 w2 : World} (h : Own T w w1) (h2 : Own (More T w w1) w1 w2) : Own T w w2 := h.trans h2 (fun k hk => by
  rcases hk with hk | hk
  · exact .inl hk
  · exact .inr hk.1)
set_option maxHeartbeats 2000000 in
set_option maxRecDepth 100000 in
theorem Start_no {w : World} {v : Value} (h : Made w v false) (k0 k1 : Int) (c0 c1 : Bool) :
    Calls Try.prog 22 #[v, lossV k0 k1 c0 c1] w fun e w' => e = .returned (.int .i64 2) ∧ Below w.heap.size w w' := by
  have hB : Below w.heap.size w (w.alloc (.cells (lossX k0 k1 c0 c1) 58)) := (Below.refl _ w).alloc (Nat.le_refl _) _
  have H := isMade_any (h.below hB)
  have HB : Hid (Below w.heap.size w (w.alloc (.cells (lossX k0 k1 c0 c1) 58))) := hB
  clear h hB
  go_enter Try.func22, Try.ntmps22
  go_wp2_with (go_at_call 51; refine H.mono ?_; rintro e w2 ⟨rfl, he⟩; subst he)
  go_ret
  exact ⟨rfl, HB.out⟩
set_option maxHeartbeats 4000000 in
set_option maxRecDepth 100000 in
theorem Start_yes {w : World} {T : Nat → Prop} {b : Nat} {d : Dk.D} {n0 g0 n1 g1 : Value} (h : Dsk w T b d n0 g0 n1 g1) (k0 k1 : Int) (c0 c1 : Bool) (hk0 : -9223372036854775808 ≤ k0 ∧ k0 ≤ 9223372036854775807) (hk1 : -9223372036854775808 ≤ k1 ∧ k1 ≤ 9223372036854775807) :
    Calls Try.prog 22 #[ptr b 0, lossV k0 k1 c0 c1] w (ActPost w T b (d.start k0 k1 c0 c1)) := by
  have hB : Below w.heap.size w (w.alloc (.cells (lossX k0 k1 c0 c1) 58)) := (Below.refl _ w).alloc (Nat.le_refl _) _
  have hL := heap_new w (.cells (lossX k0 k1 c0 c1) 58)
  have h1 := h.below hB
  have H := isMade_any h1.made
  have hon : (w.alloc (.cells (lossX k0 k1 c0 c1) 58)).cell? ⟨b, 1, none⟩ = some (.bool d.on) := h1.dat.cell 1
  have hT : ¬ T w.heap.size := fun hx => absurd (h.low _ hx) (Nat.lt_irrefl _)
  have hs1 : (w.alloc (.cells (lossX k0 k1 c0 c1) 58)).heap.size = w.heap.size + 1 := size_alloc _ _
  have HS1 : Hid ((w.alloc (.cells (lossX k0 k1 c0 c1) 58)).heap.size = w.heap.size + 1) := hs1
  clear hs1
  cases hd : d.on with
  | true =>
    rw [hd] at hon
    have HP : Hid (ActPost w T b (d.start k0 k1 c0 c1) (.returned (.int .i64 13)) (w.alloc (.cells (lossX k0 k1 c0 c1) 58))) := by
      show ActPost _ _ _ _ _ _
      unfold Dk.D.start
      rw [if_pos hd]
      exact ⟨rfl, DskE.more (w := w) ⟨_, _, _, _, h1⟩ w, Own.of hB⟩
    clear h h1 hB hL hd
    go_enter Try.func22, Try.ntmps22
    go_wp2_with (go_at_call 51; refine H.mono ?_; rintro e w2 ⟨rfl, he⟩; subst he)
    go_ret
    exact HP.out
  | false =>
    rw [hd] at hon
    have HD : Hid (d.start k0 k1 c0 c1 = (0, { d with a := d.a.lose k0 c0, b := d.b.lose k1 c1, on := true, fuse := -1 })) := by
      show d.start k0 k1 c0 c1 = _
      unfold Dk.D.start
      rw [if_neg (by rw [hd]; decide)]
    have HB : Hid (Below w.heap.size w (w.alloc (.cells (lossX k0 k1 c0 c1) 58))) := hB
    have HH : Hid (Dsk (w.alloc (.cells (lossX k0 k1 c0 c1) 58)) T b d n0 g0 n1 g1) := h1
    have HT : Hid (¬ T w.heap.size) := hT
    have HL : Hid ((w.alloc (.cells (lossX k0 k1 c0 c1) 58)).heap[w.heap.size]? = some (.cells (lossX k0 k1 c0 c1) 58 (0, 0))) := hL
    clear h h1 hB hT hL hd
    go_enter Try.func22, Try.ntmps22
    go_wp2_with (go_at_call 51; refine H.mono ?_; rintro e w2 ⟨rfl, he⟩; subst he)
    generalize hW : w.alloc (.cells (lossX k0 k1 c0 c1) 58) = W at *
    clear hon H
    go_loopw [13] (fun i wr => ((i = .int .i64 0 ∧ DskE wr (More T W wr) b d) ∨ (i = .int .i64 1 ∧ DskE wr (More T W wr) b { d with a := d.a.lose k0 c0 }) ∨ (i = .int .i64 2 ∧ DskE wr (More T W wr) b { d with a := d.a.lose k0 c0, b := d.b.lose k1 c1 })) ∧ Own T W wr ∧ wr.heap[w.heap.size]? = some (.cells (lossX k0 k1 c0 c1) 58 (0, 0))) (fun i _ => 2 - (intOf i).toNat)
    case atStart => exact ⟨.inl ⟨rfl, DskE.more (w := W) ⟨_, _, _, _, HH.out⟩ W⟩, Own.refl _ _, HL.out⟩
    case round =>
      obtain ⟨h1, hO, hl⟩ := hrel
      have l0 : wr.cell? ⟨w.heap.size, 0, none⟩ = some (.int .i64 k0) := Lib.cell_of_heap hl 0
      have l1 : wr.cell? ⟨w.heap.size, 1, none⟩ = some (.int .i64 k1) := Lib.cell_of_heap hl 1
      have l2 : wr.cell? ⟨w.heap.size, 2, none⟩ = some (.bool c0) := Lib.cell_of_heap hl 2
      have l3 : wr.cell? ⟨w.heap.size, 3, none⟩ = some (.bool c1) := Lib.cell_of_heap hl 3
      have HLL : Hid (wr.heap[w.heap.size]? = some (.cells (lossX k0 k1 c0 c1) 58 (0, 0))) := hl
      clear hl
      rcases h1 with ⟨rfl, hE⟩ | ⟨rfl, hE⟩ | ⟨rfl, hE⟩
      · obtain ⟨m0, q0, m1, q1, hD⟩ := hE
        have hD2 := hD.below ((Below.refl _ wr).drew)
        have HC := lose_any hD2.ct0 hD2.fine.a k0 hk0 c0
        have HF : Hid (∀ w', CtPost wr.drew b 4 (xD d m0 q0 m1 q1) m0 q0 (d.a.lose k0 c0) w' → DskE w' (More (More T W wr) wr.drew w') b { d with a := d.a.lose k0 c0 } ∧ Own (More T W wr) wr.drew w') := fun w' hp => hD2.lift0 hp (hD2.fine.a.lose k0 c0)
        clear hD hD2
        go_wp2
        go_region_with (go_at_call 53; refine HC.mono ?_; rintro e w2 ⟨rfl, hp⟩)
        all_goals (
          obtain ⟨hE2, hO2⟩ := HF.out w2 hp
          have hsz : wr.heap.size ≤ w2.heap.size := hO2.size
          have hE3 := more_more (w := W) hE2 hO.size hsz
          have hO3 := own_more hO (w2 := w2) ⟨hO2.os, hO2.tape, hO2.output, hO2.size, hO2.block⟩
          have hl2 : w2.heap[w.heap.size]? = some (.cells (lossX k0 k1 c0 c1) 58 (0, 0)) := (hO2.block w.heap.size (Array.getElem?_eq_some_iff.1 HLL.out).1 (fun hx => by
            rcases hx with hx | hx
            · exact HT.out hx
            · have := HS1.out
              omega)).trans HLL.out
          clear hp hE2 hO2 HF HC
          go_wp2
          exact ⟨⟨.inr (.inl ⟨rfl, hE3⟩), hO3, hl2⟩, by simp [intOf]⟩)
      · obtain ⟨m0, q0, m1, q1, hD⟩ := hE
        have hD2 := hD.below ((Below.refl _ wr).drew)
        have HC : Calls _ _ _ _ _ := lose_any hD2.ct1 hD2.fine.b k1 hk1 c1
        have HF : Hid (∀ w', CtPost wr.drew b 7 (xD { d with a := d.a.lose k0 c0 } m0 q0 m1 q1) m1 q1 (d.b.lose k1 c1) w' → DskE w' (More (More T W wr) wr.drew w') b { d with a := d.a.lose k0 c0, b := d.b.lose k1 c1 } ∧ Own (More T W wr) wr.drew w') := fun w' hp => hD2.lift1 hp (hD2.fine.b.lose k1 c1)
        clear hD hD2
        go_wp2
        go_region_with (go_at_call 53; refine HC.mono ?_; rintro e w2 ⟨rfl, hp⟩)
        all_goals (
          obtain ⟨hE2, hO2⟩ := HF.out w2 hp
          have hsz : wr.heap.size ≤ w2.heap.size := hO2.size
          have hE3 := more_more (w := W) hE2 hO.size hsz
          have hO3 := own_more hO (w2 := w2) ⟨hO2.os, hO2.tape, hO2.output, hO2.size, hO2.block⟩
          have hl2 : w2.heap[w.heap.size]? = some (.cells (lossX k0 k1 c0 c1) 58 (0, 0)) := (hO2.block w.heap.size (Array.getElem?_eq_some_iff.1 HLL.out).1 (fun hx => by
            rcases hx with hx | hx
            · exact HT.out hx
            · have := HS1.out
              omega)).trans HLL.out
          clear hp hE2 hO2 HF HC
          go_wp2
          exact ⟨⟨.inr (.inr ⟨rfl, hE3⟩), hO3, hl2⟩, by simp [intOf]⟩)
      · obtain ⟨m0, q0, m1, q1, hD⟩ := hE
        have s1 : wr.cell? ⟨b, 1, none⟩ = some (.bool d.on) := hD.dat.cell 1
        have s2 : wr.cell? ⟨b, 10, none⟩ = some (.int .i64 d.fuse) := hD.dat.cell 10
        have f1 := hD.dat.free 1
        have f2 := hD.dat.free 10
        have e1 := post_set (i := 1) (v := .bool true) (d' := { d with a := d.a.lose k0 c0, b := d.b.lose k1 c1, on := true }) hO.size ⟨_, _, _, _, hD⟩ hO (fun _ _ _ _ => rfl) rfl rfl (fun hf => ⟨hf.a, hf.b, hf.room, hf.least, hf.root, hf.fuse⟩)
        have e2 := post_set (i := 10) (v := .int .i64 (-1)) (d' := { d with a := d.a.lose k0 c0, b := d.b.lose k1 c1, on := true, fuse := -1 }) e1.2.size e1.1 e1.2 (fun _ _ _ _ => rfl) rfl rfl (fun hf => ⟨hf.a, hf.b, hf.room, hf.least, hf.root, ⟨by simp, by simp⟩⟩)
        have HE : Hid (DskE ((wr.setCell ⟨b, 1, none⟩ (.bool true)).setCell ⟨b, 10, none⟩ (.int .i64 (-1))) (More T W ((wr.setCell ⟨b, 1, none⟩ (.bool true)).setCell ⟨b, 10, none⟩ (.int .i64 (-1)))) b { d with a := d.a.lose k0 c0, b := d.b.lose k1 c1, on := true, fuse := -1 } ∧ Own T W ((wr.setCell ⟨b, 1, none⟩ (.bool true)).setCell ⟨b, 10, none⟩ (.int .i64 (-1)))) := e2
        clear e1 e2 hD
        go_wp2
        go_ret
        rw [HD.out]
        exact ActPost.ahead ⟨rfl, HE.out⟩ HB.out
end Go.Proofs.Ytcjbceidgaieaaa
/- Acts of a script, and the contract of does. -/
set_option linter.unusedVariables false
set_option linter.unusedSimpArgs false
namespace Go.Proofs.Ytcjbceidgaieaaa
open Go.RowKit
/-- An act of a script. -/
structure Ac where
  kind : Nat
  file : Int
  n : Int
  behind : Bool
  v : Value
  l : List UInt8
  k0 : Int
  k1 : Int
  c0 : Bool
  c1 : Bool
abbrev aX (a : Ac) : Array Value := #[.int .u8 (a.kind : Int), .int .i64 a.file, .int .i64 a.n, .bool a.behind, a.v, .int .i64 a.k0, .int .i64 a.k1, .bool a.c0, .bool a.c1]
abbrev aV (a : Ac) : Value := .agg (aX a)
structure AcOK (w : World) (a : Ac) : Prop where
  kind : a.kind ≤ 255
  file : -9223372036854775808 ≤ a.file ∧ a.file ≤ 9223372036854775807
  n : -9223372036854775808 ≤ a.n ∧ a.n ≤ 9223372036854775807
  k0 : -9223372036854775808 ≤ a.k0 ∧ a.k0 ≤ 9223372036854775807
  k1 : -9223372036854775808 ≤ a.k1 ∧ a.k1 ≤ 9223372036854775807
  rb : RB w a.v a.l
  len : a.l.length ≤ maxLen
theorem AcOK.below {w w' : World} {a : Ac} (h : AcOK w a) (hB : Below w.heap.size w w') : AcOK w' a := ⟨h.kind, h.file, h.n, h.k0, h.k1, h.rb.below hB, h.len⟩
/-- What an act of a script does. -/
def Dk.D.doo (d : Dk.D) (a : Ac) : Int × Dk.D :=
  if a.kind % 8 = 1 then d.sync a.file else if a.kind % 8 = 2 then d.trunc a.file a.n else if a.kind % 8 = 3 then d.switch a.file else if a.kind % 8 = 4 then (0, d.arm a.n a.behind) else
  if a.kind % 8 = 5 then (0, d.fail) else if a.kind % 8 = 6 then d.start a.k0 a.k1 a.c0 a.c1 else d.append a.file a.l
theorem rem8 (k : Nat) (h : k ≤ 255) : (k : Int).tmod 8 = ((k % 8 : Nat) : Int) := by
  rw [Int.tmod_eq_emod_of_nonneg (by omega)]
  omega
-- BY PROGRAM
set_option maxHeartbeats 2000000 in
set_option maxRecDepth 100000 in
theorem does0 {w : World} {T : Nat → Prop} {b : Nat} {d : Dk.D} {n0 g0 n1 g1 : Value} (h : Dsk w T b d n0 g0 n1 g1) (a : Ac) (hA : AcOK w a) (hk : a.kind % 8 = 0) :
    Calls Try.prog 41 #[ptr b 0, aV a] w (ActPost w T b (d.doo a)) := by
  have hm : (a.kind : Int).tmod 8 = 0 := by rw [rem8 _ hA.kind, hk]; rfl
  have hB : Below w.heap.size w (w.alloc (.cells (aX a) 85)) := (Below.refl _ w).alloc (Nat.le_refl _) _
  obtain ⟨va, vc, hv⟩ := hA.rb.form
  have hC := Append_yes (h.below hB) a.file a.v a.l (hA.rb.below hB) hA.len
  have HB : Hid (Below w.heap.size w (w.alloc (.cells (aX a) 85))) := hB
  have HD : Hid (d.doo a = d.append a.file a.l) := by show d.doo a = _; unfold Dk.D.doo; simp only [hk]; simp
  obtain ⟨kind, file, n, behind, v, l, k0, k1, c0, c1⟩ := a
  simp only at hv hm hC HD HB hk
  subst hv
  rw [HD.out]
  clear h hA hB hk
  generalize d.append file l = r at *
  go_enter Try.func41, Try.ntmps41
  go_wp2_with (go_at_call 66; refine hC.mono ?_; rintro e w2 hp; have hp2 := hp.ahead HB.out; unfold ActPost at hp; obtain ⟨rfl, _⟩ := hp)
  go_ret
  exact hp2
set_option maxHeartbeats 2000000 in
set_option maxRecDepth 100000 in
theorem does1 {w : World} {T : Nat → Prop} {b : Nat} {d : Dk.D} {n0 g0 n1 g1 : Value} (h : Dsk w T b d n0 g0 n1 g1) (a : Ac) (hA : AcOK w a) (hk : a.kind % 8 = 1) :
    Calls Try.prog 41 #[ptr b 0, aV a] w (ActPost w T b (d.doo a)) := by
  have hm : (a.kind : Int).tmod 8 = 1 := by rw [rem8 _ hA.kind, hk]; rfl
  have hB : Below w.heap.size w (w.alloc (.cells (aX a) 85)) := (Below.refl _ w).alloc (Nat.le_refl _) _
  obtain ⟨va, vc, hv⟩ := hA.rb.form
  have hC := Sync_yes (h.below hB) a.file
  have HB : Hid (Below w.heap.size w (w.alloc (.cells (aX a) 85))) := hB
  have HD : Hid (d.doo a = d.sync a.file) := by show d.doo a = _; unfold Dk.D.doo; simp only [hk]; simp
  obtain ⟨kind, file, n, behind, v, l, k0, k1, c0, c1⟩ := a
  simp only at hv hm hC HD HB hk
  subst hv
  rw [HD.out]
  clear h hA hB hk
  generalize d.sync file = r at *
  go_enter Try.func41, Try.ntmps41
  go_wp2_with (go_at_call 67; refine hC.mono ?_; rintro e w2 hp; have hp2 := hp.ahead HB.out; unfold ActPost at hp; obtain ⟨rfl, _⟩ := hp)
  go_ret
  exact hp2
set_option maxHeartbeats 2000000 in
set_option maxRecDepth 100000 in
theorem does2 {w : World} {T : Nat → Prop} {b : Nat} {d : Dk.D} {n0 g0 n1 g1 : Value} (h : Dsk w T b d n0 g0 n1 g1) (a : Ac) (hA : AcOK w a) (hk : a.kind % 8 = 2) :
    Calls Try.prog 41 #[ptr b 0, aV a] w (ActPost w T b (d.doo a)) := by
  have hm : (a.kind : Int).tmod 8 = 2 := by rw [rem8 _ hA.kind, hk]; rfl
  have hB : Below w.heap.size w (w.alloc (.cells (aX a) 85)) := (Below.refl _ w).alloc (Nat.le_refl _) _
  obtain ⟨va, vc, hv⟩ := hA.rb.form
  have hC := Truncate_yes (h.below hB) a.file a.n
  have HB : Hid (Below w.heap.size w (w.alloc (.cells (aX a) 85))) := hB
  have HD : Hid (d.doo a = d.trunc a.file a.n) := by show d.doo a = _; unfold Dk.D.doo; simp only [hk]; simp
  obtain ⟨kind, file, n, behind, v, l, k0, k1, c0, c1⟩ := a
  simp only at hv hm hC HD HB hk
  subst hv
  rw [HD.out]
  clear h hA hB hk
  generalize d.trunc file n = r at *
  go_enter Try.func41, Try.ntmps41
  go_wp2_with (go_at_call 68; refine hC.mono ?_; rintro e w2 hp; have hp2 := hp.ahead HB.out; unfold ActPost at hp; obtain ⟨rfl, _⟩ := hp)
  go_ret
  exact hp2
set_option maxHeartbeats 2000000 in
set_option maxRecDepth 100000 in
theorem does3 {w : World} {T : Nat → Prop} {b : Nat} {d : Dk.D} {n0 g0 n1 g1 : Value} (h : Dsk w T b d n0 g0 n1 g1) (a : Ac) (hA : AcOK w a) (hk : a.kind % 8 = 3) :
    Calls Try.prog 41 #[ptr b 0, aV a] w (ActPost w T b (d.doo a)) := by
  have hm : (a.kind : Int).tmod 8 = 3 := by rw [rem8 _ hA.kind, hk]; rfl
  have hB : Below w.heap.size w (w.alloc (.cells (aX a) 85)) := (Below.refl _ w).alloc (Nat.le_refl _) _
  obtain ⟨va, vc, hv⟩ := hA.rb.form
  have hC := Switch_yes (h.below hB) a.file
  have HB : Hid (Below w.heap.size w (w.alloc (.cells (aX a) 85))) := hB
  have HD : Hid (d.doo a = d.switch a.file) := by show d.doo a = _; unfold Dk.D.doo; simp only [hk]; simp
  obtain ⟨kind, file, n, behind, v, l, k0, k1, c0, c1⟩ := a
  simp only at hv hm hC HD HB hk
  subst hv
  rw [HD.out]
  clear h hA hB hk
  generalize d.switch file = r at *
  go_enter Try.func41, Try.ntmps41
  go_wp2_with (go_at_call 64; refine hC.mono ?_; rintro e w2 hp; have hp2 := hp.ahead HB.out; unfold ActPost at hp; obtain ⟨rfl, _⟩ := hp)
  go_ret
  exact hp2
set_option maxHeartbeats 2000000 in
set_option maxRecDepth 100000 in
theorem does4 {w : World} {T : Nat → Prop} {b : Nat} {d : Dk.D} {n0 g0 n1 g1 : Value} (h : Dsk w T b d n0 g0 n1 g1) (a : Ac) (hA : AcOK w a) (hk : a.kind % 8 = 4) :
    Calls Try.prog 41 #[ptr b 0, aV a] w (ActPost w T b (d.doo a)) := by
  have hm : (a.kind : Int).tmod 8 = 4 := by rw [rem8 _ hA.kind, hk]; rfl
  have hB : Below w.heap.size w (w.alloc (.cells (aX a) 85)) := (Below.refl _ w).alloc (Nat.le_refl _) _
  obtain ⟨va, vc, hv⟩ := hA.rb.form
  have hC := Arm_yes (h.below hB) a.n hA.n a.behind
  have HB : Hid (Below w.heap.size w (w.alloc (.cells (aX a) 85))) := hB
  have HD : Hid (d.doo a = (0, d.arm a.n a.behind)) := by show d.doo a = _; unfold Dk.D.doo; simp only [hk]; simp
  obtain ⟨kind, file, n, behind, v, l, k0, k1, c0, c1⟩ := a
  simp only at hv hm hC HD HB hk
  subst hv
  rw [HD.out]
  clear h hA hB hk
  generalize d.arm n behind = r at *
  go_enter Try.func41, Try.ntmps41
  go_wp2_with (go_at_call 20; refine hC.mono ?_; rintro e w2 ⟨rfl, hD2, hO2⟩; have hp2 : ActPost w T b (0, r) (.returned (.int .i64 0)) w2 := ActPost.ahead ⟨rfl, DskE.more (w := w) ⟨_, _, _, _, hD2⟩ _, hO2⟩ HB.out)
  go_ret
  exact hp2
set_option maxHeartbeats 2000000 in
set_option maxRecDepth 100000 in
theorem does5 {w : World} {T : Nat → Prop} {b : Nat} {d : Dk.D} {n0 g0 n1 g1 : Value} (h : Dsk w T b d n0 g0 n1 g1) (a : Ac) (hA : AcOK w a) (hk : a.kind % 8 = 5) :
    Calls Try.prog 41 #[ptr b 0, aV a] w (ActPost w T b (d.doo a)) := by
  have hm : (a.kind : Int).tmod 8 = 5 := by rw [rem8 _ hA.kind, hk]; rfl
  have hB : Below w.heap.size w (w.alloc (.cells (aX a) 85)) := (Below.refl _ w).alloc (Nat.le_refl _) _
  obtain ⟨va, vc, hv⟩ := hA.rb.form
  have hC := Fail_yes (h.below hB)
  have HB : Hid (Below w.heap.size w (w.alloc (.cells (aX a) 85))) := hB
  have HD : Hid (d.doo a = (0, d.fail)) := by show d.doo a = _; unfold Dk.D.doo; simp only [hk]; simp
  obtain ⟨kind, file, n, behind, v, l, k0, k1, c0, c1⟩ := a
  simp only at hv hm hC HD HB hk
  subst hv
  rw [HD.out]
  clear h hA hB hk
  generalize d.fail = r at *
  go_enter Try.func41, Try.ntmps41
  go_wp2_with (go_at_call 21; refine hC.mono ?_; rintro e w2 ⟨rfl, hD2, hO2⟩; have hp2 : ActPost w T b (0, r) (.returned (.int .i64 0)) w2 := ActPost.ahead ⟨rfl, DskE.more (w := w) ⟨_, _, _, _, hD2⟩ _, hO2⟩ HB.out)
  go_ret
  exact hp2
set_option maxHeartbeats 2000000 in
set_option maxRecDepth 100000 in
theorem does6 {w : World} {T : Nat → Prop} {b : Nat} {d : Dk.D} {n0 g0 n1 g1 : Value} (h : Dsk w T b d n0 g0 n1 g1) (a : Ac) (hA : AcOK w a) (hk : a.kind % 8 = 6) :
    Calls Try.prog 41 #[ptr b 0, aV a] w (ActPost w T b (d.doo a)) := by
  have hm : (a.kind : Int).tmod 8 = 6 := by rw [rem8 _ hA.kind, hk]; rfl
  have hB : Below w.heap.size w (w.alloc (.cells (aX a) 85)) := (Below.refl _ w).alloc (Nat.le_refl _) _
  obtain ⟨va, vc, hv⟩ := hA.rb.form
  have hC := Start_yes (h.below hB) a.k0 a.k1 a.c0 a.c1 hA.k0 hA.k1
  have HB : Hid (Below w.heap.size w (w.alloc (.cells (aX a) 85))) := hB
  have HD : Hid (d.doo a = d.start a.k0 a.k1 a.c0 a.c1) := by show d.doo a = _; unfold Dk.D.doo; simp only [hk]; simp
  obtain ⟨kind, file, n, behind, v, l, k0, k1, c0, c1⟩ := a
  simp only at hv hm hC HD HB hk
  subst hv
  rw [HD.out]
  clear h hA hB hk
  generalize d.start k0 k1 c0 c1 = r at *
  have hr1 : ∀ W : World, (∀ i, W.cell? ⟨w.heap.size, i, none⟩ = (aX ⟨kind, file, n, behind, .slice va l.length vc, l, k0, k1, c0, c1⟩)[i]?) → W.rangeAt w.heap.size 5 [.int .i64 k0, .int .i64 k1] := fun W hc j v hj => by
    rw [hc]
    rcases j with _ | _ | j
    · exact hj
    · exact hj
    · simp at hj
  go_enter Try.func41, Try.ntmps41
  go_wp2_with (go_at_call 22; refine hC.mono ?_; rintro e w2 hp; have hp2 := hp.ahead HB.out; unfold ActPost at hp; obtain ⟨rfl, _⟩ := hp)
  go_ret
  exact hp2
set_option maxHeartbeats 2000000 in
set_option maxRecDepth 100000 in
theorem does7 {w : World} {T : Nat → Prop} {b : Nat} {d : Dk.D} {n0 g0 n1 g1 : Value} (h : Dsk w T b d n0 g0 n1 g1) (a : Ac) (hA : AcOK w a) (hk : a.kind % 8 = 7) :
    Calls Try.prog 41 #[ptr b 0, aV a] w (ActPost w T b (d.doo a)) := by
  have hm : (a.kind : Int).tmod 8 = 7 := by rw [rem8 _ hA.kind, hk]; rfl
  have hB : Below w.heap.size w (w.alloc (.cells (aX a) 85)) := (Below.refl _ w).alloc (Nat.le_refl _) _
  obtain ⟨va, vc, hv⟩ := hA.rb.form
  have hC := Append_yes (h.below hB) a.file a.v a.l (hA.rb.below hB) hA.len
  have HB : Hid (Below w.heap.size w (w.alloc (.cells (aX a) 85))) := hB
  have HD : Hid (d.doo a = d.append a.file a.l) := by show d.doo a = _; unfold Dk.D.doo; simp only [hk]; simp
  obtain ⟨kind, file, n, behind, v, l, k0, k1, c0, c1⟩ := a
  simp only at hv hm hC HD HB hk
  subst hv
  rw [HD.out]
  clear h hA hB hk
  generalize d.append file l = r at *
  go_enter Try.func41, Try.ntmps41
  go_wp2_with (go_at_call 66; refine hC.mono ?_; rintro e w2 hp; have hp2 := hp.ahead HB.out; unfold ActPost at hp; obtain ⟨rfl, _⟩ := hp)
  go_ret
  exact hp2
theorem does_any {w : World} {T : Nat → Prop} {b : Nat} {d : Dk.D} {n0 g0 n1 g1 : Value} (h : Dsk w T b d n0 g0 n1 g1) (a : Ac) (hA : AcOK w a) :
    Calls Try.prog 41 #[ptr b 0, aV a] w (ActPost w T b (d.doo a)) := by
  have hlt : a.kind % 8 < 8 := Nat.mod_lt _ (by decide)
  rcases (by omega : a.kind % 8 = 0 ∨ a.kind % 8 = 1 ∨ a.kind % 8 = 2 ∨ a.kind % 8 = 3 ∨ a.kind % 8 = 4 ∨ a.kind % 8 = 5 ∨ a.kind % 8 = 6 ∨ a.kind % 8 = 7) with hk | hk | hk | hk | hk | hk | hk | hk
  · exact does0 h a hA hk
  · exact does1 h a hA hk
  · exact does2 h a hA hk
  · exact does3 h a hA hk
  · exact does4 h a hA hk
  · exact does5 h a hA hk
  · exact does6 h a hA hk
  · exact does7 h a hA hk
end Go.Proofs.Ytcjbceidgaieaaa
