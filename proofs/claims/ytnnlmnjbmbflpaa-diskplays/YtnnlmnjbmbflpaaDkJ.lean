/- The contracts of Sync, Switch, Truncate and Append. -/
import Derived.Test.YtnnlmnjbmbflpaaDkI
import Derived.Test.YtnnlmnjbmbflpaaDkIa
import Derived.Test.YtnnlmnjbmbflpaaDkIb
import Derived.Test.YtnnlmnjbmbflpaaDkIc
set_option linter.unusedVariables false
set_option linter.unusedSimpArgs false
namespace Go.Proofs.Ytnnlmnjbmbflpaa
open Go.RowKit
theorem hmf (fn : Fn) (first cap : Array Value) (w : World) : (Instr.makeFunc fn first cap).run Try.prog w = .ok (.func fn first cap) w := rfl
theorem put_same (d : Dk.D) (f : Int) (c : Dk.Cn) : (d.put f c).fuse = d.fuse ∧ (d.put f c).on = d.on ∧ (d.put f c).behind = d.behind := by unfold Dk.D.put; split <;> exact ⟨rfl, rfl, rfl⟩
theorem ActPost.ahead {w W w' : World} {T : Nat → Prop} {b : Nat} {r : Int × Dk.D} {e : Ending} (h : ActPost W T b r e w') (hB : Below w.heap.size w W) : ActPost w T b r e w' := ⟨h.1, h.2.1.step hB.size, (Own.of hB).trans h.2.2 (fun k hk => .inl hk)⟩
theorem box_at (w : World) (v : Value) (t : TypeId) : (w.alloc (.cells #[v] t)).cell? ⟨w.heap.size, 0, none⟩ = some v := by rw [Lib.cell_of_heap (heap_new w _)]; rfl
theorem box_at1 (w : World) (v u : Value) (t s : TypeId) : ((w.alloc (.cells #[v] t)).alloc (.cells #[u] s)).cell? ⟨w.heap.size + 1, 0, none⟩ = some u := by
  have := box_at (w.alloc (.cells #[v] t)) u s
  rw [size_alloc] at this
  exact this
theorem box_at0 (w : World) (v u : Value) (t s : TypeId) : ((w.alloc (.cells #[v] t)).alloc (.cells #[u] s)).cell? ⟨w.heap.size, 0, none⟩ = some v := by
  have hB : Below (w.alloc (.cells #[v] t)).heap.size (w.alloc (.cells #[v] t)) ((w.alloc (.cells #[v] t)).alloc (.cells #[u] s)) := (Below.refl _ _).alloc (Nat.le_refl _) _
  exact (hB.cell (p := ⟨w.heap.size, 0, none⟩) (by rw [size_alloc]; exact Nat.lt_succ_self _)).trans (box_at w v t)
theorem two_boxes (w : World) (o o' : Obj) : Below w.heap.size w ((w.alloc o).alloc o') := ((Below.refl _ w).alloc (Nat.le_refl _) _).alloc (by simp) _
set_option maxHeartbeats 2000000 in
set_option maxRecDepth 100000 in
theorem act_nil {w : World} {v : Value} (h : Made w v false) (f : Int) (x y : Value) :
    Calls Try.prog 71 #[v, .int .i64 f, x, y] w fun e w' => e = .returned (.int .i64 2) ∧ w' = w := by
  have hO := open_nil h f
  go_enter Try.func71, Try.ntmps71
  go_wp2_with (go_at_call 54; refine hO.mono ?_; rintro e w2 ⟨rfl, he⟩; replace he := he.symm; subst he)
  go_ret
  exact ⟨rfl, rfl⟩
set_option maxHeartbeats 2000000 in
set_option maxRecDepth 100000 in
theorem Sync_no {w : World} {v : Value} (h : Made w v false) (f : Int) :
    Calls Try.prog 45 #[v, .int .i64 f] w fun e w' => e = .returned (.int .i64 2) ∧ Below w.heap.size w w' := by
  have H := act_nil h f
  go_enter Try.func45, Try.ntmps45
  go_wp2_with (go_at_call 71; refine (H _ _).mono ?_; rintro e w2 ⟨rfl, he⟩; replace he := he.symm; subst he)
  go_ret
  exact ⟨rfl, Below.refl _ _⟩
set_option maxHeartbeats 2000000 in
set_option maxRecDepth 100000 in
theorem Sync_yes {w : World} {T : Nat → Prop} {b : Nat} {d : Dk.D} {n0 g0 n1 g1 : Value} (h : Dsk w T b d n0 g0 n1 g1) (f : Int) :
    Calls Try.prog 45 #[ptr b 0, .int .i64 f] w (ActPost w T b (d.sync f)) := by
  have H : Calls _ _ _ _ _ := act_sync h f 0 (fun x => x.put f (x.at f).settle) (fun _ => sync_asks _ w) (fun hw _ W hB => sync_does (h.below hB) f (Dk.D.why_file hw).1) (put_same _ _ _)
  have HD : Hid (d.sync f = d.act f 0 (fun x => x.put f (x.at f).settle)) := rfl
  clear h
  generalize d.act f 0 (fun x => x.put f (x.at f).settle) = r at *
  rw [HD.out]
  unfold ActPost at *
  go_enter Try.func45, Try.ntmps45
  go_wp2_with (go_at_call 71; refine H.mono ?_; rintro e w2 ⟨rfl, hp⟩)
  go_ret
  exact ⟨rfl, hp⟩
set_option maxHeartbeats 2000000 in
set_option maxRecDepth 100000 in
theorem Switch_no {w : World} {v : Value} (h : Made w v false) (f : Int) :
    Calls Try.prog 47 #[v, .int .i64 f] w fun e w' => e = .returned (.int .i64 2) ∧ Below w.heap.size w w' := by
  have hm := hmf
  have hB := two_boxes w (.cells #[v] 23) (.cells #[.int .i64 f] 3)
  have c0 := box_at0 w v (.int .i64 f) 23 3
  have c1 := box_at1 w v (.int .i64 f) 23 3
  have H := act_nil (h.below hB) f
  have HB : Hid (Below w.heap.size w ((w.alloc (.cells #[v] 23)).alloc (.cells #[.int .i64 f] 3))) := hB
  have hv : ∃ p, v = .pointer p := by
    rcases h with ⟨rfl, _⟩ | ⟨b, rfl, _⟩
    · exact ⟨_, rfl⟩
    · exact ⟨_, rfl⟩
  obtain ⟨p, rfl⟩ := hv
  clear h hB
  go_enter Try.func47, Try.ntmps47
  go_wp2_with (go_at_call 71; refine (H _ _).mono ?_; rintro e w2 ⟨rfl, he⟩; subst he)
  go_ret
  exact ⟨rfl, HB.out⟩
set_option maxHeartbeats 2000000 in
set_option maxRecDepth 100000 in
theorem Switch_yes {w : World} {T : Nat → Prop} {b : Nat} {d : Dk.D} {n0 g0 n1 g1 : Value} (h : Dsk w T b d n0 g0 n1 g1) (f : Int) :
    Calls Try.prog 47 #[ptr b 0, .int .i64 f] w (ActPost w T b (d.switch f)) := by
  have hm := hmf
  have hB := two_boxes w (.cells #[ptr b 0] 23) (.cells #[.int .i64 f] 3)
  have c0 := box_at0 w (ptr b 0) (.int .i64 f) 23 3
  have c1 := box_at1 w (ptr b 0) (.int .i64 f) 23 3
  generalize hW : (w.alloc (.cells #[ptr b 0] 23)).alloc (.cells #[.int .i64 f] 3) = W at *
  have H := act_switch (h.below hB) f 0 (fun x => { x with root := f }) (w.heap.size + 1) w.heap.size (fun _ => switch_asks _ W) (fun hw _ W' hB' => switch_does ((h.below hB).below hB') f (Dk.D.why_file hw).1 _ (w.heap.size + 1) w.heap.size ((hB'.cell (p := ⟨w.heap.size + 1, 0, none⟩) (cell_lt c1)).trans c1) ((hB'.cell (p := ⟨w.heap.size, 0, none⟩) (cell_lt c0)).trans c0)) ⟨rfl, rfl, rfl⟩
  have HD : Hid (d.switch f = d.act f 0 (fun x => { x with root := f })) := rfl
  have HB : Hid (Below w.heap.size w W) := hB
  clear h hB
  generalize d.act f 0 (fun x => { x with root := f }) = r at *
  rw [HD.out]
  subst hW
  go_enter Try.func47, Try.ntmps47
  go_wp2_with (go_at_call 71; refine H.mono ?_; rintro e w2 hp; have hp2 := hp.ahead HB.out; unfold ActPost at hp; obtain ⟨rfl, _⟩ := hp)
  go_ret
  exact hp2
set_option maxHeartbeats 2000000 in
set_option maxRecDepth 100000 in
theorem Truncate_no {w : World} {v : Value} (h : Made w v false) (f n : Int) :
    Calls Try.prog 46 #[v, .int .i64 f, .int .i64 n] w fun e w' => e = .returned (.int .i64 2) ∧ Below w.heap.size w w' := by
  have hm := hmf
  have hB : Below w.heap.size w (w.alloc (.cells #[.int .i64 n] 3)) := (Below.refl _ w).alloc (Nat.le_refl _) _
  have H := act_nil (h.below hB) f
  have HB : Hid (Below w.heap.size w (w.alloc (.cells #[.int .i64 n] 3))) := hB
  clear h hB
  go_enter Try.func46, Try.ntmps46
  go_wp2_with (go_at_call 71; refine (H _ _).mono ?_; rintro e w2 ⟨rfl, he⟩; subst he)
  go_ret
  exact ⟨rfl, HB.out⟩
set_option maxHeartbeats 2000000 in
set_option maxRecDepth 100000 in
theorem Truncate_yes {w : World} {T : Nat → Prop} {b : Nat} {d : Dk.D} {n0 g0 n1 g1 : Value} (h : Dsk w T b d n0 g0 n1 g1) (f n : Int) :
    Calls Try.prog 46 #[ptr b 0, .int .i64 f, .int .i64 n] w (ActPost w T b (d.trunc f n)) := by
  have hm := hmf
  have hB : Below w.heap.size w (w.alloc (.cells #[.int .i64 n] 3)) := (Below.refl _ w).alloc (Nat.le_refl _) _
  have c0 := box_at w (.int .i64 n) 3
  generalize hW : w.alloc (.cells #[.int .i64 n] 3) = W at *
  have H := act_trunc (h.below hB) f (if n < 0 ∨ ((d.at f).now.length : Int) < n then 1 else 0) (fun x => x.put f ((x.at f).trunc n.toNat)) w.heap.size (fun hw => trunc_asks (h.below hB) f (Dk.D.why_file hw).1 n w.heap.size c0) (fun hw hq W' hB' => by
    have hx : ¬ (n < 0 ∨ ((d.at f).now.length : Int) < n) := fun hx => by rw [if_pos hx] at hq; cases hq
    exact trunc_does ((h.below hB).below hB') f (Dk.D.why_file hw).1 n (by omega) (by omega) w.heap.size ((hB'.cell (p := ⟨w.heap.size, 0, none⟩) (cell_lt c0)).trans c0)) (put_same _ _ _)
  have HD : Hid (d.trunc f n = d.act f (if n < 0 ∨ ((d.at f).now.length : Int) < n then 1 else 0) (fun x => x.put f ((x.at f).trunc n.toNat))) := rfl
  have HB : Hid (Below w.heap.size w W) := hB
  clear h hB
  generalize d.act f (if n < 0 ∨ ((d.at f).now.length : Int) < n then 1 else 0) (fun x => x.put f ((x.at f).trunc n.toNat)) = r at *
  rw [HD.out]
  subst hW
  go_enter Try.func46, Try.ntmps46
  go_wp2_with (go_at_call 71; refine H.mono ?_; rintro e w2 hp; have hp2 := hp.ahead HB.out; unfold ActPost at hp; obtain ⟨rfl, _⟩ := hp)
  go_ret
  exact hp2
set_option maxHeartbeats 2000000 in
set_option maxRecDepth 100000 in
theorem Append_no {w : World} {v : Value} (h : Made w v false) (f : Int) (a : Option Addr) (n c : Nat) :
    Calls Try.prog 44 #[v, .int .i64 f, .slice a n c] w fun e w' => e = .returned (.int .i64 2) ∧ Below w.heap.size w w' := by
  have hm := hmf
  have hB := two_boxes w (.cells #[v] 23) (.cells #[.slice a n c] 27)
  have c0 := box_at0 w v (.slice a n c) 23 27
  have H := act_nil (h.below hB) f
  have HB : Hid (Below w.heap.size w ((w.alloc (.cells #[v] 23)).alloc (.cells #[.slice a n c] 27))) := hB
  have hv : ∃ p, v = .pointer p := by
    rcases h with ⟨rfl, _⟩ | ⟨b, rfl, _⟩
    · exact ⟨_, rfl⟩
    · exact ⟨_, rfl⟩
  obtain ⟨p, rfl⟩ := hv
  clear h hB
  go_enter Try.func44, Try.ntmps44
  go_wp2_with (go_at_call 71; refine (H _ _).mono ?_; rintro e w2 ⟨rfl, he⟩; subst he)
  go_ret
  exact ⟨rfl, HB.out⟩
set_option maxHeartbeats 2000000 in
set_option maxRecDepth 100000 in
theorem Append_yes {w : World} {T : Nat → Prop} {b : Nat} {d : Dk.D} {n0 g0 n1 g1 : Value} (h : Dsk w T b d n0 g0 n1 g1) (f : Int) (y : Value) (l : List UInt8) (hy : RB w y l) (hl : l.length ≤ maxLen) :
    Calls Try.prog 44 #[ptr b 0, .int .i64 f, y] w (ActPost w T b (d.append f l)) := by
  have hm := hmf
  obtain ⟨ya, yc, rfl⟩ := hy.form
  have hB := two_boxes w (.cells #[ptr b 0] 23) (.cells #[.slice ya l.length yc] 27)
  have c0 := box_at0 w (ptr b 0) (.slice ya l.length yc) 23 27
  have c1 := box_at1 w (ptr b 0) (.slice ya l.length yc) 23 27
  generalize hW : (w.alloc (.cells #[ptr b 0] 23)).alloc (.cells #[.slice ya l.length yc] 27) = W at *
  have H := act_append (h.below hB) f (if d.left < l.length then 11 else 0) (fun x => x.put f ((x.at f).app l)) (w.heap.size + 1) w.heap.size (fun _ => append_asks (h.below hB) _ _ l (hy.below hB) (by unfold maxLen at hl; omega) (w.heap.size + 1) w.heap.size c1 c0) (fun hw hq W' hB' => by
    have hx : ¬ (d.left < l.length) := fun hx => by rw [if_pos hx] at hq; cases hq
    have h4 := h.fine.room
    have h5 : ((d.at f).now.length : Int) ≤ d.room - d.left := by unfold Dk.D.left Dk.D.at; split <;> omega
    exact append_does ((h.below hB).below hB') f (Dk.D.why_file hw).1 _ l ((hy.below hB).below hB') (by omega) (w.heap.size + 1) ((hB'.cell (p := ⟨w.heap.size + 1, 0, none⟩) (cell_lt c1)).trans c1)) (put_same _ _ _)
  have HD : Hid (d.append f l = d.act f (if d.left < l.length then 11 else 0) (fun x => x.put f ((x.at f).app l))) := rfl
  have HB : Hid (Below w.heap.size w W) := hB
  clear h hB hy
  generalize d.act f (if d.left < l.length then 11 else 0) (fun x => x.put f ((x.at f).app l)) = r at *
  rw [HD.out]
  subst hW
  go_enter Try.func44, Try.ntmps44
  go_wp2_with (go_at_call 71; refine H.mono ?_; rintro e w2 hp; have hp2 := hp.ahead HB.out; unfold ActPost at hp; obtain ⟨rfl, _⟩ := hp)
  go_ret
  exact hp2
end Go.Proofs.Ytnnlmnjbmbflpaa
