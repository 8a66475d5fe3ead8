/- Reading a disk, whatever it is; what is refused turns nothing. -/
import Derived.Test.YtnnlmnjbmbflpaaDkO
set_option linter.unusedVariables false
set_option linter.unusedSimpArgs false
namespace Go.Proofs.Ytnnlmnjbmbflpaa
open Go.RowKit
/-- What Read tells. -/
def Dk.D.readL (d : Dk.D) (f : Int) : List UInt8 := if d.why f = 0 then (d.at f).now else []
theorem Lt.readAny {w0 W : World} {T : Nat → Prop} {b : Nat} {d : Dk.D} (h : Lt w0 T b d W) (f : Int) {l : List UInt8} {q : Int} (hl : Hid (d.readL f = l)) (hq : Hid (d.why f = q)) : Calls Try.prog 20 #[ptr b 0, .int .i64 f] W fun e w' => ∃ u, e = .returned (.tuple #[u, .int .i64 q]) ∧ OwnsBytes w' W.heap.size u l ∧ Below W.heap.size W w' := by
  have e1 := hl.out
  have e2 := hq.out
  subst e1
  subst e2
  obtain ⟨n0, g0, n1, g1, hD⟩ := h.dsk
  unfold Dk.D.readL
  by_cases hw : d.why f = 0
  · rw [if_pos hw, hw]
    exact Read_yes hD f hw
  · rw [if_neg hw]
    exact (Read_no hD f hw).mono (fun e w' h => ⟨_, h.1, OwnsBytes.nil _ _, by rw [h.2]; exact Below.refl _ _⟩)
/-- A slice beside the disk reads as these bytes. -/
def Rd9 (T : Nat → Prop) (W : World) (u : Value) (l : List UInt8) : Prop := OwnsBytes W 0 u l ∧ Out T W u
theorem Rd9.below {T : Nat → Prop} {W W' : World} {u : Value} {l : List UInt8} (h : Rd9 T W u l) (hB : Below W.heap.size W W') : Rd9 T W' u l := ⟨h.1.keep (fun k _ hk => hB.block k hk), h.2.below hB.size⟩
theorem Rd9.own {T : Nat → Prop} {W W' : World} {u : Value} {l : List UInt8} (h : Rd9 T W u l) (hO : Own T W W') : Rd9 (More T W W') W' u l := ⟨h.1.own h.2 hO, h.2.own hO⟩
theorem Rd9.conv {T : Nat → Prop} {W : World} {u : Value} {l : List UInt8} (h : Rd9 T W u l) : (convert 27 9 u).run Try.prog W = .ok (.string (str l)) W := conv_RB h.1.reads
theorem Rd9.form {T : Nat → Prop} {W : World} {u : Value} {l : List UInt8} (h : Rd9 T W u l) : ∃ a c, u = .slice a l.length c := h.1.form
theorem Lt.reads {w0 W : World} {T : Nat → Prop} {b : Nat} {d : Dk.D} (h : Lt w0 T b d W) (f : Int) {l : List UInt8} {q : Int} (hl : Hid (d.readL f = l)) (hq : Hid (d.why f = q)) : Calls Try.prog 20 #[ptr b 0, .int .i64 f] W fun e w' => ∃ a c, e = .returned (.tuple #[.slice a l.length c, .int .i64 q]) ∧ Rd9 T w' (.slice a l.length c) l ∧ Below W.heap.size W w' :=
  (h.readAny f hl hq).mono (fun e w' ⟨u, e1, hu, hB⟩ => by
    obtain ⟨a, c, rfl⟩ := hu.form
    exact ⟨a, c, e1, ⟨hu.base (fun _ _ => Nat.zero_le _), out_new hu h.low⟩, hB⟩)
theorem Lt.leftH {w0 W : World} {T : Nat → Prop} {b : Nat} {d : Dk.D} (h : Lt w0 T b d W) {x : Int} (e : Hid (d.left = x)) : Calls Try.prog 17 #[ptr b 0] W fun e w' => e = .returned (.int .i64 x) ∧ Below W.heap.size W w' := h.left e.out
theorem Lt.rootH {w0 W : World} {T : Nat → Prop} {b : Nat} {d : Dk.D} (h : Lt w0 T b d W) {x y : Int} (e1 : Hid ((if d.on = true then d.root else 0) = x)) (e2 : Hid ((if d.on = true then (0 : Int) else 12) = y)) : Calls Try.prog 19 #[ptr b 0] W fun e w' => e = .returned (.tuple #[.int .i64 x, .int .i64 y]) ∧ w' = W := by
  have a1 := e1.out
  have a2 := e2.out
  subst a1
  subst a2
  exact h.root
theorem Lt.onH {w0 W : World} {T : Nat → Prop} {b : Nat} {d : Dk.D} (h : Lt w0 T b d W) {x : Bool} (e : Hid (d.on = x)) : Calls Try.prog 16 #[ptr b 0] W fun e w' => e = .returned (.bool x) ∧ w' = W := by
  have a1 := e.out
  subst a1
  exact h.isOn
theorem act_refused {d : Dk.D} {f q : Int} {does : Dk.D → Dk.D} (h1 : (d.act f q does).1 ≠ 0) (h2 : (d.act f q does).2.on = d.on) : (d.act f q does).2 = d := by
  unfold Dk.D.act at *
  by_cases hw : d.why f ≠ 0
  · rw [if_pos hw]
  · rw [if_neg hw] at *
    by_cases hq : q ≠ 0
    · rw [if_pos hq]
    · rw [if_neg hq] at *
      by_cases hf : d.fuse = 0
      · rw [if_pos hf] at h2
        have := (Dk.D.why_file (by simpa using hw)).2
        rw [this] at h2
        cases h2
      · rw [if_neg hf] at h1
        exact absurd rfl h1
theorem doo_refused {d : Dk.D} {a : Ac} (h1 : (d.doo a).1 ≠ 0) (h2 : (d.doo a).2.on = d.on) : (d.doo a).2 = d := by
  unfold Dk.D.doo at *
  split at h1
  · rename_i h; rw [if_pos h] at h2 ⊢; exact act_refused h1 h2
  · rename_i h
    rw [if_neg h] at h2 ⊢
    split at h1
    · rename_i h; rw [if_pos h] at h2 ⊢; exact act_refused h1 h2
    · rename_i h
      rw [if_neg h] at h2 ⊢
      split at h1
      · rename_i h; rw [if_pos h] at h2 ⊢; exact act_refused h1 h2
      · rename_i h
        rw [if_neg h] at h2 ⊢
        split at h1
        · exact absurd rfl h1
        · rename_i h
          rw [if_neg h] at h2 ⊢
          split at h1
          · exact absurd rfl h1
          · rename_i h
            rw [if_neg h] at h2 ⊢
            split at h1
            · rename_i h
              rw [if_pos h] at h2 ⊢
              unfold Dk.D.start at *
              split at h1
              · rename_i h; rw [if_pos h]
              · exact absurd rfl h1
            · rename_i h; rw [if_neg h] at h2 ⊢; exact act_refused h1 h2
end Go.Proofs.Ytnnlmnjbmbflpaa
