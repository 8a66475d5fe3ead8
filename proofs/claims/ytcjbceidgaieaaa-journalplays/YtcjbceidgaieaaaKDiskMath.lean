/- Disks as plain mathematics: the program's way to keep a file, the document's, and that they tell the same. -/
import Derived.Test.YtcjbceidgaieaaaKBase
set_option linter.unusedVariables false
namespace Go.Proofs.Ytcjbceidgaieaaa.Dk
/-- A file: its bytes, how many of them are sure, the sure ones that were cut (the last one first). -/
structure Cn where
  now : List UInt8
  whole : Nat
  gone : List UInt8
/-- A disk. -/
structure D where
  on : Bool
  room : Int
  root : Int
  a : Cn
  b : Cn
  fuse : Int
  behind : Bool
def Cn.settle (c : Cn) : Cn := ⟨c.now, c.now.length, []⟩
def Cn.trunc (c : Cn) (n : Nat) : Cn := ⟨c.now.take n, min c.whole n, c.gone ++ ((c.now.take c.whole).drop n).reverse⟩
def Cn.app (c : Cn) (l : List UInt8) : Cn := ⟨c.now ++ l, c.whole, c.gone⟩
def Cn.kept (c : Cn) (k : Int) : Nat := min (max k 0).toNat (c.now.length - c.whole)
def Cn.left (c : Cn) (k : Int) (cut : Bool) : List UInt8 := if c.gone ≠ [] ∧ cut = false then c.now.take c.whole ++ c.gone.reverse else c.now.take (c.whole + c.kept k)
def Cn.lose (c : Cn) (k : Int) (cut : Bool) : Cn := ⟨c.left k cut, (c.left k cut).length, []⟩
def D.at (d : D) (f : Int) : Cn := if f = 0 then d.a else d.b
def D.put (d : D) (f : Int) (c : Cn) : D := if f = 0 then { d with a := c } else { d with b := c }
def D.left (d : D) : Int := d.room - d.a.now.length - d.b.now.length
/-- Why a file can't be opened. -/
def D.why (d : D) (f : Int) : Int := if f < 0 ∨ 2 ≤ f then 1 else if d.on = false then 12 else 0
/-- An act. -/
def D.act (d : D) (f : Int) (ask : Int) (does : D → D) : Int × D :=
  if d.why f ≠ 0 then (d.why f, d) else if ask ≠ 0 then (ask, d) else
  if d.fuse = 0 then (12, { (if d.behind then does d else d) with on := false }) else (0, { does d with fuse := if 0 < d.fuse then d.fuse - 1 else d.fuse })
def D.append (d : D) (f : Int) (l : List UInt8) : Int × D := d.act f (if d.left < l.length then 11 else 0) (fun x => x.put f ((x.at f).app l))
def D.sync (d : D) (f : Int) : Int × D := d.act f 0 (fun x => x.put f (x.at f).settle)
def D.trunc (d : D) (f : Int) (n : Int) : Int × D := d.act f (if n < 0 ∨ ((d.at f).now.length : Int) < n then 1 else 0) (fun x => x.put f ((x.at f).trunc n.toNat))
def D.switch (d : D) (f : Int) : Int × D := d.act f 0 (fun x => { x with root := f })
def D.arm (d : D) (n : Int) (b : Bool) : D := { d with fuse := n, behind := b }
def D.fail (d : D) : D := { d with on := false }
def D.start (d : D) (k0 k1 : Int) (c0 c1 : Bool) : Int × D := if d.on then (13, d) else (0, { d with a := d.a.lose k0 c0, b := d.b.lose k1 c1, on := true, fuse := -1 })
def new (room : Int) : D := ⟨true, room, 0, ⟨[], 0, []⟩, ⟨[], 0, []⟩, -1, false⟩
/-- What always holds of a file. -/
structure Cn.Fine (c : Cn) : Prop where
  whole : c.whole ≤ c.now.length
  now : c.now.length ≤ 1048576
  gone : c.whole + c.gone.length ≤ 1048576
structure D.Fine (d : D) : Prop where
  a : d.a.Fine
  b : d.b.Fine
  room : d.room ≤ 1048576
  least : 1 ≤ d.room
  root : d.root = 0 ∨ d.root = 1
  fuse : -9223372036854775808 ≤ d.fuse ∧ d.fuse ≤ 9223372036854775807
theorem Cn.Fine.settle {c : Cn} (h : c.Fine) : c.settle.Fine := ⟨Nat.le_refl _, h.now, by simp [Cn.settle]; exact h.now⟩
theorem Cn.Fine.trunc {c : Cn} (h : c.Fine) (n : Nat) : (c.trunc n).Fine := by
  have h1 := h.whole
  have h2 := h.now
  have h3 := h.gone
  refine ⟨?_, ?_, ?_⟩ <;> simp [Cn.trunc] <;> omega
theorem Cn.left_len {c : Cn} (h : c.Fine) (k : Int) (cut : Bool) : (c.left k cut).length ≤ 1048576 := by
  have h1 := h.whole
  have h2 := h.now
  have h3 := h.gone
  unfold Cn.left
  split <;> simp <;> omega
theorem Cn.Fine.lose {c : Cn} (h : c.Fine) (k : Int) (cut : Bool) : (c.lose k cut).Fine := ⟨Nat.le_refl _, Cn.left_len h k cut, by simp [Cn.lose]; exact Cn.left_len h k cut⟩
theorem D.Fine.at {d : D} (h : d.Fine) (f : Int) : (d.at f).Fine := by unfold D.at; split; exact h.a; exact h.b
theorem D.Fine.put {d : D} (h : d.Fine) (f : Int) {c : Cn} (hc : c.Fine) : (d.put f c).Fine := by
  unfold D.put
  split
  · exact ⟨hc, h.b, h.room, h.least, h.root, h.fuse⟩
  · exact ⟨h.a, hc, h.room, h.least, h.root, h.fuse⟩
theorem D.Fine.act {d : D} (h : d.Fine) (f ask : Int) {does : D → D} (hd : d.why f = 0 → ask = 0 → (does d).Fine) : (d.act f ask does).2.Fine := by
  unfold D.act
  split
  · exact h
  · rename_i h0
    split
    · exact h
    · rename_i h1
      have h2 := hd (by simpa using h0) (by simpa using h1)
      have h3 := h2.fuse
      have h4 := h.fuse
      split
      · cases d.behind
        · exact ⟨h.a, h.b, h.room, h.least, h.root, h.fuse⟩
        · exact ⟨h2.a, h2.b, h2.room, h2.least, h2.root, h2.fuse⟩
      · refine ⟨h2.a, h2.b, h2.room, h2.least, h2.root, ?_⟩
        show -9223372036854775808 ≤ (if 0 < d.fuse then d.fuse - 1 else d.fuse) ∧ (if 0 < d.fuse then d.fuse - 1 else d.fuse) ≤ 9223372036854775807
        split <;> omega
theorem D.Fine.append {d : D} (h : d.Fine) (f : Int) (l : List UInt8) : (d.append f l).2.Fine := by
  refine h.act f _ (fun hw hs => h.put f ?_)
  have h1 := (h.at f).whole
  have h2 := (h.at f).now
  have h3 := (h.at f).gone
  have h4 := h.room
  have hle : ¬ d.left < l.length := by
    intro hx
    rw [if_pos hx] at hs
    cases hs
  have h5 : ((d.at f).now.length : Int) ≤ d.room - d.left := by
    unfold D.left D.at
    split <;> omega
  exact ⟨by simp [Cn.app]; omega, by simp [Cn.app]; omega, h3⟩
theorem D.Fine.sync {d : D} (h : d.Fine) (f : Int) : (d.sync f).2.Fine := h.act f _ (fun _ _ => h.put f (h.at f).settle)
theorem D.Fine.trunc {d : D} (h : d.Fine) (f n : Int) : (d.trunc f n).2.Fine := h.act f _ (fun _ _ => h.put f ((h.at f).trunc _))
theorem D.why_file {d : D} {f : Int} (h : d.why f = 0) : (f = 0 ∨ f = 1) ∧ d.on = true := by
  unfold D.why at h
  split at h
  · cases h
  · split at h
    · cases h
    · rename_i h1 h2
      exact ⟨by omega, by simpa using h2⟩
theorem D.Fine.switch {d : D} (h : d.Fine) (f : Int) : (d.switch f).2.Fine := h.act f _ (fun hw _ => ⟨h.a, h.b, h.room, h.least, (D.why_file hw).1, h.fuse⟩)
theorem D.Fine.arm {d : D} (h : d.Fine) {n : Int} (hn : -9223372036854775808 ≤ n ∧ n ≤ 9223372036854775807) (b : Bool) : (d.arm n b).Fine := ⟨h.a, h.b, h.room, h.least, h.root, hn⟩
theorem D.Fine.fail {d : D} (h : d.Fine) : d.fail.Fine := ⟨h.a, h.b, h.room, h.least, h.root, h.fuse⟩
theorem D.Fine.start {d : D} (h : d.Fine) (k0 k1 : Int) (c0 c1 : Bool) : (d.start k0 k1 c0 c1).2.Fine := by
  unfold D.start
  split
  · exact h
  · exact ⟨h.a.lose _ _, h.b.lose _ _, h.room, h.least, h.root, ⟨by simp, by simp⟩⟩
theorem new_fine {room : Int} (h1 : 1 ≤ room) (h2 : room ≤ 1048576) : (new room).Fine :=
  ⟨⟨by simp [new], by simp [new], by simp [new]⟩, ⟨by simp [new], by simp [new], by simp [new]⟩, h2, h1, .inl rfl, ⟨by simp [new], by simp [new]⟩⟩
end Go.Proofs.Ytcjbceidgaieaaa.Dk
