/- Plain mathematics of package sum: the sum and the mark of bytes on vectors of bits, a table of four bits against one bit at a time, that one other byte makes another sum and another mark, hex digits. -/
import Init
namespace Go.Proofs.Ytcjbceidgaieaaa
namespace Sm
/-- What a sum is turned by. -/
def P : BitVec 32 := 0xEDB88320#32
/-- One bit on. -/
def f (s : BitVec 32) : BitVec 32 := (s >>> 1) ^^^ (if s.getLsbD 0 then P else 0#32)
theorem f_xor (a b : BitVec 32) : f (a ^^^ b) = f a ^^^ f b := by
  unfold f
  rw [BitVec.getLsbD_xor, BitVec.ushiftRight_xor_distrib]
  cases a.getLsbD 0 <;> cases b.getLsbD 0 <;> simp [BitVec.xor_assoc]
  · exact BitVec.xor_comm _ _
  · rw [← BitVec.xor_assoc P, BitVec.xor_comm P (b >>> 1), BitVec.xor_assoc (b >>> 1), BitVec.xor_self, BitVec.xor_zero]
theorem f_even (a : BitVec 32) (h : a.getLsbD 0 = false) : f a = a >>> 1 := by unfold f; rw [h]; simp
def f4 (s : BitVec 32) : BitVec 32 := f (f (f (f s)))
theorem f4_xor (a b : BitVec 32) : f4 (a ^^^ b) = f4 a ^^^ f4 b := by unfold f4; rw [f_xor, f_xor, f_xor, f_xor]
theorem P_top : P.getLsbD 31 = true := by decide
theorem f_top (a : BitVec 32) : (f a).getLsbD 31 = a.getLsbD 0 := by
  unfold f
  rw [BitVec.getLsbD_xor, BitVec.getLsbD_ushiftRight]
  cases h : a.getLsbD 0
  · simp
  · simp [P_top]
theorem f_inj {a b : BitVec 32} (h : f a = f b) : a = b := by
  have h0 : a.getLsbD 0 = b.getLsbD 0 := by rw [← f_top, ← f_top, h]
  have h1 : a >>> 1 = b >>> 1 := by
    unfold f at h
    rw [h0] at h
    have := congrArg (· ^^^ (if b.getLsbD 0 then P else 0#32)) h
    simpa [BitVec.xor_assoc] using this
  apply BitVec.eq_of_getLsbD_eq
  intro i hi
  cases i with
  | zero => exact h0
  | succ i =>
    have := congrArg (·.getLsbD i) h1
    simp only [BitVec.getLsbD_ushiftRight] at this
    rwa [Nat.add_comm] at this
theorem f4_inj {a b : BitVec 32} (h : f4 a = f4 b) : a = b := f_inj (f_inj (f_inj (f_inj h)))
/-- The table of four bits. -/
def tab : List Nat := [0x00000000, 0x1DB71064, 0x3B6E20C8, 0x26D930AC, 0x76DC4190, 0x6B6B51F4, 0x4DB26158, 0x5005713C, 0xEDB88320, 0xF00F9344, 0xD6D6A3E8, 0xCB61B38C, 0x9B64C2B0, 0x86D3D2D4, 0xA00AE278, 0xBDBDF21C]
theorem tab_f4 : ∀ i : Fin 16, BitVec.ofNat 32 (tab.getD i.val 0) = f4 (BitVec.ofNat 32 i.val) := by decide
theorem high_f (a : BitVec 32) (k : Nat) (h : ∀ i, i < k + 1 → a.getLsbD i = false) : f a = a >>> 1 ∧ ∀ i, i < k → (f a).getLsbD i = false := by
  have h1 := f_even a (h 0 (by omega))
  refine ⟨h1, fun i hi => ?_⟩
  rw [h1, BitVec.getLsbD_ushiftRight]
  exact h (1 + i) (by omega)
theorem high_f4 (a : BitVec 32) (h : ∀ i, i < 4 → a.getLsbD i = false) : f4 a = a >>> 4 := by
  unfold f4
  obtain ⟨e1, k1⟩ := high_f a 3 h
  obtain ⟨e2, k2⟩ := high_f (f a) 2 k1
  obtain ⟨e3, k3⟩ := high_f (f (f a)) 1 k2
  obtain ⟨e4, _⟩ := high_f (f (f (f a))) 0 k3
  rw [e4, e3, e2, e1]
  simp only [← BitVec.shiftRight_add]
theorem four (s : BitVec 32) : (s >>> 4) ^^^ BitVec.ofNat 32 (tab.getD (s.toNat % 16) 0) = f4 s := by
  have hs : s = (s &&& 0xFFFFFFF0#32) ^^^ (s &&& 15#32) := by
    apply BitVec.eq_of_getLsbD_eq
    intro i hi
    rw [BitVec.getLsbD_xor, BitVec.getLsbD_and, BitVec.getLsbD_and]
    have : ∀ i : Fin 32, ((0xFFFFFFF0#32).getLsbD i.val, (15#32).getLsbD i.val) = (decide (4 ≤ i.val), decide (i.val < 4)) := by decide
    have h := this ⟨i, hi⟩
    simp only [Prod.mk.injEq] at h
    rw [h.1, h.2]
    by_cases hq : i < 4
    · simp [hq, show ¬ 4 ≤ i by omega]
    · simp [hq, show 4 ≤ i by omega]
  have hl : s &&& 15#32 = BitVec.ofNat 32 (s.toNat % 16) := by
    apply BitVec.eq_of_toNat_eq
    rw [BitVec.toNat_and, BitVec.toNat_ofNat (x := s.toNat % 16)]
    show s.toNat &&& 15 = _
    rw [show (15 : Nat) = 2 ^ 4 - 1 from rfl, Nat.and_two_pow_sub_one_eq_mod]
    omega
  have hh : f4 (s &&& 0xFFFFFFF0#32) = s >>> 4 := by
    rw [high_f4]
    · apply BitVec.eq_of_getLsbD_eq
      intro i hi
      rw [BitVec.getLsbD_ushiftRight, BitVec.getLsbD_ushiftRight, BitVec.getLsbD_and]
      by_cases hq : 4 + i < 32
      · have : ∀ i : Fin 32, 4 ≤ i.val → (0xFFFFFFF0#32).getLsbD i.val = true := by decide
        rw [this ⟨4 + i, hq⟩ (by simp)]
        simp
      · rw [BitVec.getLsbD_of_ge s (4 + i) (by omega)]; simp
    · intro i hi
      rw [BitVec.getLsbD_and]
      have : ∀ i : Fin 4, (0xFFFFFFF0#32).getLsbD i.val = false := by decide
      rw [this ⟨i, hi⟩]; simp
  have ht := tab_f4 ⟨s.toNat % 16, Nat.mod_lt _ (by decide)⟩
  simp only at ht
  rw [ht, ← hh, ← hl, ← f4_xor, ← hs]
/-- A byte on. -/
def by32 (c : UInt8) : BitVec 32 := BitVec.ofNat 32 c.toNat
def on (s : BitVec 32) (c : UInt8) : BitVec 32 := f4 (f4 (s ^^^ by32 c))
theorem on_left {a b : BitVec 32} {c : UInt8} (h : on a c = on b c) : a = b := by
  have := f4_inj (f4_inj h)
  have := congrArg (· ^^^ by32 c) this
  simpa [BitVec.xor_assoc] using this
theorem by32_inj {c d : UInt8} (h : by32 c = by32 d) : c = d := by
  unfold by32 at h
  have := congrArg BitVec.toNat h
  rw [BitVec.toNat_ofNat, BitVec.toNat_ofNat, Nat.mod_eq_of_lt (by have := c.toNat_lt; omega), Nat.mod_eq_of_lt (by have := d.toNat_lt; omega)] at this
  exact UInt8.toNat_inj.mp this
theorem on_right {a : BitVec 32} {c d : UInt8} (h : on a c = on a d) : c = d := by
  have := f4_inj (f4_inj h)
  have := congrArg (a ^^^ ·) this
  simp only [← BitVec.xor_assoc, BitVec.xor_self, BitVec.zero_xor] at this
  exact by32_inj this
/-- One bit on, as the document says it: the byte's bit beside the sum's. -/
def g (s : BitVec 32) (b : BitVec 32) : BitVec 32 := (s >>> 1) ^^^ (if (s ^^^ b).getLsbD 0 then P else 0#32)
theorem f_g (s b : BitVec 32) : f (s ^^^ b) = g s b ^^^ (b >>> 1) := by
  unfold f g
  rw [BitVec.ushiftRight_xor_distrib, BitVec.xor_assoc, BitVec.xor_assoc, BitVec.xor_comm (b >>> 1)]
/-- k bits on. -/
def gs (s b : BitVec 32) : Nat → BitVec 32
  | 0 => s
  | k + 1 => g (gs s b k) (b >>> k)
theorem gs_f (s b : BitVec 32) : ∀ k, gs s b k ^^^ (b >>> k) = Nat.rec (s ^^^ b) (fun _ x => f x) k
  | 0 => by show s ^^^ (b >>> 0) = s ^^^ b; simp
  | k + 1 => by
    show g (gs s b k) (b >>> k) ^^^ (b >>> (k + 1)) = f (Nat.rec (s ^^^ b) (fun _ x => f x) k)
    rw [← gs_f s b k, f_g, ← BitVec.shiftRight_add]
theorem gs_on (s : BitVec 32) (c : UInt8) : gs s (by32 c) 8 = on s c := by
  have h := gs_f s (by32 c) 8
  have hz : by32 c >>> 8 = 0#32 := by
    apply BitVec.eq_of_toNat_eq
    rw [BitVec.toNat_ushiftRight]
    unfold by32
    rw [BitVec.toNat_ofNat, Nat.mod_eq_of_lt (by have := c.toNat_lt; omega), Nat.shiftRight_eq_div_pow]
    have := c.toNat_lt
    simp
    omega
  rw [hz, BitVec.xor_zero] at h
  exact h
def crcL (s : BitVec 32) (l : List UInt8) : BitVec 32 := l.foldl on s
/-- The mark. -/
def M : BitVec 64 := 0x100000001B3#64
def by64 (c : UInt8) : BitVec 64 := BitVec.ofNat 64 c.toNat
def mk (m : BitVec 64) (c : UInt8) : BitVec 64 := (m ^^^ by64 c) * M
theorem M_inv : M * 0xCE965057AFF6957B#64 = 1#64 := by decide
theorem M_inj {a b : BitVec 64} (h : a * M = b * M) : a = b := by
  have := congrArg (· * 0xCE965057AFF6957B#64) h
  simpa only [BitVec.mul_assoc, M_inv, BitVec.mul_one] using this
theorem mk_left {a b : BitVec 64} {c : UInt8} (h : mk a c = mk b c) : a = b := by
  have := M_inj h
  have := congrArg (· ^^^ by64 c) this
  simpa [BitVec.xor_assoc] using this
theorem by64_inj {c d : UInt8} (h : by64 c = by64 d) : c = d := by
  unfold by64 at h
  have := congrArg BitVec.toNat h
  rw [BitVec.toNat_ofNat, BitVec.toNat_ofNat, Nat.mod_eq_of_lt (by have := c.toNat_lt; omega), Nat.mod_eq_of_lt (by have := d.toNat_lt; omega)] at this
  exact UInt8.toNat_inj.mp this
theorem mk_right {a : BitVec 64} {c d : UInt8} (h : mk a c = mk a d) : c = d := by
  have := M_inj h
  have := congrArg (a ^^^ ·) this
  simp only [← BitVec.xor_assoc, BitVec.xor_self, BitVec.zero_xor] at this
  exact by64_inj this
def markL (m : BitVec 64) (l : List UInt8) : BitVec 64 := l.foldl mk m
theorem fold_left {σ : Type} (o : σ → UInt8 → σ) (hl : ∀ a b c, o a c = o b c → a = b) : ∀ (l : List UInt8) (a b : σ), l.foldl o a = l.foldl o b → a = b
  | [], _, _, h => h
  | c :: l, a, b, h => hl a b c (fold_left o hl l _ _ h)
theorem fold_set {σ : Type} (o : σ → UInt8 → σ) (hl : ∀ a b c, o a c = o b c → a = b) (hr : ∀ a c d, o a c = o a d → c = d) (d : UInt8) :
    ∀ (l : List UInt8) (i : Nat) (s : σ) (h : i < l.length), l.foldl o s = (l.set i d).foldl o s → l[i] = d
  | c :: l, 0, s, _, h => hr s c d (fold_left o hl l _ _ h)
  | c :: l, i + 1, s, hi, h => fold_set o hl hr d l i (o s c) (by simpa using hi) (by simpa using h)
theorem set_same (l : List UInt8) (i : Nat) (d : UInt8) (h : i < l.length) (he : l[i] = d) : l.set i d = l := by
  subst he; exact List.set_getElem_self h
theorem crc_set (l : List UInt8) (i : Nat) (d : UInt8) (s : BitVec 32) (h : i < l.length) : (crcL s l = crcL s (l.set i d)) ↔ l[i] = d :=
  ⟨fun q => fold_set on (fun _ _ _ => on_left) (fun _ _ _ => on_right) d l i s h q, fun q => by rw [set_same l i d h q]⟩
theorem mark_set (l : List UInt8) (i : Nat) (d : UInt8) (s : BitVec 64) (h : i < l.length) : (markL s l = markL s (l.set i d)) ↔ l[i] = d :=
  ⟨fun q => fold_set mk (fun _ _ _ => mk_left) (fun _ _ _ => mk_right) d l i s h q, fun q => by rw [set_same l i d h q]⟩
theorem crcL_app (s : BitVec 32) (a b : List UInt8) : crcL s (a ++ b) = crcL (crcL s a) b := List.foldl_append
theorem markL_app (s : BitVec 64) (a b : List UInt8) : markL s (a ++ b) = markL (markL s a) b := List.foldl_append
/-- A hex digit. -/
def hx (n : Nat) : UInt8 := if n < 10 then UInt8.ofNat (48 + n) else UInt8.ofNat (87 + n)
/-- Hex digits ahead of others. -/
def hexA : Nat → Nat → List UInt8 → List UInt8
  | 0, _, l => l
  | k + 1, n, l => hexA k (n / 16) (hx (n % 16) :: l)
theorem hexA_length : ∀ (k n : Nat) (l : List UInt8), (hexA k n l).length = k + l.length
  | 0, _, _ => by simp [hexA]
  | k + 1, n, l => by rw [hexA, hexA_length k]; simp; omega
end Sm
end Go.Proofs.Ytcjbceidgaieaaa
