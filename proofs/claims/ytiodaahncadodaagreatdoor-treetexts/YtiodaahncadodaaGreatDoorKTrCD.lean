/- Texts laid as one. -/
import Derived.Test.YtiodaahncadodaaGreatDoorKTrAB
import Derived.Test.YtiodaahncadodaaGreatDoorKRfRt
import Derived.Deep.CutBlock
import Derived.Deep.CutRange
/- The contract of the reference's attr. -/
set_option linter.unusedVariables false
set_option linter.unusedSimpArgs false
namespace Tk
open Asc
theorem dropW (p : UInt8 → Bool) (l : List UInt8) : l.dropWhile p = l.drop (l.takeWhile p).length :=
  (List.drop_left' (l₁ := l.takeWhile p) (l₂ := l.dropWhile p) rfl).symm.trans (by rw [List.takeWhile_append_dropWhile])
theorem takeW (p : UInt8 → Bool) (l : List UInt8) : l.takeWhile p = l.take (l.takeWhile p).length :=
  (List.take_left' (l₁ := l.takeWhile p) (l₂ := l.dropWhile p) rfl).symm.trans (by rw [List.takeWhile_append_dropWhile])
theorem takeWhile_le' (p : UInt8 → Bool) (l : List UInt8) : (l.takeWhile p).length ≤ l.length := by
  have := congrArg List.length (List.takeWhile_append_dropWhile (p := p) (l := l))
  rw [List.length_append] at this
  omega
/-- Where what goes on from a place ends. -/
def on (p : UInt8 → Bool) (S : List UInt8) (k : Nat) : Nat := k + ((S.drop k).takeWhile p).length
theorem on_le (p : UInt8 → Bool) (S : List UInt8) (k : Nat) (h : k ≤ S.length) : k ≤ on p S k ∧ on p S k ≤ S.length := by
  unfold on
  have := takeWhile_le' p (S.drop k)
  rw [List.length_drop] at this
  omega
theorem on_next (p : UInt8 → Bool) (S : List UInt8) (k : Nat) (h : k < S.length) (hb : p S[k] = true) : on p S k = on p S (k + 1) := by
  unfold on
  rw [List.drop_eq_getElem_cons h, List.takeWhile_cons, hb, if_pos rfl, List.length_cons]
  omega
theorem on_here (p : UInt8 → Bool) (S : List UInt8) (k : Nat) (h : k < S.length) (hb : p S[k] = false) : on p S k = k := by
  unfold on
  rw [List.drop_eq_getElem_cons h, List.takeWhile_cons, hb]
  rfl
theorem on_end (p : UInt8 → Bool) (S : List UInt8) (k : Nat) (h : S.length ≤ k) : on p S k = k := by
  unfold on
  rw [List.drop_eq_nil_of_le h]
  rfl
theorem on_drop (p : UInt8 → Bool) (S : List UInt8) (k : Nat) : S.drop (on p S k) = (S.drop k).dropWhile p := by
  unfold on
  rw [← List.drop_drop, ← dropW]
theorem on_take (p : UInt8 → Bool) (S : List UInt8) (k : Nat) : (S.take (on p S k)).drop k = (S.drop k).takeWhile p := by
  unfold on
  rw [List.drop_take, Nat.add_sub_cancel_left, ← takeW]
theorem attrN_at (S : List UInt8) (n : Nat) (h : n < S.length) : attrN (S.drop n) = (S.take (on an S (n + 1))).drop n := by
  have hl := on_le an S (n + 1) h
  have e1 : (S.take (on an S (n + 1))).drop n = S[n] :: (S.take (on an S (n + 1))).drop (n + 1) := by
    have hlt : n < (S.take (on an S (n + 1))).length := by rw [List.length_take]; omega
    rw [List.drop_eq_getElem_cons hlt, List.getElem_take]
  rw [e1, on_take, List.drop_eq_getElem_cons h]
  rfl
theorem attrR_at (S : List UInt8) (n : Nat) (h : n < S.length) : attrR (S.drop n) = S.drop (on an S (n + 1)) := by
  rw [on_drop]
  unfold attrR
  rw [List.drop_drop]
theorem attr_no (S : List UInt8) (n K : Nat) (h : n < S.length) (hK : on isBlank S (on an S (n + 1)) = K) (hn : ∀ hk : K < S.length, S[K] ≠ 61) : attr (S.drop n) = ((lower (attrN (S.drop n)), []), S.drop (on an S (n + 1))) := by
  have e : eqR (attrR (S.drop n)) = none := by
    unfold eqR
    rw [attrR_at S n h, ← on_drop, hK]
    by_cases hk : K < S.length
    · rw [List.drop_eq_getElem_cons hk]
      simp [hn hk]
    · rw [List.drop_eq_nil_of_le (by omega)]
  unfold attr
  rw [e, attrR_at S n h]
theorem attr_eq (S : List UInt8) (n K : Nat) (h : n < S.length) (hK : on isBlank S (on an S (n + 1)) = K) (hk : K < S.length) (hn : S[K] = 61) : attr (S.drop n) = ((lower (attrN (S.drop n)), Rf.dec true (valRaw (S.drop (on isBlank S (K + 1))))), valR (S.drop (on isBlank S (K + 1)))) := by
  have e : eqR (attrR (S.drop n)) = some (S.drop (on isBlank S (K + 1))) := by
    unfold eqR
    rw [attrR_at S n h, ← on_drop, hK, List.drop_eq_getElem_cons hk]
    simp only [hn, if_true]
    rw [on_drop]
  unfold attr
  rw [e]
theorem fd_tw (q : UInt8) : ∀ l : List UInt8, fd [q] l = (l.takeWhile (· != q)).length
  | [] => rfl
  | c :: t => by
    rw [fd, List.takeWhile_cons]
    by_cases h : c = q
    · subst h
      simp [List.isPrefixOf]
    · have h1 : [q].isPrefixOf (c :: t) = false := by simp [List.isPrefixOf]; exact fun e => h e.symm
      have h2 : (c != q) = true := by simpa using h
      rw [h1, h2, fd_tw q t]
      rfl
theorem val_q (S : List UInt8) (K : Nat) (hk : K < S.length) (q : UInt8) (hq : S[K] = q) (hi : isQ q = true) : valRaw (S.drop K) = (S.take (K + 1 + fd [q] (S.drop (K + 1)))).drop (K + 1) ∧ valR (S.drop K) = S.drop (min (K + fd [q] (S.drop (K + 1)) + 2) (S.length + 1)) := by
  rw [List.drop_eq_getElem_cons hk, hq, valRaw, valR, if_pos hi, if_pos hi]
  constructor
  · rw [fd_tw, List.drop_take, Nat.add_sub_cancel_left, ← takeW]
  · rw [dropW, List.drop_drop, List.drop_drop, fd_tw]
    by_cases hle : K + ((S.drop (K + 1)).takeWhile (· != q)).length + 2 ≤ S.length + 1
    · rw [Nat.min_eq_left hle]
      congr 1
      omega
    · rw [Nat.min_eq_right (by omega), List.drop_eq_nil_of_le (by omega), List.drop_eq_nil_of_le (by omega)]
theorem val_n (S : List UInt8) (K : Nat) (hn : ∀ hk : K < S.length, isQ S[K] = false) : valRaw (S.drop K) = (S.take (on vn S K)).drop K ∧ valR (S.drop K) = S.drop (on vn S K) := by
  rw [on_take, on_drop]
  by_cases hk : K < S.length
  · rw [List.drop_eq_getElem_cons hk, valRaw, valR, if_neg (by rw [hn hk]; decide), if_neg (by rw [hn hk]; decide)]
    exact ⟨rfl, rfl⟩
  · rw [List.drop_eq_nil_of_le (by omega)]
    exact ⟨rfl, rfl⟩
end Tk
namespace Go.Proofs.YtiodaahncadodaaGreatDoor
open Go.RowKit
theorem loadAt_A {w : World} {b : Nat} {x y : Value} (h : AAt w b x y) : (Instr.loadAt 67 (.pointer (some ⟨b, 0, none⟩))).run Tryz.prog w = .ok (.agg #[x, y]) w := by
  simp only [Instr.loadAt, Instr.sureAddr, Sem.run_bind, Sem.run_pure, Result.andThen]
  exact load_A h
theorem wpList_load_A {ops : Array Oper} {rest : List Oper} {o : Oper} {a : Act} {w : World} {Q : Exit → Act → World → Prop} (p : Operand) (ho : o.op = .load 67 p) (hg : o.guard = none) (b : Nat) (x y : Value) (hx : a.eval p = .pointer (some ⟨b, 0, none⟩)) (h : AAt w b x y)
    (hn : wpList Tryz.prog ops Q rest (a.put o.dst (.agg #[x, y])) w) : wpList Tryz.prog ops Q (o :: rest) a w := by
  refine wpList_plain hg fun K hK => ?_
  unfold Oper.wp
  have e : (execOp a.eval o).run Tryz.prog w = .ok (.value (.agg #[x, y])) w := by
    unfold execOp
    rw [ho]
    simp only [hx, Sem.run_bind, loadAt_A h, Result.andThen, Sem.run_pure]
  rw [e, Oper.upon_value]
  exact hK _ _ hn
theorem ret_A2 {fn : Func} {p q : Tmp} {Q : Ending → World → Prop} {a : Act} {w : World} {b : Nat} {x y z : Value} (hr : fn.results = #[.cell p 67, .tmp q]) (hd : a.defers = []) (hp : a.tmps.getD p undef = .pointer (some ⟨b, 0, none⟩)) (hz : a.tmps.getD q undef = z) (h : AAt w b x y) (hQ : Q (.returned (.tuple #[.agg #[x, y], z])) w) :
    bodyPost Tryz.prog fn Q .ret a w := by
  refine bodyPost_ret (v := .tuple #[.agg #[x, y], z]) ?_ hd hQ
  rw [results_two hr _ _ _ _ _ hp (load_A h), hz]
theorem AAt.step {w w' : World} {b : Nat} {x y : Value} (h : AAt w b x y) (hb : Below w.heap.size w w') : AAt w' b x y := (hb.block _ (Array.getElem?_eq_some_iff.1 h).1).trans h
theorem AAt.lt {w : World} {b : Nat} {x y : Value} (h : AAt w b x y) : b < w.heap.size := (Array.getElem?_eq_some_iff.1 h).1
theorem AAt.kept {w w' : World} {b c : Nat} {x y : Value} (h : AAt w b x y) (hk : Kept c w w') (hb : b ≠ c) : AAt w' b x y := hk.heap h hb
theorem AAt.set1 {w : World} {b : Nat} {x y : Value} (h : AAt w b x y) (z : Value) : AAt (w.setCell ⟨b, 1, none⟩ z) b x z := by
  unfold AAt at *
  exact Go.Joins.block_setCell h z
def RAttrPost (S : List UInt8) (n : Nat) (w : World) (e : Ending) (w' : World) : Prop :=
  ∃ k : Nat, e = .returned (.tuple #[.agg #[.string (str (Tk.attr (S.drop n)).1.1), .string (str (Tk.attr (S.drop n)).1.2)], .int .i64 k]) ∧ (Tk.attr (S.drop n)).2 = S.drop k ∧ n < k ∧ k ≤ S.length + 1 ∧ Below w.heap.size w w'
theorem byte_at (S : List UInt8) (k : Nat) (hk : k < S.length) (c : UInt8) (hc : S[k] = c) : ∀ h : k < (str S).size, (str S)[k]'h = c := fun _ => hc
theorem q_no (c : UInt8) (k : Nat) (hk : k < 256) (h : c ≠ UInt8.ofNat k) : ((c.toNat : Int) == (k : Int)) = false := (beq_byte c k hk).trans (beq_eq_false_iff_ne.2 h)
theorem b_yes {a b : Int} (h : (a == b) = false) : (a != b) = true := by unfold bne; rw [h]; rfl
set_option maxHeartbeats 2000000 in
set_option maxRecDepth 100000 in
theorem Rattr_any (S : List UInt8) (n : Nat) (w : World) (hn : n < S.length) (hz : S.length ≤ 1000000) :
    Calls Tryz.prog 108 #[.string (str S), .int .i64 n] w (RAttrPost S n w) := by
  have hza := (zero_of_info zeroA).1
  have hsz := str_size S
  have hb0 : Below w.heap.size w (w.alloc (.cells #[.string ByteArray.empty, .string ByteArray.empty] 67)) := (Below.refl _ w).alloc (Nat.le_refl _) _
  have ha0 : AAt (w.alloc (.cells #[.string ByteArray.empty, .string ByteArray.empty] 67)) w.heap.size (.string ByteArray.empty) (.string ByteArray.empty) := heap_new w _
  obtain ⟨E, hE⟩ : ∃ E, Tk.on Tk.an S (n + 1) = E := ⟨_, rfl⟩
  have hEl := Tk.on_le Tk.an S (n + 1) hn
  rw [hE] at hEl
  have hN := Tk.attrN_at S n hn
  rw [hE] at hN
  go_enter Tryz.func108, Tryz.ntmps108
  go_upto_block 0 with fail
  generalize (w.alloc (.cells #[.string ByteArray.empty, .string ByteArray.empty] 67)) = W0 at *
  have HB0 := hideT hb0
  have HA0 := hideT ha0
  clear hb0 ha0
  go_cut [1] from 13 to 43 (fun x w' => x = Value.int .i64 E ∧ w' = W0)
  case first =>
    go_wp2_with fail
    go_loopw [1] (fun x wr => ∃ k : Nat, x = .int .i64 k ∧ k ≤ S.length ∧ Hid (Tk.on Tk.an S k = E) ∧ wr = W0) (fun x _ => S.length - (intOf x).toNat)
    case atStart => exact ⟨n + 1, by go_num, hn, hE, rfl⟩
    case round =>
      obtain ⟨k, rfl, hk, HE, rfl⟩ := hrel
      by_cases hlt : k < S.length
      · obtain ⟨c, hc⟩ : ∃ c, S[k] = c := ⟨_, rfl⟩
        have hat := byte_at S k hlt c hc
        have hIB := RIsBlank_c c
        have HAN : Hid (Tk.an c = (!Asc.isBlank c && c != 47 && c != 62 && c != 61)) := rfl
        have HS : Hid (Tk.an c = false → k = E) := fun h => by rw [← HE.out, Tk.on_here Tk.an S k hlt (by rw [hc]; exact h)]
        have HG : Hid (Tk.an c = true → Tk.on Tk.an S (k + 1) = E) := fun h => by rw [← HE.out]; exact (Tk.on_next Tk.an S k hlt (by rw [hc]; exact h)).symm
        clear hc HE
        cases hb : Asc.isBlank c
        · rw [hb] at hIB HAN
          by_cases h47 : c = 47
          · have q47 : ((c.toNat : Int) != 47) = false := by rw [h47]; rfl
            have HX := hideT (HS.out (by rw [HAN.out, h47]; rfl))
            clear HAN HG HS h47
            go_wp2_with (go_at_call 78; refine (hIB _).mono ?_; rintro e w1 ⟨rfl, hw⟩; rw [hw]; clear hw)
            go_meet
            case rel => exact ⟨by rw [HX.out], rfl⟩
          have q47 : ((c.toNat : Int) != 47) = true := b_yes (q_no c 47 (by omega) h47)
          by_cases h62 : c = 62
          · have q62 : ((c.toNat : Int) != 62) = false := by rw [h62]; rfl
            have HX := hideT (HS.out (by rw [HAN.out, h62]; rfl))
            clear HAN HG HS h62 h47
            go_wp2_with (go_at_call 78; refine (hIB _).mono ?_; rintro e w1 ⟨rfl, hw⟩; rw [hw]; clear hw)
            go_meet
            case rel => exact ⟨by rw [HX.out], rfl⟩
          have q62 : ((c.toNat : Int) != 62) = true := b_yes (q_no c 62 (by omega) h62)
          by_cases h61 : c = 61
          · have q61 : ((c.toNat : Int) != 61) = false := by rw [h61]; rfl
            have HX := hideT (HS.out (by rw [HAN.out, h61]; rfl))
            clear HAN HG HS h61 h62 h47
            go_wp2_with (go_at_call 78; refine (hIB _).mono ?_; rintro e w1 ⟨rfl, hw⟩; rw [hw]; clear hw)
            go_meet
            case rel => exact ⟨by rw [HX.out], rfl⟩
          have q61 : ((c.toNat : Int) != 61) = true := b_yes (q_no c 61 (by omega) h61)
          have HX := hideT (HG.out (by rw [HAN.out]; simp [h47, h62, h61]))
          clear HAN HG HS h61 h62 h47
          go_wp2_with (go_at_call 78; refine (hIB _).mono ?_; rintro e w1 ⟨rfl, hw⟩; rw [hw]; clear hw)
          go_roundw
          case rel => exact ⟨k + 1, by go_num, by omega, HX.out, by trivial⟩
          case measure => simp [intOf]; omega
        · rw [hb] at hIB HAN
          have HX := hideT (HS.out (by rw [HAN.out]; rfl))
          clear HAN HG HS
          go_wp2_with (go_at_call 78; refine (hIB _).mono ?_; rintro e w1 ⟨rfl, hw⟩; rw [hw]; clear hw)
          go_meet
          case rel => exact ⟨by rw [HX.out], rfl⟩
      · have HX : Hid (k = E) := by show k = E; rw [← HE.out, Tk.on_end Tk.an S k (by omega)]
        clear HE
        go_wp2
        go_meet
        case rel => exact ⟨by rw [HX.out], rfl⟩
  case rest =>
    obtain ⟨rfl, he⟩ := hcut
    replace he := he.symm
    subst he
    have hx0 := str_midR S n E
    rw [← hN] at hx0
    have hxl : (Tk.attrN (S.drop n)).length ≤ 1000000 := by
      rw [hN, List.length_drop, List.length_take]
      omega
    obtain ⟨d, hd⟩ : ∃ d, ((S.drop E).takeWhile Asc.isBlank).length = d := ⟨_, rfl⟩
    obtain ⟨K, hK⟩ : ∃ K, E + d = K := ⟨_, rfl⟩
    have hon : Tk.on Asc.isBlank S E = K := by unfold Tk.on; rw [hd, hK]
    have hKl := Tk.on_le Asc.isBlank S E hEl.2
    rw [hon] at hKl
    have hKI : (E : Int) + (d : Int) = (K : Int) := by omega
    have hdr := str_from S E
    have hBl := fun W => Rblanks_any (S.drop E) W (by rw [List.length_drop]; omega)
    rw [hd] at hBl
    have HNO := hideT (Tk.attr_no S n K hn (by rw [hE]; exact hon))
    have HEQ := hideT (Tk.attr_eq S n K hn (by rw [hE]; exact hon))
    rw [hE] at HNO
    generalize Tk.attrN (S.drop n) = y at *
    have hLo := RLower_any (str y) W0 (by rw [str_size]; omega)
    rw [str_data] at hLo
    generalize Asc.lower y = x at *
    have HLo := hideT hLo
    have HBl := hideT hBl
    clear hLo hBl hN hd hK hon hE
    go_upto_region 7 with (first
      | (go_at_call 107; (try rw [hx0]); refine HLo.out.mono ?_; rintro e w1 ⟨rfl, hb1⟩; have hb2 : Below w1.heap.size w1 (w1.alloc (.cells #[.string (str x), .string ByteArray.empty] 67)) := (Below.refl _ _).alloc (Nat.le_refl _) _; have HA2 : Hid (AAt (w1.alloc (.cells #[.string (str x), .string ByteArray.empty] 67)) w1.heap.size (.string (str x)) (.string ByteArray.empty)) := heap_new w1 _; have HR2 := hideT (HA0.out.step (bel hb1 hb2)); have HB2 := hideT (HB0.out.trans ((bel hb1 hb2).mono HB0.out.size)); have hne1 : w.heap.size < w1.heap.size := (by have := HA0.out.lt; have := hb1.size; omega); clear hb1 hb2)
      | (go_at_call 137; (try rw [hdr]); refine (HBl.out _).mono ?_; rintro e w3 ⟨rfl, hw⟩; rw [hw]; clear hw))
    generalize (w1.alloc (.cells #[.string (str x), .string ByteArray.empty] 67)) = W2 at *
    clear hx0 hdr HLo HBl HA0 HB0 hKI
    by_cases hq : ∃ hk : K < S.length, S[K] = 61
    · obtain ⟨hk, hq⟩ := hq
      have HX := hideT (HEQ.out hk hq)
      have hat := byte_at S K hk 61 hq
      have q61 : (((61 : UInt8).toNat : Int) != 61) = false := rfl
      clear HNO HEQ hq
      obtain ⟨d3, hd3⟩ : ∃ d, ((S.drop (K + 1)).takeWhile Asc.isBlank).length = d := ⟨_, rfl⟩
      obtain ⟨K3, hK3⟩ : ∃ K3, K + 1 + d3 = K3 := ⟨_, rfl⟩
      have hon3 : Tk.on Asc.isBlank S (K + 1) = K3 := by unfold Tk.on; rw [hd3, hK3]
      have hK3l := Tk.on_le Asc.isBlank S (K + 1) hk
      rw [hon3] at hK3l HX
      have hK3I : (K : Int) + 1 + (d3 : Int) = (K3 : Int) := by omega
      have hdr3 := str_from S (K + 1)
      have hBl := fun W => Rblanks_any (S.drop (K + 1)) W (by rw [List.length_drop]; omega)
      rw [hd3] at hBl
      have HBl := hideT hBl
      clear hBl hd3 hon3 hK3
      go_upto_region 11 with (go_at_call 137; (try rw [hdr3]); refine (HBl.out _).mono ?_; rintro e w3 ⟨rfl, hw⟩; rw [hw]; clear hw)
      clear hdr3 HBl hat q61 hK3I
      by_cases hqq : ∃ hk3 : K3 < S.length, Tk.isQ S[K3] = true
      · obtain ⟨hk3, hi3⟩ := hqq
        have hcc : S[K3] = 34 ∨ S[K3] = 39 := by
          unfold Tk.isQ at hi3
          simpa using hi3
        clear hi3
        rcases hcc with hc | hc
        · have hat := byte_at S K3 hk3 34 hc
          have q34 : (((34 : UInt8).toNat : Int) == 34) = true := rfl
          obtain ⟨hv1, hv2⟩ := Tk.val_q S K3 hk3 34 hc (by decide)
          have hFl := fd_le [34] (S.drop (K3 + 1))
          rw [List.length_drop] at hFl
          have hF := fun W => Rfind_any (S.drop (K3 + 1)) [34] W (by rw [List.length_drop]; omega) (by decide) (by decide)
          have hdr5 := str_from S (K3 + 1)
          have hone := str_midR S K3 (K3 + 1)
          have h1l : (S.take (K3 + 1)).drop K3 = [34] := by
            rw [List.drop_take, Nat.add_sub_cancel_left, List.drop_eq_getElem_cons hk3, hc]
            rfl
          rw [h1l] at hone
          generalize Tk.fd [34] (S.drop (K3 + 1)) = F at *
          generalize S.drop (K3 + 1) = t at *
          have hmid := str_midR S (K3 + 1) (K3 + 1 + F)
          rw [Nat.min_eq_left (by omega)] at hv2
          rw [hv1, hv2] at HX
          have hDe := fun W => RDecode_any ((S.take (K3 + 1 + F)).drop (K3 + 1)) true W (by rw [List.length_drop, List.length_take]; omega)
          generalize (S.take (K3 + 1 + F)).drop (K3 + 1) = u at *
          generalize Rf.dec true u = v at *
          have HDe := hideT hDe
          have HF := hideT hF
          have HB4 := HB2
          have HA4 := HA2
          have HR4 := HR2
          have hne17 : w.heap.size ≠ w1.heap.size := by omega
          have hmn : (K3 : Int) + (F : Int) + 2 ≤ (S.length : Int) + 1 := by omega
          clear hDe hF hv1 hv2 HB2 HA2 HR2 h1l hc
          go_upto_region 12 with fail
          have hHA : Hid (AAt W2.drew w1.heap.size (.string (str x)) (.string ByteArray.empty)) := HA4.out
          have hHR : Hid (AAt W2.drew w.heap.size (.string ByteArray.empty) (.string ByteArray.empty)) := HR4.out
          have hHB := hideT (HB4.out.drew)
          clear HA4 HR4 HB4
          generalize hW4 : W2.drew = W4 at *
          have HA4 := hHA
          have HR4 := hHR
          have HB4 := hHB
          clear hHA hHR hHB
          obtain ⟨K5, hK5⟩ : ∃ K5, K5 = K3 + 1 := ⟨_, rfl⟩
          have hw5 : IntKind.i64.wrap ((K3 : Int) + 1) = (K5 : Int) := by rw [IntKind.wrap_i64]; omega
          have hdr6 : (str S).extract K5 S.length = str t := by rw [hK5]; exact hdr5
          have hone6 : (str S).extract K3 K5 = str [34] := by rw [hK5]; exact hone
          have hK5l : K5 ≤ S.length := by omega
          have hK35 : K3 ≤ K5 := by omega
          clear hK5 hdr5 hone
          go_region_law (go_simp; refine (HF.out _).mono ?_; rintro e w4 ⟨rfl, hw⟩; rw [hw]; clear hw)
          all_goals
            clear hw5 hdr6 hone6 hK5l hK35
            have hF2 : K3 + 1 + F ≤ S.length := by omega
            clear hFl
            go_wp2_with (first
              | (go_at_call 50; (try rw [hmid]); refine (HDe.out _).mono ?_; rintro e w5 ⟨rfl, hb5⟩; have A5 := HA4.out.step hb5; have R5 := HR4.out.step hb5; have f5 := Lib.frozen_of_heap A5 1; have c5 := Lib.cell_of_heap A5 1; have A6 := hideT (A5.set1 (.string (str v))); have R6 := hideT (R5.kept (Kept.set w1.heap.size 1 w5 (.string (str v))) hne17); have B6 := hideT ((HB4.out.trans (hb5.mono HB4.out.size)).setCell (p := ⟨w1.heap.size, 1, none⟩) (Nat.le_of_lt hne1) (.string (str v))); clear hb5 A5 R5)
              | ((with_reducible show wpList _ _ _ ({ op := Op.load 67 _, .. } :: _) _ _); refine wpList_load_A _ rfl rfl w1.heap.size _ _ rfl A6.out ?_)
              | ((with_reducible show wpList _ _ _ ({ op := Op.store 67 _ _, .. } :: _) _ _); refine wpList_store_A _ _ rfl rfl w.heap.size (.string (str x)) (.string (str v)) _ _ rfl rfl R6.out rfl rfl ?_))
            refine ret_A2 rfl rfl rfl rfl (setRow_A R6.out) ?_
            unfold RAttrPost
            rw [HX.out]
            exact ⟨K3 + F + 2, (by rw [show ((K3 + F + 2 : Nat) : Int) = min ((K3 : Int) + (F : Int) + 2) ((S.length : Int) + 1) from by omega]; rfl), rfl, by omega, by omega, B6.out.trans ((kept_setRow _ _ _).below w.heap.size (Nat.le_refl _) B6.out.size)⟩
        · have hat := byte_at S K3 hk3 39 hc
          have q34 : (((39 : UInt8).toNat : Int) == 34) = false := rfl
          have q39 : (((39 : UInt8).toNat : Int) == 39) = true := rfl
          obtain ⟨hv1, hv2⟩ := Tk.val_q S K3 hk3 39 hc (by decide)
          have hFl := fd_le [39] (S.drop (K3 + 1))
          rw [List.length_drop] at hFl
          have hF := fun W => Rfind_any (S.drop (K3 + 1)) [39] W (by rw [List.length_drop]; omega) (by decide) (by decide)
          have hdr5 := str_from S (K3 + 1)
          have hone := str_midR S K3 (K3 + 1)
          have h1l : (S.take (K3 + 1)).drop K3 = [39] := by
            rw [List.drop_take, Nat.add_sub_cancel_left, List.drop_eq_getElem_cons hk3, hc]
            rfl
          rw [h1l] at hone
          generalize Tk.fd [39] (S.drop (K3 + 1)) = F at *
          generalize S.drop (K3 + 1) = t at *
          have hmid := str_midR S (K3 + 1) (K3 + 1 + F)
          rw [Nat.min_eq_left (by omega)] at hv2
          rw [hv1, hv2] at HX
          have hDe := fun W => RDecode_any ((S.take (K3 + 1 + F)).drop (K3 + 1)) true W (by rw [List.length_drop, List.length_take]; omega)
          generalize (S.take (K3 + 1 + F)).drop (K3 + 1) = u at *
          generalize Rf.dec true u = v at *
          have HDe := hideT hDe
          have HF := hideT hF
          have HB4 := HB2
          have HA4 := HA2
          have HR4 := HR2
          have hne17 : w.heap.size ≠ w1.heap.size := by omega
          have hmn : (K3 : Int) + (F : Int) + 2 ≤ (S.length : Int) + 1 := by omega
          clear hDe hF hv1 hv2 HB2 HA2 HR2 h1l hc
          go_upto_region 12 with fail
          have hHA : Hid (AAt W2.drew w1.heap.size (.string (str x)) (.string ByteArray.empty)) := HA4.out
          have hHR : Hid (AAt W2.drew w.heap.size (.string ByteArray.empty) (.string ByteArray.empty)) := HR4.out
          have hHB := hideT (HB4.out.drew)
          clear HA4 HR4 HB4
          generalize hW4 : W2.drew = W4 at *
          have HA4 := hHA
          have HR4 := hHR
          have HB4 := hHB
          clear hHA hHR hHB
          obtain ⟨K5, hK5⟩ : ∃ K5, K5 = K3 + 1 := ⟨_, rfl⟩
          have hw5 : IntKind.i64.wrap ((K3 : Int) + 1) = (K5 : Int) := by rw [IntKind.wrap_i64]; omega
          have hdr6 : (str S).extract K5 S.length = str t := by rw [hK5]; exact hdr5
          have hone6 : (str S).extract K3 K5 = str [39] := by rw [hK5]; exact hone
          have hK5l : K5 ≤ S.length := by omega
          have hK35 : K3 ≤ K5 := by omega
          clear hK5 hdr5 hone
          go_region_law (go_simp; refine (HF.out _).mono ?_; rintro e w4 ⟨rfl, hw⟩; rw [hw]; clear hw)
          all_goals
            clear hw5 hdr6 hone6 hK5l hK35
            have hF2 : K3 + 1 + F ≤ S.length := by omega
            clear hFl
            go_wp2_with (first
              | (go_at_call 50; (try rw [hmid]); refine (HDe.out _).mono ?_; rintro e w5 ⟨rfl, hb5⟩; have A5 := HA4.out.step hb5; have R5 := HR4.out.step hb5; have f5 := Lib.frozen_of_heap A5 1; have c5 := Lib.cell_of_heap A5 1; have A6 := hideT (A5.set1 (.string (str v))); have R6 := hideT (R5.kept (Kept.set w1.heap.size 1 w5 (.string (str v))) hne17); have B6 := hideT ((HB4.out.trans (hb5.mono HB4.out.size)).setCell (p := ⟨w1.heap.size, 1, none⟩) (Nat.le_of_lt hne1) (.string (str v))); clear hb5 A5 R5)
              | ((with_reducible show wpList _ _ _ ({ op := Op.load 67 _, .. } :: _) _ _); refine wpList_load_A _ rfl rfl w1.heap.size _ _ rfl A6.out ?_)
              | ((with_reducible show wpList _ _ _ ({ op := Op.store 67 _ _, .. } :: _) _ _); refine wpList_store_A _ _ rfl rfl w.heap.size (.string (str x)) (.string (str v)) _ _ rfl rfl R6.out rfl rfl ?_))
            refine ret_A2 rfl rfl rfl rfl (setRow_A R6.out) ?_
            unfold RAttrPost
            rw [HX.out]
            exact ⟨K3 + F + 2, (by rw [show ((K3 + F + 2 : Nat) : Int) = min ((K3 : Int) + (F : Int) + 2) ((S.length : Int) + 1) from by omega]; rfl), rfl, by omega, by omega, B6.out.trans ((kept_setRow _ _ _).below w.heap.size (Nat.le_refl _) B6.out.size)⟩
      · have hnq : ∀ hk3 : K3 < S.length, Tk.isQ S[K3] = false := fun h => eq_false_of_ne_true (fun e => hqq ⟨h, e⟩)
        obtain ⟨hv1, hv2⟩ := Tk.val_n S K3 hnq
        obtain ⟨K4, hK4⟩ : ∃ K4, Tk.on Tk.vn S K3 = K4 := ⟨_, rfl⟩
        have hK4l := Tk.on_le Tk.vn S K3 hK3l.2
        rw [hK4] at hK4l hv1 hv2
        rw [hv1, hv2] at HX
        have hmid := str_midR S K3 K4
        have hDe := fun W => RDecode_any ((S.take K4).drop K3) true W (by rw [List.length_drop, List.length_take]; omega)
        generalize (S.take K4).drop K3 = u at *
        generalize Rf.dec true u = v at *
        have HB4 := HB2
        have HA4 := HA2
        have HR4 := HR2
        have hne17 : w.heap.size ≠ w1.heap.size := by omega
        clear hv1 hv2 hqq HB2 HA2 HR2
        have hend : Hid True := trivial
        have HDe := hideT hDe
        clear hDe
        by_cases hk3 : K3 < S.length
        · obtain ⟨c, hc⟩ : ∃ c, S[K3] = c := ⟨_, rfl⟩
          have hat := byte_at S K3 hk3 c hc
          have hcq := hnq hk3
          rw [hc] at hcq
          unfold Tk.isQ at hcq
          rw [Bool.or_eq_false_iff] at hcq
          have q34 : ((c.toNat : Int) == 34) = false := q_no c 34 (by omega) (beq_eq_false_iff_ne.1 hcq.1)
          have q39 : ((c.toNat : Int) == 39) = false := q_no c 39 (by omega) (beq_eq_false_iff_ne.1 hcq.2)
          clear hc hcq hnq
          go_upto_block 2 with fail
          clear hat q34 q39
          generalize hW4 : W2 = W4 at *
          go_cut [1] from 122 to 140 (fun x w' => x = Value.int .i64 K4 ∧ w' = W4)
          case first =>
            go_wp2_with fail
            go_loopw [1] (fun x wr => ∃ k : Nat, x = .int .i64 k ∧ k ≤ S.length ∧ Hid (Tk.on Tk.vn S k = K4) ∧ wr = W4) (fun x _ => S.length - (intOf x).toNat)
            case atStart => exact ⟨K3, rfl, hK3l.2, hK4, rfl⟩
            case round =>
              obtain ⟨k, rfl, hk, HE, rfl⟩ := hrel
              by_cases hlt : k < S.length
              · obtain ⟨c, hc⟩ : ∃ c, S[k] = c := ⟨_, rfl⟩
                have hat := byte_at S k hlt c hc
                have hIB := RIsBlank_c c
                have HAN : Hid (Tk.vn c = (!Asc.isBlank c && c != 62)) := rfl
                have HS : Hid (Tk.vn c = false → k = K4) := fun h => by rw [← HE.out, Tk.on_here Tk.vn S k hlt (by rw [hc]; exact h)]
                have HG : Hid (Tk.vn c = true → Tk.on Tk.vn S (k + 1) = K4) := fun h => by rw [← HE.out]; exact (Tk.on_next Tk.vn S k hlt (by rw [hc]; exact h)).symm
                clear hc HE
                cases hb : Asc.isBlank c
                · rw [hb] at hIB HAN
                  by_cases h62 : c = 62
                  · have q62 : ((c.toNat : Int) != 62) = false := by rw [h62]; rfl
                    have HX := hideT (HS.out (by rw [HAN.out, h62]; rfl))
                    clear HAN HG HS h62
                    go_wp2_with (go_at_call 78; refine (hIB _).mono ?_; rintro e w1 ⟨rfl, hw⟩; rw [hw]; clear hw)
                    go_meet
                    case rel => exact ⟨by rw [HX.out], rfl⟩
                  have q62 : ((c.toNat : Int) != 62) = true := b_yes (q_no c 62 (by omega) h62)
                  have HX := hideT (HG.out (by rw [HAN.out]; simp [h62]))
                  clear HAN HG HS h62
                  go_wp2_with (go_at_call 78; refine (hIB _).mono ?_; rintro e w1 ⟨rfl, hw⟩; rw [hw]; clear hw)
                  go_roundw
                  case rel => exact ⟨k + 1, by go_num, by omega, HX.out, by trivial⟩
                  case measure => simp [intOf]; omega
                · rw [hb] at hIB HAN
                  have HX := hideT (HS.out (by rw [HAN.out]; rfl))
                  clear HAN HG HS
                  go_wp2_with (go_at_call 78; refine (hIB _).mono ?_; rintro e w1 ⟨rfl, hw⟩; rw [hw]; clear hw)
                  go_meet
                  case rel => exact ⟨by rw [HX.out], rfl⟩
              · have HX : Hid (k = K4) := by show k = K4; rw [← HE.out, Tk.on_end Tk.vn S k (by omega)]
                clear HE
                go_wp2
                go_meet
                case rel => exact ⟨by rw [HX.out], rfl⟩
          case rest =>
            obtain ⟨rfl, he⟩ := hcut
            replace he := he.symm
            subst he
            go_wp2_with (first
              | (go_at_call 50; (try rw [hmid]); refine (HDe.out _).mono ?_; rintro e w5 ⟨rfl, hb5⟩; have A5 := HA4.out.step hb5; have R5 := HR4.out.step hb5; have f5 := Lib.frozen_of_heap A5 1; have c5 := Lib.cell_of_heap A5 1; have A6 := hideT (A5.set1 (.string (str v))); have R6 := hideT (R5.kept (Kept.set w1.heap.size 1 w5 (.string (str v))) hne17); have B6 := hideT ((HB4.out.trans (hb5.mono HB4.out.size)).setCell (p := ⟨w1.heap.size, 1, none⟩) (Nat.le_of_lt hne1) (.string (str v))); clear hb5 A5 R5)
              | ((with_reducible show wpList _ _ _ ({ op := Op.load 67 _, .. } :: _) _ _); refine wpList_load_A _ rfl rfl w1.heap.size _ _ rfl A6.out ?_)
              | ((with_reducible show wpList _ _ _ ({ op := Op.store 67 _ _, .. } :: _) _ _); refine wpList_store_A _ _ rfl rfl w.heap.size (.string (str x)) (.string (str v)) _ _ rfl rfl R6.out rfl rfl ?_))
            refine ret_A2 rfl rfl rfl rfl (setRow_A R6.out) ?_
            unfold RAttrPost
            rw [HX.out]
            exact ⟨K4, rfl, rfl, by omega, by omega, B6.out.trans ((kept_setRow _ _ _).below w.heap.size (Nat.le_refl _) B6.out.size)⟩
        · clear hnq
          go_upto_block 2 with fail
          generalize hW4 : W2 = W4 at *
          go_cut [1] from 122 to 140 (fun x w' => x = Value.int .i64 K4 ∧ w' = W4)
          case first =>
            go_wp2_with fail
            go_loopw [1] (fun x wr => ∃ k : Nat, x = .int .i64 k ∧ k ≤ S.length ∧ Hid (Tk.on Tk.vn S k = K4) ∧ wr = W4) (fun x _ => S.length - (intOf x).toNat)
            case atStart => exact ⟨K3, rfl, hK3l.2, hK4, rfl⟩
            case round =>
              obtain ⟨k, rfl, hk, HE, rfl⟩ := hrel
              by_cases hlt : k < S.length
              · obtain ⟨c, hc⟩ : ∃ c, S[k] = c := ⟨_, rfl⟩
                have hat := byte_at S k hlt c hc
                have hIB := RIsBlank_c c
                have HAN : Hid (Tk.vn c = (!Asc.isBlank c && c != 62)) := rfl
                have HS : Hid (Tk.vn c = false → k = K4) := fun h => by rw [← HE.out, Tk.on_here Tk.vn S k hlt (by rw [hc]; exact h)]
                have HG : Hid (Tk.vn c = true → Tk.on Tk.vn S (k + 1) = K4) := fun h => by rw [← HE.out]; exact (Tk.on_next Tk.vn S k hlt (by rw [hc]; exact h)).symm
                clear hc HE
                cases hb : Asc.isBlank c
                · rw [hb] at hIB HAN
                  by_cases h62 : c = 62
                  · have q62 : ((c.toNat : Int) != 62) = false := by rw [h62]; rfl
                    have HX := hideT (HS.out (by rw [HAN.out, h62]; rfl))
                    clear HAN HG HS h62
                    go_wp2_with (go_at_call 78; refine (hIB _).mono ?_; rintro e w1 ⟨rfl, hw⟩; rw [hw]; clear hw)
                    go_meet
                    case rel => exact ⟨by rw [HX.out], rfl⟩
                  have q62 : ((c.toNat : Int) != 62) = true := b_yes (q_no c 62 (by omega) h62)
                  have HX := hideT (HG.out (by rw [HAN.out]; simp [h62]))
                  clear HAN HG HS h62
                  go_wp2_with (go_at_call 78; refine (hIB _).mono ?_; rintro e w1 ⟨rfl, hw⟩; rw [hw]; clear hw)
                  go_roundw
                  case rel => exact ⟨k + 1, by go_num, by omega, HX.out, by trivial⟩
                  case measure => simp [intOf]; omega
                · rw [hb] at hIB HAN
                  have HX := hideT (HS.out (by rw [HAN.out]; rfl))
                  clear HAN HG HS
                  go_wp2_with (go_at_call 78; refine (hIB _).mono ?_; rintro e w1 ⟨rfl, hw⟩; rw [hw]; clear hw)
                  go_meet
                  case rel => exact ⟨by rw [HX.out], rfl⟩
              · have HX : Hid (k = K4) := by show k = K4; rw [← HE.out, Tk.on_end Tk.vn S k (by omega)]
                clear HE
                go_wp2
                go_meet
                case rel => exact ⟨by rw [HX.out], rfl⟩
          case rest =>
            obtain ⟨rfl, he⟩ := hcut
            replace he := he.symm
            subst he
            go_wp2_with (first
              | (go_at_call 50; (try rw [hmid]); refine (HDe.out _).mono ?_; rintro e w5 ⟨rfl, hb5⟩; have A5 := HA4.out.step hb5; have R5 := HR4.out.step hb5; have f5 := Lib.frozen_of_heap A5 1; have c5 := Lib.cell_of_heap A5 1; have A6 := hideT (A5.set1 (.string (str v))); have R6 := hideT (R5.kept (Kept.set w1.heap.size 1 w5 (.string (str v))) hne17); have B6 := hideT ((HB4.out.trans (hb5.mono HB4.out.size)).setCell (p := ⟨w1.heap.size, 1, none⟩) (Nat.le_of_lt hne1) (.string (str v))); clear hb5 A5 R5)
              | ((with_reducible show wpList _ _ _ ({ op := Op.load 67 _, .. } :: _) _ _); refine wpList_load_A _ rfl rfl w1.heap.size _ _ rfl A6.out ?_)
              | ((with_reducible show wpList _ _ _ ({ op := Op.store 67 _ _, .. } :: _) _ _); refine wpList_store_A _ _ rfl rfl w.heap.size (.string (str x)) (.string (str v)) _ _ rfl rfl R6.out rfl rfl ?_))
            refine ret_A2 rfl rfl rfl rfl (setRow_A R6.out) ?_
            unfold RAttrPost
            rw [HX.out]
            exact ⟨K4, rfl, rfl, by omega, by omega, B6.out.trans ((kept_setRow _ _ _).below w.heap.size (Nat.le_refl _) B6.out.size)⟩
    · have hno : ∀ hk : K < S.length, S[K] ≠ 61 := fun h e => hq ⟨h, e⟩
      have HX := hideT (HNO.out hno)
      have HB4 := HB2
      have HA4 := HA2
      have HR4 := HR2
      clear HNO HEQ hq HB2 HA2 HR2
      by_cases hk : K < S.length
      · obtain ⟨c, hc⟩ : ∃ c, S[K] = c := ⟨_, rfl⟩
        have hat := byte_at S K hk c hc
        have hc61 := hno hk
        rw [hc] at hc61
        have q61 : ((c.toNat : Int) != 61) = true := b_yes (q_no c 61 (by omega) hc61)
        clear hc hc61 hno
        go_wp2_with (first
          | ((with_reducible show wpList _ _ _ ({ op := Op.load 67 _, .. } :: _) _ _); refine wpList_load_A _ rfl rfl w1.heap.size _ _ rfl HA4.out ?_)
          | ((with_reducible show wpList _ _ _ ({ op := Op.store 67 _ _, .. } :: _) _ _); refine wpList_store_A _ _ rfl rfl w.heap.size (.string (str x)) (.string ByteArray.empty) _ _ rfl rfl HR4.out rfl rfl ?_))
        refine ret_A2 rfl rfl rfl rfl (setRow_A HR4.out) ?_
        unfold RAttrPost
        rw [HX.out]
        exact ⟨E, rfl, rfl, by omega, by omega, HB4.out.trans ((kept_setRow _ _ _).below w.heap.size (Nat.le_refl _) HB4.out.size)⟩
      · clear hno
        go_wp2_with (first
          | ((with_reducible show wpList _ _ _ ({ op := Op.load 67 _, .. } :: _) _ _); refine wpList_load_A _ rfl rfl w1.heap.size _ _ rfl HA4.out ?_)
          | ((with_reducible show wpList _ _ _ ({ op := Op.store 67 _ _, .. } :: _) _ _); refine wpList_store_A _ _ rfl rfl w.heap.size (.string (str x)) (.string ByteArray.empty) _ _ rfl rfl HR4.out rfl rfl ?_))
        refine ret_A2 rfl rfl rfl rfl (setRow_A HR4.out) ?_
        unfold RAttrPost
        rw [HX.out]
        exact ⟨E, rfl, rfl, by omega, by omega, HB4.out.trans ((kept_setRow _ _ _).below w.heap.size (Nat.le_refl _) HB4.out.size)⟩
end Go.Proofs.YtiodaahncadodaaGreatDoor
/- The contract of the reference's tag. -/
namespace Go.Proofs.YtiodaahncadodaaGreatDoor
open Go.RowKit
/-- Where a tag ends; 0: it does not. -/
def tagN (S : List UInt8) (n : Nat) : Nat := match Tk.tag (S.drop n) with
  | none => 0
  | some x => S.length - x.2.length
def RTagPost (S : List UInt8) (n : Nat) (w : World) (e : Ending) (w' : World) : Prop :=
  ∃ ad ln cp, e = .returned (.tuple #[tokV (tagP (S.drop n)).1 (.slice ad ln cp), .int .i64 (tagN S n)]) ∧ OwnsA w' w.heap.size (.slice ad ln cp) (tagP (S.drop n)).1.attrs ∧ Below w.heap.size w w'
theorem tag_none (S : List UInt8) (n : Nat) (h : Tk.tg ((S.drop n).dropWhile Tk.tn) [] false = none) : tagP (S.drop n) = (Tk.zero, []) ∧ tagN S n = 0 := by
  unfold tagP tagN Tk.tag
  rw [h]
  exact ⟨rfl, rfl⟩
theorem tag_some (S : List UInt8) (n k : Nat) (ats : List Pr) (sl : Bool) (hk : k < S.length) (h : Tk.tg ((S.drop n).dropWhile Tk.tn) [] false = some (ats, sl, S.drop (k + 1))) : tagP (S.drop n) = (⟨1, Asc.lower ((S.drop n).takeWhile Tk.tn), ats, sl, []⟩, S.drop (k + 1)) ∧ tagN S n = k + 1 := by
  unfold tagP tagN Tk.tag
  rw [h]
  refine ⟨rfl, ?_⟩
  show S.length - (S.drop (k + 1)).length = _
  rw [List.length_drop]
  omega
theorem RAt12.set {w : World} {b : Nat} {x0 x1 x2 x3 x4 : Value} (h : RAt12 w b #[x0, x1, x2, x3, x4]) (z : Value) : RAt12 (w.setCell ⟨b, 2, none⟩ z) b #[x0, x1, z, x3, x4] := Go.Joins.block_setCell h z
theorem RAt12.set3 {w : World} {b : Nat} {x0 x1 x2 x3 x4 : Value} (h : RAt12 w b #[x0, x1, x2, x3, x4]) (z : Value) : RAt12 (w.setCell ⟨b, 3, none⟩ z) b #[x0, x1, x2, z, x4] := Go.Joins.block_setCell h z
theorem add_yes (ats : List Pr) (a : Pr) (h : Tk.has ats a.1 = false) (h2 : ats.length < 64) : Tk.add ats a = ats ++ [a] := if_pos ⟨h, h2⟩
theorem add_has (ats : List Pr) (a : Pr) (h : Tk.has ats a.1 = true) : Tk.add ats a = ats := if_neg (by rw [h]; simp)
theorem add_full (ats : List Pr) (a : Pr) (h2 : ¬ ats.length < 64) : Tk.add ats a = ats := if_neg (by omega)
abbrev kC (x : List UInt8) (v : Value) (sl : Bool) : Array Value := #[.int .i64 1, .string (str x), v, .bool sl, .string ByteArray.empty]
set_option maxHeartbeats 4000000 in
set_option maxRecDepth 100000 in
theorem Rtag_any (S : List UInt8) (n : Nat) (w : World) (hn : n ≤ S.length) (hz : S.length ≤ 1000000) :
    Calls Tryz.prog 75 #[.string (str S), .int .i64 n] w (RTagPost S n w) := by
  obtain ⟨i0, hi, hz0, hz1, hz2⟩ := info_parts infoAttr
  have hzt := (zero_of_info zeroT12).1
  have hza := (zero_of_info zeroA).1
  have hsz := str_size S
  have hb0 : Below w.heap.size w (w.alloc (.cells kCells0 48)) := (Below.refl _ w).alloc (Nat.le_refl _) _
  have ha0 : RAt12 (w.alloc (.cells kCells0 48)) w.heap.size kCells0 := heap_new w _
  obtain ⟨E, hE⟩ : ∃ E, Tk.on Tk.tn S n = E := ⟨_, rfl⟩
  have hEl := Tk.on_le Tk.tn S n hn
  rw [hE] at hEl
  have hN := Tk.on_take Tk.tn S n
  have hD := Tk.on_drop Tk.tn S n
  rw [hE] at hN hD
  go_enter Tryz.func75, Tryz.ntmps75
  go_upto_block 0 with fail
  generalize (w.alloc (.cells kCells0 48)) = W0 at *
  have HB0 := hideT hb0
  have HA0 := hideT ha0
  clear hb0 ha0
  go_cut [1] from 13 to 37 (fun x w' => x = Value.int .i64 E ∧ w' = W0)
  case first =>
    go_wp2_with fail
    go_loopw [1] (fun x wr => ∃ k : Nat, x = .int .i64 k ∧ k ≤ S.length ∧ Hid (Tk.on Tk.tn S k = E) ∧ wr = W0) (fun x _ => S.length - (intOf x).toNat)
    case atStart => exact ⟨n, rfl, hn, hE, rfl⟩
    case round =>
      obtain ⟨k, rfl, hk, HE, rfl⟩ := hrel
      by_cases hlt : k < S.length
      · obtain ⟨c, hc⟩ : ∃ c, S[k] = c := ⟨_, rfl⟩
        have hat := byte_at S k hlt c hc
        have hIB := RIsBlank_c c
        have HAN : Hid (Tk.tn c = (!Asc.isBlank c && c != 47 && c != 62)) := rfl
        have HS : Hid (Tk.tn c = false → k = E) := fun h => by rw [← HE.out, Tk.on_here Tk.tn S k hlt (by rw [hc]; exact h)]
        have HG : Hid (Tk.tn c = true → Tk.on Tk.tn S (k + 1) = E) := fun h => by rw [← HE.out]; exact (Tk.on_next Tk.tn S k hlt (by rw [hc]; exact h)).symm
        clear hc HE
        cases hb : Asc.isBlank c
        · rw [hb] at hIB HAN
          by_cases h47 : c = 47
          · have q47 : ((c.toNat : Int) != 47) = false := by rw [h47]; rfl
            have HX := hideT (HS.out (by rw [HAN.out, h47]; rfl))
            clear HAN HG HS h47
            go_wp2_with (go_at_call 78; refine (hIB _).mono ?_; rintro e w1 ⟨rfl, hw⟩; rw [hw]; clear hw)
            go_meet
            case rel => exact ⟨by rw [HX.out], rfl⟩
          have q47 : ((c.toNat : Int) != 47) = true := b_yes (q_no c 47 (by omega) h47)
          by_cases h62 : c = 62
          · have q62 : ((c.toNat : Int) != 62) = false := by rw [h62]; rfl
            have HX := hideT (HS.out (by rw [HAN.out, h62]; rfl))
            clear HAN HG HS h62 h47
            go_wp2_with (go_at_call 78; refine (hIB _).mono ?_; rintro e w1 ⟨rfl, hw⟩; rw [hw]; clear hw)
            go_meet
            case rel => exact ⟨by rw [HX.out], rfl⟩
          have q62 : ((c.toNat : Int) != 62) = true := b_yes (q_no c 62 (by omega) h62)
          have HX := hideT (HG.out (by rw [HAN.out]; simp [h47, h62]))
          clear HAN HG HS h62 h47
          go_wp2_with (go_at_call 78; refine (hIB _).mono ?_; rintro e w1 ⟨rfl, hw⟩; rw [hw]; clear hw)
          go_roundw
          case rel => exact ⟨k + 1, by go_num, by omega, HX.out, by trivial⟩
          case measure => simp [intOf]; omega
        · rw [hb] at hIB HAN
          have HX := hideT (HS.out (by rw [HAN.out]; rfl))
          clear HAN HG HS
          go_wp2_with (go_at_call 78; refine (hIB _).mono ?_; rintro e w1 ⟨rfl, hw⟩; rw [hw]; clear hw)
          go_meet
          case rel => exact ⟨by rw [HX.out], rfl⟩
      · have HX : Hid (k = E) := by show k = E; rw [← HE.out, Tk.on_end Tk.tn S k (by omega)]
        clear HE
        go_wp2
        go_meet
        case rel => exact ⟨by rw [HX.out], rfl⟩
  case rest =>
    obtain ⟨rfl, he⟩ := hcut
    replace he := he.symm
    subst he
    have hx0 := str_midR S n E
    rw [hN] at hx0
    have hxl : ((S.drop n).takeWhile Tk.tn).length ≤ 1000000 := by
      rw [← hN, List.length_drop, List.length_take]
      omega
    have HNone := hideT (tag_none S n)
    have HSome := hideT (fun k ats sl hk => tag_some S n k ats sl hk)
    rw [← hD] at HNone HSome
    generalize (S.drop n).takeWhile Tk.tn = y at *
    have hLo := RLower_any (str y) W0 (by rw [str_size]; omega)
    rw [str_data] at hLo
    generalize Asc.lower y = x at *
    have HLo := hideT hLo
    clear hLo hN hD hE
    go_upto_block 2 with (go_at_call 107; (try rw [hx0]); refine HLo.out.mono ?_; rintro e w1 ⟨rfl, hb1⟩; have hb2 : Below w1.heap.size w1 (w1.alloc (.cells (kC x (.slice none 0 0) false) 48)) := (Below.refl _ _).alloc (Nat.le_refl _) _; have HA2 : Hid (RAt12 (w1.alloc (.cells (kC x (.slice none 0 0) false) 48)) w1.heap.size (kC x (.slice none 0 0) false)) := heap_new w1 _; have HR2 := hideT (HA0.out.step (bel hb1 hb2)); have HB2 := hideT (HB0.out.trans ((bel hb1 hb2).mono HB0.out.size)); have hne1 : w.heap.size < w1.heap.size := (by have := HA0.out.lt; have := hb1.size; omega); clear hb1 hb2)
    have hsB : (w1.alloc (.cells (kC x (.slice none 0 0) false) 48)).heap.size = w1.heap.size + 1 := alloc_size12 _ _
    generalize (w1.alloc (.cells (kC x (.slice none 0 0) false) 48)) = W2 at *
    clear hx0 HLo HA0 HB0
    go_wp2_with fail
    go_loopw [1, 8] (fun p s wr => ∃ (k : Nat) (sl : Bool) (ats : List Pr) (va : Option Addr) (vc : Nat), p = .int .i64 k ∧ s = .bool sl ∧ k ≤ S.length + 1 ∧ Hid (Tk.tg (S.drop E) [] false = Tk.tg (S.drop k) ats sl) ∧ RAt12 wr w1.heap.size (kC x (.slice va ats.length vc) false) ∧ OwnsA wr (w1.heap.size + 1) (.slice va ats.length vc) ats ∧ ats.length ≤ 64 ∧ RAt12 wr w.heap.size kCells0 ∧ Below w.heap.size w wr) (fun p _ _ => S.length + 1 - (intOf p).toNat)
    case atStart => exact ⟨E, false, [], none, 0, rfl, rfl, by omega, rfl, HA2.out, OwnsPairs.nil _ _ _, Nat.zero_le _, HR2.out, HB2.out⟩
    case round =>
      obtain ⟨k, sl, ats, va, vc, rfl, rfl, hk, HE, hA, hO, hal, hR, hB⟩ := hrel
      have HA := hideT hA
      have HO := hideT hO
      have HR := hideT hR
      have HB := hideT hB
      have hs2 := hA.lt
      have hsw := hB.size
      have c2 := Lib.cell_of_heap hA 2
      have c3 := Lib.cell_of_heap hA 3
      have f3 := Lib.frozen_of_heap hA 3
      clear hA hO hR hB HA2 HR2 HB2
      by_cases hlt : k < S.length
      · obtain ⟨c, hc⟩ : ∃ c, S[k] = c := ⟨_, rfl⟩
        have hat := byte_at S k hlt c hc
        have hdk : S.drop k = c :: S.drop (k + 1) := by rw [List.drop_eq_getElem_cons hlt, hc]
        have HDK := hideT hdk
        clear hc hdk
        by_cases h62 : c = 62
        · have q62 : ((c.toNat : Int) == 62) = true := by rw [h62]; rfl
          obtain ⟨hP, hNn⟩ := HSome.out k ats sl hlt (by rw [HE.out, HDK.out, h62, Tk.tg_end])
          have A5 := hideT (HA.out.set3 (.bool sl))
          have R5 := hideT (HR.out.kept (Kept.set w1.heap.size 3 wr (.bool sl)) (by omega))
          have O5 := hideT (OwnsPairs.kept HO.out (Kept.set w1.heap.size 3 wr (.bool sl)) (Nat.lt_succ_self _))
          have B5 := hideT (HB.out.setCell (p := ⟨w1.heap.size, 3, none⟩) (Nat.le_of_lt hne1) (.bool sl))
          have HX := hideT hP
          have HY := hideT hNn
          clear hP hNn h62 HE HNone HSome
          go_wp2_with (first
            | ((with_reducible show wpList _ _ _ ({ op := Op.load 48 _, .. } :: _) _ _); refine wpList_load_R _ rfl rfl w1.heap.size _ _ _ _ _ rfl A5.out ?_)
            | ((with_reducible show wpList _ _ _ ({ op := Op.store 48 _ _, .. } :: _) _ _); refine wpList_store_R _ _ rfl rfl w.heap.size _ rfl 1 (str x) ByteArray.empty sl va ats.length vc rfl rfl R5.out ?_))
          refine ret_R2 rfl rfl rfl rfl (setRow_R R5.out) ?_
          unfold RTagPost
          rw [HX.out, HY.out]
          exact ⟨va, ats.length, vc, rfl, (OwnsPairs.kept O5.out (kept_setRow _ _ _) (by omega)).mono (by omega), B5.out.trans ((kept_setRow _ _ _).below w.heap.size (Nat.le_refl _) B5.out.size)⟩
        have q62 : ((c.toNat : Int) == 62) = false := q_no c 62 (by omega) h62
        by_cases h47 : c = 47
        · have q47 : ((c.toNat : Int) == 47) = true := by rw [h47]; rfl
          have HN : Hid (Tk.tg (S.drop E) [] false = Tk.tg (S.drop (k + 1)) ats true) := by
            show _ = _
            rw [HE.out, HDK.out, Tk.tg_gap c _ ats sl h62 (.inl h47), h47]
            rfl
          clear h47 h62 HE HNone HSome HDK
          go_wp2
          go_roundw
          case rel => exact ⟨k + 1, true, ats, va, vc, by go_num, rfl, by omega, HN.out, HA.out, HO.out, hal, HR.out, HB.out⟩
          case measure => simp [intOf]; omega
        have q47 : ((c.toNat : Int) == 47) = false := q_no c 47 (by omega) h47
        have hIB := RIsBlank_c c
        cases hbl : Asc.isBlank c
        · rw [hbl] at hIB
          have htn : Tk.tn c = true := by unfold Tk.tn; rw [hbl]; simp [h47, h62]
          have HT : Hid (Tk.tg (S.drop E) [] false = Tk.tg (Tk.attr (S.drop k)).2 (Tk.add ats (Tk.attr (S.drop k)).1) false) := by
            show _ = _
            rw [HE.out, HDK.out, Tk.tg_attr c _ ats sl htn]
          have hAt := hideT (fun W => Rattr_any S k W hlt hz)
          clear HE HDK htn h47 h62 c3 f3 hbl
          unfold RAttrPost at hAt
          generalize Tk.attr (S.drop k) = pr at *
          obtain ⟨⟨an, av⟩, rest⟩ := pr
          simp only at HT hAt
          go_wp2_with (first
            | (go_at_call 78; refine (hIB _).mono ?_; rintro e w4 ⟨rfl, hw⟩; rw [hw]; clear hw))
          go_at_call 108
          refine (hAt.out _).mono ?_
          rintro e w5 ⟨j, rfl, hj, hj1, hj2, hb5⟩
          have hb6 : Below w5.heap.size w5 (w5.alloc (.cells #[.string (str an), .string (str av)] 67)) := (Below.refl _ _).alloc (Nat.le_refl _) _
          have T6 : Hid (AAt (w5.alloc (.cells #[.string (str an), .string (str av)] 67)) w5.heap.size (.string (str an)) (.string (str av))) := heap_new w5 _
          have A6 := hideT (HA.out.step (bel hb5 hb6))
          have R6 := hideT (HR.out.step (bel hb5 hb6))
          have O6 := hideT (OwnsPairs.below HO.out (bel hb5 hb6))
          have B6 := hideT (bel HB.out (bel hb5 hb6))
          have d2 := Lib.cell_of_heap A6.out 2
          have t0 := Lib.cell_of_heap T6.out 0
          have hHas := hideT (fun W (h : W = (w5.alloc (.cells #[.string (str an), .string (str av)] 67))) => Rhas_any ats (.slice va ats.length vc) an W (by rw [h]; exact O6.out.reads) (by omega))
          have hsz5 := hb5.size
          have hsz6 := alloc_size12 w5 (.cells #[.string (str an), .string (str av)] 67)
          clear hAt hIB c2 HA HR HO HB hb5 hb6
          go_wp2_with fail
          generalize hW6 : (w5.alloc (.cells #[.string (str an), .string (str av)] 67)) = W6 at *
          have hH := hHas.out W6 rfl
          rw [hj] at HT
          have HB6 := B6.out.size
          clear hHas hj HNone HSome
          cases hhas : Tk.has ats an
          · rw [hhas] at hH
            by_cases h64 : ats.length < 64
            · have h64I : (ats.length : Int) < 64 := by omega
              rw [add_yes ats (an, av) hhas h64] at HT
              have W7b : Below W6.heap.size W6 (W6.alloc (.cells #[.string (str an), .string (str av)] 67)) := (Below.refl _ _).alloc (Nat.le_refl _) _
              have A7 := hideT (A6.out.step W7b)
              have R7 := hideT (R6.out.step W7b)
              have O7 := hideT (OwnsPairs.below O6.out W7b)
              have B7 := hideT (bel B6.out W7b)
              have hsz7 := alloc_size12 W6 (.cells #[.string (str an), .string (str av)] 67)
              have OW7 : (W6.alloc (.cells #[.string (str an), .string (str av)] 67)).ownsRow (w1.heap.size + 1) 67 2 (.slice va ats.length vc) ats.length (pairCells ats) := O7.out
              have HOW7 := hideT OW7
              clear OW7
              have hB07 : w1.heap.size + 1 ≤ (W6.alloc (.cells #[.string (str an), .string (str av)] 67)).heap.size := by omega
              clear W7b t0 hhas h64 hsz7 hsz6
              go_wp2_with (first
                | (go_at_call 109; refine hH.mono ?_; rintro e w4 ⟨rfl, hw⟩; rw [hw]; clear hw)
                | ((with_reducible show wpList _ _ _ ({ op := Op.load 67 _, .. } :: _) _ _); refine wpList_load_A _ rfl rfl w5.heap.size _ _ rfl T6.out ?_)
                | (at_builtin; refine wpList_append_own _ rfl _ _ 40 rfl (w1.heap.size + 1) 67 i0 (.agg #[.string ByteArray.empty, .string ByteArray.empty]) 2 32 Tryz.underlying40 hi hz0 hz1 hz2 rfl (by decide) _ _ _ rfl HOW7.out ⟨W6.heap.size, 0, none⟩ 1 1 [.string (str an), .string (str av)] rfl rfl (cell_two_new W6 _ _ _) (fun x hx => by simp at hx; rcases hx with rfl | rfl <;> rfl) (by unfold maxLen; omega) (by omega) hB07 ?_; intro v8 w8 hown8 hgrow8 hnil8; have hb8 : Below (w1.heap.size + 1) _ w8 := (Below.refl _ _).grown hgrow8 hB07 (fun q hq => (World.ownsRow.lt HOW7.out q hq).1); have A8 := A7.out.belowB hb8 (Nat.lt_succ_self _); have R8 := hideT (R7.out.belowB hb8 (by omega)); have B8 := hideT (B7.out.trans (hb8.mono (by omega))); have O8 : OwnsA w8 (w1.heap.size + 1) v8 (ats ++ [(an, av)]) := OwnsPairs.of (ps := ats) (p := (an, av)) rfl rfl rfl hown8; obtain ⟨va8, vc8, rfl⟩ := O8.reads.form; have c8 := Lib.cell_of_heap A8 2; have f8 := Lib.frozen_of_heap A8 2; rw [show (ats ++ [(an, av)]).length = ats.length + 1 from by simp] at O8; have HA8 := hideT A8; have HO8 := hideT O8; clear A8 O8 hown8 hgrow8 hnil8 hb8))
              go_roundw
              case rel => exact ⟨j, false, ats ++ [(an, av)], va8, vc8, rfl, rfl, hj2, HT.out, by rw [show (ats ++ [(an, av)]).length = ats.length + 1 from by simp]; exact HA8.out.set _, by rw [show (ats ++ [(an, av)]).length = ats.length + 1 from by simp]; exact OwnsPairs.kept HO8.out (Kept.set w1.heap.size 2 w8 _) (Nat.lt_succ_self _), by rw [List.length_append, List.length_singleton]; omega, R8.out.kept (Kept.set w1.heap.size 2 w8 _) (by omega), B8.out.setCell (p := ⟨w1.heap.size, 2, none⟩) (Nat.le_of_lt hne1) _⟩
              case measure => simp [intOf]; omega
            · have h64I : ¬ (ats.length : Int) < 64 := by omega
              rw [add_full ats (an, av) h64] at HT
              clear t0 hhas h64
              go_wp2_with (go_at_call 109; refine hH.mono ?_; rintro e w4 ⟨rfl, hw⟩; rw [hw]; clear hw)
              go_roundw
              case rel => exact ⟨j, false, ats, va, vc, rfl, rfl, hj2, HT.out, A6.out, O6.out, hal, R6.out, B6.out⟩
              case measure => simp [intOf]; omega
          · rw [hhas] at hH
            rw [add_has ats (an, av) hhas] at HT
            clear t0 hhas
            go_wp2_with (go_at_call 109; refine hH.mono ?_; rintro e w4 ⟨rfl, hw⟩; rw [hw]; clear hw)
            go_roundw
            case rel => exact ⟨j, false, ats, va, vc, rfl, rfl, hj2, HT.out, A6.out, O6.out, hal, R6.out, B6.out⟩
            case measure => simp [intOf]; omega
        · rw [hbl] at hIB
          have HN : Hid (Tk.tg (S.drop E) [] false = Tk.tg (S.drop (k + 1)) ats false) := by
            show _ = _
            rw [HE.out, HDK.out, Tk.tg_gap c _ ats sl h62 (.inr hbl)]
            rw [show (c == 47) = false from beq_eq_false_iff_ne.2 h47]
          clear h47 h62 HE HNone HSome HDK hbl
          go_wp2_with (go_at_call 78; refine (hIB _).mono ?_; rintro e w4 ⟨rfl, hw⟩; rw [hw]; clear hw)
          go_roundw
          case rel => exact ⟨k + 1, false, ats, va, vc, by go_num, rfl, by omega, HN.out, HA.out, HO.out, hal, HR.out, HB.out⟩
          case measure => simp [intOf]; omega
      · obtain ⟨hP, hNn⟩ := HNone.out (by rw [HE.out, List.drop_eq_nil_of_le (by omega)]; rfl)
        have HX := hideT hP
        have HY := hideT hNn
        clear hP hNn HE HNone HSome
        go_wp2_with (first
          | ((with_reducible show wpList _ _ _ ({ op := Op.store 48 _ _, .. } :: _) _ _); refine wpList_store_R _ _ rfl rfl w.heap.size _ rfl 0 ByteArray.empty ByteArray.empty false none 0 0 rfl rfl HR.out ?_))
        refine ret_R2 rfl rfl rfl rfl (setRow_R HR.out) ?_
        unfold RTagPost
        rw [HX.out, HY.out]
        exact ⟨none, 0, 0, rfl, OwnsPairs.nil _ _ _, HB.out.trans ((kept_setRow _ _ _).below w.heap.size (Nat.le_refl _) HB.out.size)⟩
end Go.Proofs.YtiodaahncadodaaGreatDoor
