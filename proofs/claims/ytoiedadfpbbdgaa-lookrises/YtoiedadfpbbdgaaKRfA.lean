/- Texts laid as one. -/
import Derived.Test.YtoiedadfpbbdgaaKGround
import Derived.Test.YtoiedadfpbbdgaaKRfM
import Derived.Test.YtoiedadfpbbdgaaKAscii
import Derived.Test.YtoiedadfpbbdgaaKShelf
/- The short names. -/
set_option linter.unusedVariables false
set_option linter.unusedSimpArgs false
namespace Go.Proofs.Ytoiedadfpbbdgaa
open Go.RowKit
theorem lit_no {l m : List UInt8} (h : ¬ l = m) : ((str l).toList == m) = false := by rw [str_list]; exact beq_eq_false_iff_ne.2 h
theorem lit_yes {l m : List UInt8} (h : l = m) : ((str l).toList == m) = true := by rw [str_list, h]; exact beq_self_eq_true m
end Go.Proofs.Ytoiedadfpbbdgaa
/- The names of marks and of wide signs. -/
set_option linter.unusedVariables false
set_option linter.unusedSimpArgs false
namespace Go.Proofs.Ytoiedadfpbbdgaa
open Go.RowKit
end Go.Proofs.Ytoiedadfpbbdgaa
/- The names of letters. -/
set_option linter.unusedVariables false
set_option linter.unusedSimpArgs false
namespace Go.Proofs.Ytoiedadfpbbdgaa
open Go.RowKit
end Go.Proofs.Ytoiedadfpbbdgaa
/- Contracts of package refs' small functions: isOfName, isHexDigit, run, decimal, hexadecimal, goesOn. -/
set_option linter.unusedVariables false
set_option linter.unusedSimpArgs false
namespace Go.Proofs.Ytoiedadfpbbdgaa
open Go.RowKit
theorem hexB_n (c : UInt8) (n : Int) (h : (c.toNat : Int) = n) : Rf.hexB c = Asc.hexOk n := by unfold Rf.hexB Asc.bt; rw [h]
theorem digB_n (c : UInt8) (n : Int) (h : (c.toNat : Int) = n) : Rf.digB c = Asc.isDig n := by unfold Rf.digB Asc.bt; rw [h]
theorem tw_stop (p : UInt8 → Bool) (l : List UInt8) (k : Nat) (h : k < l.length) (hk : (l.take k).all p = true) (hp : p l[k] = false) : (l.takeWhile p).length = k := by
  have e : l = l.take k ++ l.drop k := (List.take_append_drop k l).symm
  have hd : l.drop k = l[k] :: l.drop (k + 1) := List.drop_eq_getElem_cons h
  have h1 : l.takeWhile p = l.take k := by
    conv => lhs; rw [e]
    rw [List.takeWhile_append_of_pos (fun a ha => List.all_eq_true.1 hk a ha), hd, List.takeWhile_cons, hp]
    simp
  rw [h1, List.length_take]
  omega
theorem tw_self (p : UInt8 → Bool) : ∀ l : List UInt8, l.all p = true → l.takeWhile p = l
  | [], _ => rfl
  | c :: r, h => by
    rw [List.all_cons, Bool.and_eq_true] at h
    rw [List.takeWhile_cons, h.1, if_pos rfl, tw_self p r h.2]
theorem tw_all (p : UInt8 → Bool) (l : List UInt8) (h : l.all p = true) : (l.takeWhile p).length = l.length := by
  have e := tw_self p l h
  rw [e]
theorem take_all_step (p : UInt8 → Bool) (l : List UInt8) (k : Nat) (h : k < l.length) (hk : (l.take k).all p = true) (hp : p l[k] = true) : (l.take (k + 1)).all p = true := by
  rw [List.take_succ_eq_append_getElem h, List.all_append, hk]
  simp [hp]
theorem str_at (l : List UInt8) (k : Nat) (h : k < (str l).size) : (str l)[k] = l[k]'(by rw [← str_size]; exact h) := rfl
theorem numErr_is (l : List UInt8) (m : Int) : Asc.numErr l m = 0 ∨ Asc.numErr l m = 3 ∨ Asc.numErr l m = 5 := by
  unfold Asc.numErr
  repeat' split
  all_goals omega
theorem hexErr_is (l : List UInt8) : Asc.hexErr l = 0 ∨ Asc.hexErr l = 3 ∨ Asc.hexErr l = 5 := by
  unfold Asc.hexErr
  repeat' split
  all_goals omega
theorem numFold_bd (m : Int) : ∀ (l : List UInt8) (n x : Int), Asc.allDig l = true → 0 ≤ n → n ≤ m → Asc.numFold m n l = some x → 0 ≤ x ∧ x ≤ m
  | [], n, x, _, h0, h1, h => by
    rw [Asc.numFold] at h
    cases h
    exact ⟨h0, h1⟩
  | c :: r, n, x, ha, h0, h1, h => by
    have hc := Asc.allDig_at (c :: r) 0 (by simp) ha
    have hc' : 48 ≤ Asc.bt c ∧ Asc.bt c ≤ 57 := hc
    have hr : Asc.allDig r = true := by
      unfold Asc.allDig at *
      rw [List.all_cons, Bool.and_eq_true] at ha
      exact ha.2
    rw [Asc.numFold] at h
    split at h
    · cases h
    · exact numFold_bd m r _ x hr (by omega) (by omega) h
theorem numNum_bd (l : List UInt8) : 0 ≤ Asc.numNum l 4294967295 ∧ Asc.numNum l 4294967295 ≤ 4294967295 := by
  cases hf : Asc.digForm l
  · rw [(Asc.num_form l _ hf).1]; omega
  · cases e : Asc.numFold 4294967295 0 l with
    | none => rw [(Asc.num_many l _ hf (by omega) e).1]; omega
    | some x =>
      rw [(Asc.num_ok l _ x hf (by omega) e).1]
      exact numFold_bd _ l 0 x (Asc.digForm_all l hf) (by omega) (by omega) e
theorem HasPrefix_l (l p : List UInt8) (w : World) :
    Calls Try.prog 40 #[.string (str l), .string (str p)] w fun e w' => e = .returned (.bool (p.isPrefixOf l)) ∧ w' = w := by
  have h := Try.strings_HasPrefix (str l) (str p) w
  rw [str_data, str_data] at h
  exact h
end Go.Proofs.Ytoiedadfpbbdgaa
