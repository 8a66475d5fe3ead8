/- Texts laid as one. -/
import Derived.Test.YtiodaahncadodaaGreatDoorKTkQR
import Derived.Test.YtiodaahncadodaaGreatDoorKTkT
import Derived.Test.YtiodaahncadodaaGreatDoorKTkEG
import Derived.Deep.QuietTactic
import Derived.BigQuiet
import Derived.WalkSmall
import Derived.Deep.MidRow
/- The contract of token.All. -/
set_option linter.unusedVariables false
set_option linter.unusedSimpArgs false
namespace Go.Proofs.YtiodaahncadodaaGreatDoor
open Go.RowKit
/-- What All answers. -/
def allR (s : List UInt8) : List Tk.Tok × Nat := if 65536 < s.length ∨ 16384 < (Tk.all (Tk.clean s)).length then ([], 5) else (Tk.all (Tk.clean s), 0)
theorem clean_len3 (s : List UInt8) : (Tk.clean s).length ≤ 9 * s.length := Tk.clean_len s
theorem grown_kept {w w' : World} {r : Option Nat} (h : w.grownBy w' r) {k : Nat} {o : Obj} (hk : w.heap[k]? = some o) (hr : some k ≠ r) : w'.heap[k]? = some o := (h.block k (Array.getElem?_eq_some_iff.1 hk).1 hr).trans hk
theorem isEmpty_no {s : List UInt8} (h : s ≠ []) : ((str s).toList.isEmpty) = false := by
  rw [str_list]
  cases s with
  | nil => exact absurd rfl h
  | cons c t => rfl
end Go.Proofs.YtiodaahncadodaaGreatDoor
/- The contracts of token.Same and of the reference's Same. -/
namespace Go.Proofs.YtiodaahncadodaaGreatDoor
open Go.RowKit
/-- A token's value, of any kind. -/
abbrev tokI (k : Int) (n : List UInt8) (v : Value) (s : Bool) (x : List UInt8) : Value := .agg (kCells k n v s x)
theorem ne_of_beq {a b : Int} (h : (a == b) = false) : (a != b) = true := by unfold bne; rw [h]; rfl
theorem eq_of_beq' {a b : Int} (h : (a == b) = true) : (a != b) = false := by unfold bne; rw [h]; rfl
end Go.Proofs.YtiodaahncadodaaGreatDoor
/- The contracts of the laws' own alive and long (layer 12). -/
namespace Tk
open Asc
def aliveS : List UInt8 := [60, 80, 32, 97, 61, 49, 32, 97, 61, 50, 62, 120, 38, 108, 116, 59]
theorem dec_one (a : Bool) (c : UInt8) (h : c ≠ 38) : Rf.dec a [c] = [c] := by rw [Rf.dec_other a c [] h, Rf.dec_nil]
theorem alive_attr1 : attr [97, 61, 49, 32, 97, 61, 50, 62, 120, 38, 108, 116, 59] = (([97], [49]), [32, 97, 61, 50, 62, 120, 38, 108, 116, 59]) := by
  have e1 : eqR (attrR [97, 61, 49, 32, 97, 61, 50, 62, 120, 38, 108, 116, 59]) = some [49, 32, 97, 61, 50, 62, 120, 38, 108, 116, 59] := by decide +kernel
  unfold attr
  rw [e1]
  show ((lower (attrN _), Rf.dec true (valRaw _)), valR _) = _
  rw [show valRaw [49, 32, 97, 61, 50, 62, 120, 38, 108, 116, 59] = [49] from by decide +kernel, dec_one true 49 (by decide)]
  decide +kernel
theorem alive_attr2 : attr [97, 61, 50, 62, 120, 38, 108, 116, 59] = (([97], [50]), [62, 120, 38, 108, 116, 59]) := by
  have e1 : eqR (attrR [97, 61, 50, 62, 120, 38, 108, 116, 59]) = some [50, 62, 120, 38, 108, 116, 59] := by decide +kernel
  unfold attr
  rw [e1]
  show ((lower (attrN _), Rf.dec true (valRaw _)), valR _) = _
  rw [show valRaw [50, 62, 120, 38, 108, 116, 59] = [50] from by decide +kernel, dec_one true 50 (by decide)]
  decide +kernel
theorem alive_tag : tag [80, 32, 97, 61, 49, 32, 97, 61, 50, 62, 120, 38, 108, 116, 59] = some (⟨1, [112], [([97], [49])], false, []⟩, [120, 38, 108, 116, 59]) := by
  have ed : ([80, 32, 97, 61, 49, 32, 97, 61, 50, 62, 120, 38, 108, 116, 59] : List UInt8).dropWhile tn = [32, 97, 61, 49, 32, 97, 61, 50, 62, 120, 38, 108, 116, 59] := by decide +kernel
  have et : ([80, 32, 97, 61, 49, 32, 97, 61, 50, 62, 120, 38, 108, 116, 59] : List UInt8).takeWhile tn = [80] := by decide +kernel
  unfold tag
  rw [ed, et, tg_gap 32 _ _ _ (by decide) (.inr (by decide)), tg_attr 97 _ _ _ (by decide), alive_attr1, tg_gap 32 _ _ _ (by decide) (.inr (by decide)), tg_attr 97 _ _ _ (by decide), alive_attr2, tg_end, show add (add [] ([97], [49])) ([97], [50]) = [([97], [49])] from by decide +kernel]
  show some ((⟨1, lower [80], _, _, []⟩ : Tok), _) = _
  rw [show lower [80] = [112] from by decide +kernel]
theorem alive_text : Rf.dec false [120, 38, 108, 116, 59] = [120, 60] := by
  have e1 : Rf.next false [108, 116, 59] = (60, 3) := by decide +kernel
  rw [Rf.dec_other _ _ _ (by decide), Rf.dec_some _ _ (by rw [e1]; decide), e1]
  simp only [List.drop_succ_cons, List.drop_zero]
  rw [Rf.dec_nil]
  decide +kernel
theorem alive_all : all aliveS = [⟨1, [112], [([97], [49])], false, []⟩, ⟨3, [], [], false, [120, 60]⟩] := by
  have n1 : next aliveS = (⟨1, [112], [([97], [49])], false, []⟩, 11) := by
    unfold next aliveS
    rw [if_neg (by simp), if_neg (by decide +kernel), if_pos (by decide +kernel)]
    rw [show ([60, 80, 32, 97, 61, 49, 32, 97, 61, 50, 62, 120, 38, 108, 116, 59] : List UInt8).drop 1 = [80, 32, 97, 61, 49, 32, 97, 61, 50, 62, 120, 38, 108, 116, 59] from rfl, alive_tag]
    rfl
  have s1 : stepT aliveS = ([⟨1, [112], [([97], [49])], false, []⟩], [120, 38, 108, 116, 59]) := by
    unfold stepT
    rw [n1, if_neg (by decide)]
    rfl
  have n2 : next [120, 38, 108, 116, 59] = (⟨3, [], [], false, [120, 60]⟩, 5) := by
    unfold next
    rw [if_neg (by simp), if_pos (by decide +kernel), show upto [120, 38, 108, 116, 59] = 5 from by decide +kernel]
    show (textTok (Rf.dec false [120, 38, 108, 116, 59]), 5) = _
    rw [alive_text]
    rfl
  have s2 : stepT [120, 38, 108, 116, 59] = ([⟨3, [], [], false, [120, 60]⟩], []) := by
    unfold stepT
    rw [n2, if_neg (by decide)]
    rfl
  rw [all_go aliveS (by decide), s1]
  show _ ++ all [120, 38, 108, 116, 59] = _
  rw [all_go _ (by simp), s2]
  rfl
theorem alive_clean : clean aliveS = aliveS := by
  unfold clean
  have h := Rf.text_lows aliveS [] (by decide)
  rw [List.append_nil, Utf.isText_nil] at h
  rw [Utf.rep_self aliveS h]
  decide +kernel
end Tk
namespace Go.Proofs.YtiodaahncadodaaGreatDoor
open Go.RowKit
theorem KR.range {w : World} {B : Nat} {a : Option Addr} {n c : Nat} {ks : List Tk.Tok} (h : KR w B (.slice a n c) ks) {j : Nat} {k : Tk.Tok} (hj : ks[j]? = some k) :
    ∃ g ua ul uc, a = some ⟨g, 0, none⟩ ∧ g < w.heap.size ∧ n ≤ c ∧ w.rangeAt g (j * 5) [.int .i64 k.kind, .string (str k.name), .slice ua ul uc, .bool k.self, .string (str k.text)] ∧ OwnsA w B (.slice ua ul uc) k.attrs := by
  obtain ⟨g, u, ha, hB, hg, hc, c0, c1, c2, c3, c4, ho⟩ := h.at hj
  obtain ⟨ua, uc, rfl⟩ := ho.reads.form
  refine ⟨g, ua, _, uc, ha, hg, hc, ?_, ho⟩
  intro i v hi
  rcases i with _ | _ | _ | _ | _ | i
  · cases hi; exact c0
  · cases hi; exact c1
  · cases hi; exact c2
  · cases hi; exact c3
  · cases hi; exact c4
  · simp at hi
theorem wpList_load_Tg {ops : Array Oper} {rest : List Oper} {op : Oper} {a : Act} {w : World} {Q : Exit → Act → World → Prop} (hw : Region.wanted op (yielded ops a.tmps) = true) (x : Operand) (ho : op.op = .load 56 x)
    (b o : Nat) (hx : a.eval x = .pointer (some ⟨b, o, none⟩)) (x0 x1 x2 x3 x4 : Value) (hc : w.rangeAt b o [x0, x1, x2, x3, x4])
    (h : wpList Tryz.prog ops Q rest (a.put op.dst (.agg #[x0, x1, x2, x3, x4])) w) : wpList Tryz.prog ops Q (op :: rest) a w :=
  wpList_step fun _ hK => by
    rw [if_pos hw]
    exact wp_load_mid _ x ho b o hx [x0, x1, x2, x3, x4] _ hc Tryz.underlying56 rfl sizeK (hK _ _ h)
def longT (l : List UInt8) : Bool := decide (1500 < l.length ∧ l.length ≤ 65536)
theorem longT_yes {l : List UInt8} (h : 1500 < l.length ∧ l.length ≤ 65536) : longT l = true := decide_eq_true h
theorem longT_no {l : List UInt8} (h : ¬ (1500 < l.length ∧ l.length ≤ 65536)) : longT l = false := decide_eq_false h
end Go.Proofs.YtiodaahncadodaaGreatDoor
