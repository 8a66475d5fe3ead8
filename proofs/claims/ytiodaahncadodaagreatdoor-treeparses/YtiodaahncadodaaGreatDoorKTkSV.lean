/- Texts laid as one. -/
import Derived.Test.YtiodaahncadodaaGreatDoorKTkQR
import Derived.Test.YtiodaahncadodaaGreatDoorKRfLT
import Derived.Test.YtiodaahncadodaaGreatDoorKTkEG
import Derived.Deep.QuietTactic
import Derived.BigQuiet
import Derived.WalkSmall
import Derived.Deep.MidRow
set_option linter.unusedVariables false
set_option linter.unusedSimpArgs false
namespace Go.Proofs.YtiodaahncadodaaGreatDoor
open Go.RowKit
def zb5 (s : List UInt8) : List Tk.Tok × Nat:=if 65536 < s.length ∨ 16384 < (Tk.all (Tk.zgn s)).length then ([],5) else (Tk.all (Tk.zgn s),0)
theorem zeF (s : List UInt8) : (Tk.zgn s).length ≤ 9 * s.length:=Tk.clean_len s
theorem zbl {w w' : World} {r : Option Nat} (h : w.grownBy w' r) {k : Nat} {o : Obj} (hk : w.heap[k]? = some o) (hr : some k ≠ r) : w'.heap[k]? = some o:=(h.block k (Array.getElem?_eq_some_iff.1 hk).1 hr).trans hk
theorem zlN {s : List UInt8} (h : s ≠ []) : ((str s).toList.isEmpty) = false:=by
 rw [zaE]
 cases s with
 | nil=>exact absurd rfl h
 | cons c t=>rfl
abbrev zsd (k : Int) (n : List UInt8) (v : Value) (s : Bool) (x : List UInt8) : Value:=.agg (zak k n v s x)
def zjS (k1 k2 : Int) (n1 n2 : List UInt8) (p1 p2 : List Pr) (s1 s2 : Bool) (x1 x2 : List UInt8) : Bool:=(k1 == k2) && ((n1 == n2) && ((decide (p1 = p2)) && ((s1 == s2) && (x1 == x2))))
theorem zed {a b : Int} (h : (a == b) = false) : (a != b) = true:=by unfold bne;rw [h];rfl
theorem zdk {a b : Int} (h : (a == b) = true) : (a != b) = false:=by unfold bne;rw [h];rfl
end Go.Proofs.YtiodaahncadodaaGreatDoor
namespace Tk
open Asc
def aliveS : List UInt8:=[60,80,32,97,61,49,32,97,61,50,62,120,38,108,116,59]
theorem znZ (a : Bool) (c : UInt8) (h : c ≠ 38) : Rf.dec a [c] = [c]:=by rw [Rf.zfx a c [] h,Rf.zju]
theorem zjT : zet [97,61,49,32,97,61,50,62,120,38,108,116,59] = (([97],[49]),[32,97,61,50,62,120,38,108,116,59]):=by
 have e1 : eqR (zd0 [97,61,49,32,97,61,50,62,120,38,108,116,59]) = some [49,32,97,61,50,62,120,38,108,116,59]:=by decide +kernel
 unfold zet
 rw [e1]
 show ((zbJ (zey _),Rf.dec true (zcs _)),zkB _) = _
 rw [show zcs [49,32,97,61,50,62,120,38,108,116,59] = [49] from by decide +kernel,znZ true 49 (by decide)]
 decide +kernel
theorem zjU : zet [97,61,50,62,120,38,108,116,59] = (([97],[50]),[62,120,38,108,116,59]):=by
 have e1 : eqR (zd0 [97,61,50,62,120,38,108,116,59]) = some [50,62,120,38,108,116,59]:=by decide +kernel
 unfold zet
 rw [e1]
 show ((zbJ (zey _),Rf.dec true (zcs _)),zkB _) = _
 rw [show zcs [50,62,120,38,108,116,59] = [50] from by decide +kernel,znZ true 50 (by decide)]
 decide +kernel
theorem zn0 : tag [80,32,97,61,49,32,97,61,50,62,120,38,108,116,59] = some (⟨1,[112],[([97],[49])],false,[]⟩,[120,38,108,116,59]):=by
 have ed : ([80,32,97,61,49,32,97,61,50,62,120,38,108,116,59] : List UInt8).dropWhile tn = [32,97,61,49,32,97,61,50,62,120,38,108,116,59]:=by decide +kernel
 have et : ([80,32,97,61,49,32,97,61,50,62,120,38,108,116,59] : List UInt8).takeWhile tn = [80]:=by decide +kernel
 unfold tag
 rw [ed,et,zkC 32 _ _ _ (by decide) (.inr (by decide)),zjy 97 _ _ _ (by decide),zjT,zkC 32 _ _ _ (by decide) (.inr (by decide)),zjy 97 _ _ _ (by decide),zjU,tg_end,show add (add [] ([97],[49])) ([97],[50]) = [([97],[49])] from by decide +kernel]
 show some ((⟨1,zbJ [80],_,_,[]⟩ : Tok),_) = _
 rw [show zbJ [80] = [112] from by decide +kernel]
theorem zeG : Rf.dec false [120,38,108,116,59] = [120,60]:=by
 have e1 : Rf.next false [108,116,59] = (60,3):=by decide +kernel
 rw [Rf.zfx _ _ _ (by decide),Rf.zfe _ _ (by rw [e1];decide),e1]
 simp only [List.drop_succ_cons,List.drop_zero]
 rw [Rf.zju]
 decide +kernel
theorem zn1 : all aliveS = [⟨1,[112],[([97],[49])],false,[]⟩,⟨3,[],[],false,[120,60]⟩]:=by
 have n1 : next aliveS = (⟨1,[112],[([97],[49])],false,[]⟩,11):=by
  unfold next aliveS
  rw [if_neg (by simp),if_neg (by decide +kernel),if_pos (by decide +kernel)]
  rw [show ([60,80,32,97,61,49,32,97,61,50,62,120,38,108,116,59] : List UInt8).drop 1 = [80,32,97,61,49,32,97,61,50,62,120,38,108,116,59] from rfl,zn0]
  rfl
 have s1 : zbK aliveS = ([⟨1,[112],[([97],[49])],false,[]⟩],[120,38,108,116,59]):=by
  unfold zbK
  rw [n1,if_neg (by decide)]
  rfl
 have n2 : next [120,38,108,116,59] = (⟨3,[],[],false,[120,60]⟩,5):=by
  unfold next
  rw [if_neg (by simp),if_pos (by decide +kernel),show zhp [120,38,108,116,59] = 5 from by decide +kernel]
  show (zb2 (Rf.dec false [120,38,108,116,59]),5) = _
  rw [zeG]
  rfl
 have s2 : zbK [120,38,108,116,59] = ([⟨3,[],[],false,[120,60]⟩],[]):=by
  unfold zbK
  rw [n2,if_neg (by decide)]
  rfl
 rw [zdz aliveS (by decide),s1]
 show _ ++ all [120,38,108,116,59] = _
 rw [zdz _ (by simp),s2]
 rfl
theorem zjV : zgn aliveS = aliveS:=by
 unfold zgn
 have h:=Rf.zmK aliveS [] (by decide)
 rw [List.append_nil,Utf.isText_nil] at h
 rw [Utf.rep_self aliveS h]
 decide +kernel
end Tk
namespace Go.Proofs.YtiodaahncadodaaGreatDoor
open Go.RowKit
theorem KR.range {w : World} {B : Nat} {a : Option Addr} {n c : Nat} {ks : List Tk.Tok} (h : KR w B (.slice a n c) ks) {j : Nat} {k : Tk.Tok} (hj : ks[j]? = some k) :
  ∃ g ua ul uc,a = some ⟨g,0,none⟩ ∧ g < w.heap.size ∧ n ≤ c ∧ w.rangeAt g (j * 5) [.int .i64 k.kind,.string (str k.name),.slice ua ul uc,.bool k.self,.string (str k.text)] ∧ zaN w B (.slice ua ul uc) k.attrs:=by
 obtain ⟨g,u,ha,hB,hg,hc,c0,c1,c2,c3,c4,ho⟩:=h.at hj
 obtain ⟨ua,uc,rfl⟩:=ho.reads.form
 refine ⟨g,ua,_,uc,ha,hg,hc,?_,ho⟩
 intro i v hi
 rcases i with _ | _ | _ | _ | _ | i
 ·cases hi;exact c0
 ·cases hi;exact c1
 ·cases hi;exact c2
 ·cases hi;exact c3
 ·cases hi;exact c4
 ·simp at hi
theorem zdC {ops : Array Oper} {rest : List Oper} {op : Oper} {a : Act} {w : World} {Q : Exit → Act → World → Prop} (hw : Region.wanted op (yielded ops a.tmps) = true) (x : Operand) (ho : op.op = .load 56 x)
  (b o : Nat) (hx : a.eval x = .pointer (some ⟨b,o,none⟩)) (x0 x1 x2 x3 x4 : Value) (hc : w.rangeAt b o [x0,x1,x2,x3,x4])
  (h : wpList Tryz.prog ops Q rest (a.put op.dst (.agg #[x0,x1,x2,x3,x4])) w) : wpList Tryz.prog ops Q (op :: rest) a w :=
 wpList_step fun _ hK=>by
  rw [if_pos hw]
  exact wp_load_mid _ x ho b o hx [x0,x1,x2,x3,x4] _ hc Tryz.underlying56 rfl zr0 (hK _ _ h)
def zjW (l : List UInt8) : Bool:=decide (1500 < l.length ∧ l.length ≤ 65536)
theorem zn2 {l : List UInt8} (h : 1500 < l.length ∧ l.length ≤ 65536) : zjW l = true:=decide_eq_true h
theorem zkP {l : List UInt8} (h : ¬ (1500 < l.length ∧ l.length ≤ 65536)) : zjW l = false:=decide_eq_false h
end Go.Proofs.YtiodaahncadodaaGreatDoor
