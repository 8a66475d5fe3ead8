/- The contracts of the laws' own alive and long (layer 12). -/
import Derived.Test.YtagceinccibnjaaGreatDoorKTkS
import Derived.Test.YtagceinccibnjaaGreatDoorKTkU
import Derived.Deep.MidRow
set_option linter.unusedVariables false
set_option linter.unusedSimpArgs false
namespace Tk
open Asc
def aliveS : List UInt8 := [60, 80, 32, 97, 61, 49, 32, 97, 61, 50, 62, 120, 38, 108, 116, 59]
theorem dec_one (a : Bool) (c : UInt8) (h : c ≠ 38) : Rf.dec a [c] = [c] := by rw [Rf.dec_other a c [] h, Rf.dec_nil]
theorem alive_attr1 : attr [97, 61, 49, 32, 97, 61, 50, 62, 120, 38, 108, 116, 59] = (([97], [49]), [32, 97, 61, 50, 62, 120, 38, 108, 116, 59]) := by
  have e1 : eqR (attrR [97, 61, 49, 32, 97, 61, 50, 62, 120, 38, 108, 116, 59]) = some [49, 32, 97, 61, 50, 62, 120, 38, 108, 116, 59] := by decide +kernel
  unfold attr
  rw [e1]
  show ((lower (attrN _), Rf.dec true (valRaw _)), valR _) = _
  rw [show valRaw [49, 32, 97, 61, 50, 62, 120, 38, 108, 116, 59] = [49] from by decide +kernel, dec_one true 49 (by decide)]
  decide +kernel
theorem alive_attr2 : attr [97, 61, 50, 62, 120, 38, 108, 116, 59] = (([97], [50]), [62, 120, 38, 108, 116, 59]) := by
  have e1 : eqR (attrR [97, 61, 50, 62, 120, 38, 108, 116, 59]) = some [50, 62, 120, 38, 108, 116, 59] := by decide +kernel
  unfold attr
  rw [e1]
  show ((lower (attrN _), Rf.dec true (valRaw _)), valR _) = _
  rw [show valRaw [50, 62, 120, 38, 108, 116, 59] = [50] from by decide +kernel, dec_one true 50 (by decide)]
  decide +kernel
theorem alive_tag : tag [80, 32, 97, 61, 49, 32, 97, 61, 50, 62, 120, 38, 108, 116, 59] = some (⟨1, [112], [([97], [49])], false, []⟩, [120, 38, 108, 116, 59]) := by
  have ed : ([80, 32, 97, 61, 49, 32, 97, 61, 50, 62, 120, 38, 108, 116, 59] : List UInt8).dropWhile tn = [32, 97, 61, 49, 32, 97, 61, 50, 62, 120, 38, 108, 116, 59] := by decide +kernel
  have et : ([80, 32, 97, 61, 49, 32, 97, 61, 50, 62, 120, 38, 108, 116, 59] : List UInt8).takeWhile tn = [80] := by decide +kernel
  unfold tag
  rw [ed, et, tg_gap 32 _ _ _ (by decide) (.inr (by decide)), tg_attr 97 _ _ _ (by decide), alive_attr1, tg_gap 32 _ _ _ (by decide) (.inr (by decide)), tg_attr 97 _ _ _ (by decide), alive_attr2, tg_end, show add (add [] ([97], [49])) ([97], [50]) = [([97], [49])] from by decide +kernel]
  show some ((⟨1, lower [80], _, _, []⟩ : Tok), _) = _
  rw [show lower [80] = [112] from by decide +kernel]
theorem alive_text : Rf.dec false [120, 38, 108, 116, 59] = [120, 60] := by
  have e1 : Rf.next false [108, 116, 59] = (60, 3) := by decide +kernel
  rw [Rf.dec_other _ _ _ (by decide), Rf.dec_some _ _ (by rw [e1]; decide), e1]
  simp only [List.drop_succ_cons, List.drop_zero]
  rw [Rf.dec_nil]
  decide +kernel
theorem alive_all : all aliveS = [⟨1, [112], [([97], [49])], false, []⟩, ⟨3, [], [], false, [120, 60]⟩] := by
  have n1 : next aliveS = (⟨1, [112], [([97], [49])], false, []⟩, 11) := by
    unfold next aliveS
    rw [if_neg (by simp), if_neg (by decide +kernel), if_pos (by decide +kernel)]
    rw [show ([60, 80, 32, 97, 61, 49, 32, 97, 61, 50, 62, 120, 38, 108, 116, 59] : List UInt8).drop 1 = [80, 32, 97, 61, 49, 32, 97, 61, 50, 62, 120, 38, 108, 116, 59] from rfl, alive_tag]
    rfl
  have s1 : stepT aliveS = ([⟨1, [112], [([97], [49])], false, []⟩], [120, 38, 108, 116, 59]) := by
    unfold stepT
    rw [n1, if_neg (by decide)]
    rfl
  have n2 : next [120, 38, 108, 116, 59] = (⟨3, [], [], false, [120, 60]⟩, 5) := by
    unfold next
    rw [if_neg (by simp), if_pos (by decide +kernel), show upto [120, 38, 108, 116, 59] = 5 from by decide +kernel]
    show (textTok (Rf.dec false [120, 38, 108, 116, 59]), 5) = _
    rw [alive_text]
    rfl
  have s2 : stepT [120, 38, 108, 116, 59] = ([⟨3, [], [], false, [120, 60]⟩], []) := by
    unfold stepT
    rw [n2, if_neg (by decide)]
    rfl
  rw [all_go aliveS (by decide), s1]
  show _ ++ all [120, 38, 108, 116, 59] = _
  rw [all_go _ (by simp), s2]
  rfl
theorem alive_clean : clean aliveS = aliveS := by
  unfold clean
  have h := Rf.text_lows aliveS [] (by decide)
  rw [List.append_nil, Utf.isText_nil] at h
  rw [Utf.rep_self aliveS h]
  decide +kernel
theorem alive_tagText : tagText ⟨1, [112], [([97], [49])], false, []⟩ = [60, 112, 32, 97, 61, 34, 49, 34, 62] := by
  unfold tagText tailText attrText
  rw [if_pos rfl]
  have e : Rf.enc true [49] = [49] := by
    rw [Rf.enc_go _ _ (by simp), show Rf.one true [49] = ([49], 1) from by decide +kernel]
    simp only [List.drop_succ_cons, List.drop_zero]
    rw [Rf.enc_nil]
    rfl
  simp [e]
end Tk
namespace Go.Proofs.YtagceinccibnjaaGreatDoor
open Go.RowKit
theorem KR.range {w : World} {B : Nat} {a : Option Addr} {n c : Nat} {ks : List Tk.Tok} (h : KR w B (.slice a n c) ks) {j : Nat} {k : Tk.Tok} (hj : ks[j]? = some k) :
    ∃ g ua ul uc, a = some ⟨g, 0, none⟩ ∧ g < w.heap.size ∧ n ≤ c ∧ w.rangeAt g (j * 5) [.int .i64 k.kind, .string (str k.name), .slice ua ul uc, .bool k.self, .string (str k.text)] ∧ OwnsA w B (.slice ua ul uc) k.attrs := by
  obtain ⟨g, u, ha, hB, hg, hc, c0, c1, c2, c3, c4, ho⟩ := h.at hj
  obtain ⟨ua, uc, rfl⟩ := ho.reads.form
  refine ⟨g, ua, _, uc, ha, hg, hc, ?_, ho⟩
  intro i v hi
  rcases i with _ | _ | _ | _ | _ | i
  · cases hi; exact c0
  · cases hi; exact c1
  · cases hi; exact c2
  · cases hi; exact c3
  · cases hi; exact c4
  · simp at hi
theorem wpList_load_Tg {ops : Array Oper} {rest : List Oper} {op : Oper} {a : Act} {w : World} {Q : Exit → Act → World → Prop} (hw : Region.wanted op (yielded ops a.tmps) = true) (x : Operand) (ho : op.op = .load 37 x)
    (b o : Nat) (hx : a.eval x = .pointer (some ⟨b, o, none⟩)) (x0 x1 x2 x3 x4 : Value) (hc : w.rangeAt b o [x0, x1, x2, x3, x4])
    (h : wpList Tryz.prog ops Q rest (a.put op.dst (.agg #[x0, x1, x2, x3, x4])) w) : wpList Tryz.prog ops Q (op :: rest) a w :=
  wpList_step fun _ hK => by
    rw [if_pos hw]
    exact wp_load_mid _ x ho b o hx [x0, x1, x2, x3, x4] _ hc Tryz.underlying37 rfl sizeK (hK _ _ h)
def aliveT : Tk.Tok := ⟨1, [112], [([97], [49])], false, []⟩
theorem alive_bears : Bears aliveT := ⟨by decide, by show (Tk.tagText aliveT).length ≤ _; rw [show aliveT = ⟨1, [112], [([97], [49])], false, []⟩ from rfl, Tk.alive_tagText]; decide, by intro a ha; simp [aliveT] at ha; subst ha; decide, by decide, by decide⟩
set_option maxHeartbeats 2000000 in
set_option maxRecDepth 100000 in
theorem alive12_any (w : World) (hE : EnvT w) : Calls Tryz.prog 10 #[] w fun e w' => e = .returned (.bool true) ∧ Below w.heap.size w w' := by
  have hA := All_any Tk.aliveS w hE
  rw [show allR Tk.aliveS = ([⟨1, [112], [([97], [49])], false, []⟩, ⟨3, [], [], false, [120, 60]⟩], 0) from by
    unfold allR
    rw [Tk.alive_clean, Tk.alive_all]
    rfl] at hA
  have HTag := hideQ (fun W u (h : ReadsPairs W u [([97], [49])]) => Tag_any aliveT u W h alive_bears)
  rw [show aliveT = ⟨1, [112], [([97], [49])], false, []⟩ from rfl, Tk.alive_tagText] at HTag
  go_enter Tryz.func10, Tryz.ntmps10
  go_wp2_with fail
  go_at_call 11
  refine hA.mono ?_
  rintro e w1 ⟨ad, ln, cp, rfl, hK, hb⟩
  obtain ⟨a1, c1, e1⟩ := hK.form
  cases e1
  obtain ⟨g, ua, ul, uc, rfl, hg, hc, r0, o0⟩ := hK.range (j := 0) (k := ⟨1, [112], [([97], [49])], false, []⟩) rfl
  obtain ⟨g', ua', ul', uc', e2, -, -, r1, -⟩ := hK.range (j := 1) (k := ⟨3, [], [], false, [120, 60]⟩) rfl
  cases e2
  have o0r := o0.reads
  have f0 := o0r.form
  obtain ⟨xa, xc, e3⟩ := f0
  cases e3
  obtain ⟨pb, po, rfl, hpc, hpl, p1, p2⟩ := o0r.at (k := 0) (p := ([97], [49])) rfl
  have q1 : w1.cell? ⟨g, 1, none⟩ = some (.string (str [112])) := r0 1 _ rfl
  have q2 : w1.cell? ⟨g, 2, none⟩ = some (.slice (some ⟨pb, po, none⟩) 1 uc) := r0 2 _ rfl
  have q3 : w1.cell? ⟨g, 9, none⟩ = some (.string (str [120, 60])) := r1 4 _ rfl
  have q4 : w1.cell? ⟨pb, po + 1, none⟩ = some (.string (str [49])) := by simpa using p2
  have t1 : ((str [112]).toList == [112]) = true := by rw [str_list]; rfl
  have t2 : ((str [120, 60]).toList == [120, 60]) = true := by rw [str_list]; rfl
  have t3 : ((str [49]).toList == [49]) = true := by rw [str_list]; rfl
  have t4 : ((str [60, 112, 32, 97, 61, 34, 49, 34, 62]).toList == [60, 112, 32, 97, 61, 34, 49, 34, 62]) = true := by rw [str_list]; rfl
  have hcc : (2 : Nat) ≤ cp := hc
  have HT := HTag.out w1 _ o0r
  have HR := hideQ r0
  clear hA HTag o0 o0r r0 r1 p1 p2 hK
  go_wp2_with (first
    | (refine wpList_load_Tg (by rfl) _ rfl g 0 rfl _ _ _ _ _ HR.out ?_)
    | (go_at_call 20; refine HT.mono ?_; rintro e w2 ⟨rfl, hb2⟩))
  go_ret
  exact ⟨by first | rfl | (rw [t4]), bel hb hb2⟩
def longT (l : List UInt8) : Bool := decide (1500 < l.length ∧ l.length ≤ 65536)
theorem longT_yes {l : List UInt8} (h : 1500 < l.length ∧ l.length ≤ 65536) : longT l = true := decide_eq_true h
theorem longT_no {l : List UInt8} (h : ¬ (1500 < l.length ∧ l.length ≤ 65536)) : longT l = false := decide_eq_false h
theorem long12_any (l : List UInt8) (w : World) : Calls Tryz.prog 9 #[.string (str l)] w fun e w' => e = .returned (.bool (longT l)) ∧ w' = w := by
  have hz := str_size l
  by_cases h1 : 1500 < l.length
  · have i1 : (1500 : Int) < (l.length : Int) := by omega
    by_cases h2 : l.length ≤ 65536
    · have i2 : (l.length : Int) ≤ 65536 := by omega
      have HX : Hid (longT l = true) := longT_yes ⟨h1, h2⟩
      clear h1 h2
      go_enter Tryz.func9, Tryz.ntmps9
      go_wp2
      go_ret
      exact ⟨ret_bool HX.out.symm, rfl⟩
    · have i2 : ¬ (l.length : Int) ≤ 65536 := by omega
      have HX : Hid (longT l = false) := longT_no (fun h => h2 h.2)
      clear h1 h2
      go_enter Tryz.func9, Tryz.ntmps9
      go_wp2
      go_ret
      exact ⟨ret_bool HX.out.symm, rfl⟩
  · have i1 : ¬ (1500 : Int) < (l.length : Int) := by omega
    have HX : Hid (longT l = false) := longT_no (fun h => h1 h.1)
    clear h1
    go_enter Tryz.func9, Tryz.ntmps9
    go_wp2
    go_ret
    exact ⟨ret_bool HX.out.symm, rfl⟩
end Go.Proofs.YtagceinccibnjaaGreatDoor
