/- Texts laid as one. -/
import Derived.Test.YtiodaahncadodaaGreatDoorKTkQR
import Derived.Test.YtiodaahncadodaaGreatDoorKRfLT
import Derived.Test.YtiodaahncadodaaGreatDoorKTkEG
import Derived.Deep.QuietTactic
import Derived.BigQuiet
import Derived.WalkSmall
import Derived.Deep.MidRow
/- The contract of token.All. -/
set_option linter.unusedVariables false
set_option linter.unusedSimpArgs false
namespace Go.Proofs.YtiodaahncadodaaGreatDoor
open Go.RowKit
/-- What All answers. -/
def allR (s : List UInt8) : List Tk.Tok × Nat := if 65536 < s.length ∨ 16384 < (Tk.all (Tk.clean s)).length then ([], 5) else (Tk.all (Tk.clean s), 0)
def AllPost (w : World) (x : List Tk.Tok × Nat) (e : Ending) (w' : World) : Prop :=
  ∃ ad ln cp, e = .returned (.tuple #[.slice ad ln cp, .int .i64 x.2]) ∧ KR w' w.heap.size (.slice ad ln cp) x.1 ∧ Below w.heap.size w w'
theorem clean_len3 (s : List UInt8) : (Tk.clean s).length ≤ 9 * s.length := Tk.clean_len s
theorem grown_kept {w w' : World} {r : Option Nat} (h : w.grownBy w' r) {k : Nat} {o : Obj} (hk : w.heap[k]? = some o) (hr : some k ≠ r) : w'.heap[k]? = some o := (h.block k (Array.getElem?_eq_some_iff.1 hk).1 hr).trans hk
theorem isEmpty_no {s : List UInt8} (h : s ≠ []) : ((str s).toList.isEmpty) = false := by
  rw [str_list]
  cases s with
  | nil => exact absurd rfl h
  | cons c t => rfl
set_option maxHeartbeats 2000000 in
set_option maxRecDepth 100000 in
theorem All_any (s : List UInt8) (w : World) (hE : EnvT w) :
    Calls Tryz.prog 23 #[.string (str s)] w (AllPost w (allR s)) := by
  have hsz := str_size s
  have hlt0 := hE.lt
  by_cases hs : 65536 < s.length
  · have HX : Hid (allR s = ([], 5)) := if_pos (.inl hs)
    have hgt : (65536 : Int) < (s.length : Int) := by omega
    go_enter Tryz.func23, Tryz.ntmps23
    go_wp2
    go_ret2
    unfold AllPost
    rw [HX.out]
    exact ⟨none, 0, 0, rfl, KR.nil _ _, Below.refl _ _⟩
  · have HX : Hid (allR s = if 16384 < (Tk.all (Tk.clean s)).length then ([], 5) else (Tk.all (Tk.clean s), 0)) := by
      show allR s = _
      unfold allR
      simp [hs]
    have hC := Clean_any s w hE (by omega)
    have hcl := clean_len3 s
    have hle : (s.length : Int) ≤ 65536 := by omega
    have hc1 : (Tk.clean s).length ≤ 1000000 := by omega
    generalize Tk.clean s = c at *
    clear hs hcl
    go_enter Tryz.func23, Tryz.ntmps23
    go_wp2_with fail
    go_at_call 51
    refine hC.mono ?_
    rintro e w1 ⟨rfl, hb1⟩
    have hb2 : Below w1.heap.size w1 (w1.alloc (.cells #[.string (str c), .string ByteArray.empty] 96)) := (Below.refl _ _).alloc (Nat.le_refl _) _
    have hs1 := hb1.size
    have ht : Tr w1.heap.size c [] (w1.alloc (.cells #[.string (str c), .string ByteArray.empty] 96)) := ⟨heap_new w1 _, hc1, by omega, by omega, (hE.below hb1).below hb2⟩
    have hB0 := hb1.trans (hb2.mono hs1)
    have hzr := (zero_of_info zeroR12).1
    clear hC hb1 hb2
    go_wp2_with fail
    generalize (w1.alloc (.cells #[.string (str c), .string ByteArray.empty] 96)) = W at *
    generalize hbg : w1.heap.size = b at *
    go_loopw [4] (fun x wr => ∃ (ks : List Tk.Tok) (l a : List UInt8) (xv : Value), x = xv ∧ Hid (Tk.all c = ks ++ restT a l) ∧ Tr b l a wr ∧ RawA a ∧ ks.length ≤ 16384 ∧ KR wr (b + 1) xv ks ∧ Below w.heap.size w wr) (fun _ wr => leftT b wr)
    case atStart => exact ⟨[], c, [], _, rfl, (rfl : Tk.all c = [] ++ restT [] c), ht, .inl rfl, Nat.zero_le _, KR.nil _ _, hB0⟩
    case round =>
      obtain ⟨ks, l, a, xv, rfl, HA, h, ha, hkl, hK, hB⟩ := hrel
      have HK := hideQ hK
      have HB := hideQ hB
      have hbl := h.lt
      have c0 := h.c0
      obtain ⟨xa, xc, rfl⟩ := hK.form
      clear hK hB
      by_cases hl : l = []
      · subst hl
        have HE : Hid (allR s = (ks, 0)) := by
          show allR s = _
          rw [HX.out, HA.out, rest_nil, List.append_nil, if_neg (by omega)]
        have hne : ((str ([] : List UInt8)).toList.isEmpty) = true := by rw [str_list]; rfl
        clear HX HA
        go_wp2
        go_ret2
        unfold AllPost
        rw [HE.out]
        exact ⟨_, _, _, rfl, HK.out.mono (by omega), HB.out⟩
      · have hne := isEmpty_no hl
        have hN := nextT_any h hl ha
        have hgo := rest_go a l hl
        have hra := nextA_raw a l
        have hln := nextP_len a l hl
        have HG := hideQ hgo
        have hleft := h.left
        generalize nextP a l = q at *
        generalize nextA a l = a2 at *
        obtain ⟨⟨kk, kn, ka, ksf, kx⟩, r⟩ := q
        clear hgo
        have HH := hideQ h
        go_wp2_with fail
        go_at_call 52
        refine hN.mono ?_
        rintro e w2 ⟨ad, ln, cp, rfl, o2, h2, k2⟩
        simp only at o2 h2 hln
        have hs2 := k2.size
        have hK2 := HK.out.kept k2 (Nat.lt_succ_self _)
        have hB2 : Below w.heap.size w w2 := HB.out.trans (k2.below _ (by omega) HB.out.size)
        have hb3 : Below w2.heap.size w2 (w2.alloc (.cells (kCells kk kn (.slice ad ln cp) ksf kx) 56)) := (Below.refl _ _).alloc (Nat.le_refl _) _
        have t3 : KAt (w2.alloc (.cells (kCells kk kn (.slice ad ln cp) ksf kx) 56)) w2.heap.size (kCells kk kn (.slice ad ln cp) ksf kx) := heap_new w2 _
        have h3 := h2.step hb3
        have K3 := hideQ (hK2.below hb3)
        have o3 := OwnsPairs.below o2 hb3
        have B3 := hideQ (hB2.trans (hb3.mono (by have := hB2.size; omega)))
        have hs3 := hb3.size
        have hap : ApK (.slice ad ln cp) (.slice xa ks.length xc) := fun k e1 e2 => by
          have q1 := (World.ownsRow.lt o2 k e1).1
          have q2 := (HK.out.at_base e2).2
          omega
        have cc0 := Lib.cell_of_heap t3 0
        clear hN h c0 HH HK HB k2 hK2 hB2 hb3 o2 h2
        have H3 := hideQ h3
        have T3 := hideQ t3
        have O3 := hideQ o3
        have hk3 := hap
        clear h3 t3 o3 hap
        by_cases h0 : kk = 0
        · subst h0
          have HE : Hid (allR s = (ks, 0)) := by
            show allR s = _
            rw [HX.out, HA.out, HG.out.1 rfl, List.append_nil, if_neg (by omega)]
          clear HX HA HG
          go_wp2
          go_ret2
          unfold AllPost
          rw [HE.out]
          exact ⟨_, _, _, rfl, K3.out.mono (by omega), B3.out⟩
        · have n0 : ((kk : Int) == 0) = false := kind_no h0
          have HG2 := hideQ (HG.out.2 h0)
          clear HG h0
          by_cases h64 : ks.length = 16384
          · have q64 : ((ks.length : Int) == 16384) = true := by rw [h64]; rfl
            have HE : Hid (allR s = ([], 5)) := by
              show allR s = _
              rw [HX.out, HA.out, HG2.out, if_pos (by rw [List.length_append, List.length_cons]; omega)]
            clear HX HA HG2 h64
            go_wp2
            go_ret2
            unfold AllPost
            rw [HE.out]
            exact ⟨none, 0, 0, rfl, KR.nil _ _, B3.out⟩
          · have q64 : ((ks.length : Int) == 16384) = false := by rw [beq_eq_false_iff_ne]; omega
            have hkl2 : ks.length + 1 ≤ 16384 := by omega
            have HA2 : Hid (Tk.all c = (ks ++ [(⟨kk, kn, ka, ksf, kx⟩ : Tk.Tok)]) ++ restT a2 r) := by
              show Tk.all c = _
              rw [HA.out, HG2.out, List.append_assoc]
              rfl
            clear h64 HA HG2
            generalize hW5 : (w2.alloc (.cells (kCells kk kn (.slice ad ln cp) ksf kx) 56)) = W5 at *
            have hb6 : Below W5.heap.size W5 (W5.alloc (.cells (kCells kk kn (.slice ad ln cp) ksf kx) 56)) := (Below.refl _ _).alloc (Nat.le_refl _) _
            have K6 := K3.out.below hb6
            have O6 := (OwnsPairs.below O3.out hb6)
            have T6 := H3.out.step hb6
            have B6 := hideQ (B3.out.trans (hb6.mono B3.out.size))
            have hx6 := cell_five_new W5 (.int .i64 kk) (.string (str kn)) (.slice ad ln cp) (.bool ksf) (.string (str kx)) 56
            have t3 := T3.out
            have hbw6 := T6.lt
            have hs6 := hb6.size
            have hs5 := B3.out.size
            have hs36 := hs3
            clear hb6
            have O7 := hideQ (OwnsPairs.mono (B := b + 1) O6 hbl)
            have hB7 := hideQ (Nat.succ_le_of_lt hbw6)
            have hl7 : ks.length ≤ 10000000 := by omega
            go_wp2_with (first
              | (refine wpList_load_K _ rfl rfl w2.heap.size _ _ _ _ _ rfl t3 ?_)
              | (at_builtin; refine wpList_append_tok rfl (.tmp 25) (.tmp 27) rfl (b + 1) (.slice xa ks.length xc) ks rfl K6 ⟨W5.heap.size, 0, none⟩ 1 rfl ⟨kk, kn, ka, ksf, kx⟩ (.slice ad ln cp) hx6 O7.out hk3 hl7 hB7.out ?_; intro v7 w7 K7 g7))
            have hb7 : Below (b + 1) _ w7 := (Below.refl _ _).grown g7 hB7.out (fun q hq => (K6.at_base hq).1)
            have T7 := T6.belowB hb7 (Nat.lt_succ_self b)
            have B7 := B6.out.trans (hb7.mono (by omega))
            go_roundw
            case rel => exact ⟨_, r, a2, _, rfl, HA2, T7, hra, by rw [List.length_append]; exact hkl2, K7, B7⟩
            case measure =>
              have e1 := T7.left
              rw [e1, hleft]
              omega
end Go.Proofs.YtiodaahncadodaaGreatDoor
/- The contracts of token.Same and of the reference's Same. -/
set_option linter.unusedVariables false
set_option linter.unusedSimpArgs false
namespace Go.Proofs.YtiodaahncadodaaGreatDoor
open Go.RowKit
set_option maxHeartbeats 1000000 in
set_option maxRecDepth 100000 in
theorem EqualA_big (v u : Value) (ts us : List Pr) (w : World) (hv : ReadsPairs w v ts) (hu : ReadsPairs w u us) (hl : ts.length ≤ 140737488351232) (hm : us.length ≤ 140737488351232) :
    Calls Tryz.prog 63 #[v, u] w fun e w' => e = .returned (.bool (decide (ts = us))) ∧ ∃ n, w' = w.drewN n := by
  obtain ⟨a1, c1, rfl⟩ := hv.form
  obtain ⟨a2, c2, rfl⟩ := hu.form
  by_cases hlen : ts.length = us.length
  · have hb : ((ts.length : Int) != (us.length : Int)) = false := by simp [hlen]
    have HL : Hid (ts.length = us.length) := hlen
    have HV : Hid (ReadsPairs w (.slice a1 ts.length c1) ts) := hv
    have HU : Hid (ReadsPairs w (.slice a2 us.length c2) us) := hu
    clear hlen hv hu
    go_enter Tryz.func63, Tryz.ntmps63
    go_wp2
    go_loopw [13] (fun i wr => ∃ k m : Nat, k ≤ ts.length ∧ i = .int .i64 k ∧ Hid (ts.take k = us.take k) ∧ wr = w.drewN m) (fun i _ => ts.length - (intOf i).toNat)
    case atStart => exact ⟨0, 0, Nat.zero_le _, rfl, rfl, rfl⟩
    case round =>
      obtain ⟨k, m, hk, rfl, HE, rfl⟩ := hrel
      by_cases hlt : k < ts.length
      · have hlt2 : k < us.length := by have := HL.out; omega
        obtain ⟨p, hp⟩ : ∃ p, ts[k]? = some p := ⟨_, List.getElem?_eq_getElem hlt⟩
        obtain ⟨q, hq⟩ : ∃ q, us[k]? = some q := ⟨_, List.getElem?_eq_getElem hlt2⟩
        obtain ⟨b1, o1, rfl, hc1, hb1, g1, g2⟩ := HV.out.at hp
        obtain ⟨b2, o2, rfl, hc2, hb2, g3, g4⟩ := HU.out.at hq
        have HX : Hid (ts[k]? = some p ∧ us[k]? = some q) := ⟨hp, hq⟩
        clear hp hq
        by_cases hpq : p = q
        · subst hpq
          go_wp2
          go_quiet (fail)
          go_wp2
          go_roundw
          case rel => exact ⟨k + 1, m + nq, by omega, by go_num, by show _ = _; rw [List.take_add_one, List.take_add_one, HE.out, HX.out.1, HX.out.2], by simp⟩
          case measure => simp [intOf]; omega
        · have HN : Hid (decide (ts = us) = false) := by
            show _ = _
            rw [decide_eq_false_iff_not]
            rintro rfl
            exact hpq (Option.some.inj (HX.out.1.symm.trans HX.out.2))
          by_cases h1 : p.1 = q.1
          · have h2 : ¬ p.2 = q.2 := fun e => hpq (Prod.ext h1 e)
            have hs1 := str_beq_yes h1
            have hs2 := str_beq_no h2
            clear h1 h2 hpq
            go_wp2
            go_quiet (fail)
            go_wp2
            go_ret
            exact ⟨ret_bool HN.out.symm, m + nq, by simp⟩
          · have hs1 := str_beq_no h1
            clear h1 hpq
            go_wp2
            go_quiet (fail)
            go_wp2
            go_ret
            exact ⟨ret_bool HN.out.symm, m + nq, by simp⟩
      · have HN : Hid (decide (ts = us) = true) := by
          show _ = _
          rw [decide_eq_true_iff]
          have h := HE.out
          have := HL.out
          rwa [List.take_of_length_le (by omega), List.take_of_length_le (by omega)] at h
        go_wp2
        go_ret
        exact ⟨ret_bool HN.out.symm, m, rfl⟩
  · have hb : ((ts.length : Int) != (us.length : Int)) = true := by simp; omega
    have HN : Hid (decide (ts = us) = false) := by
      show _ = _
      rw [decide_eq_false_iff_not]
      rintro rfl
      exact hlen rfl
    clear hv hu
    go_enter Tryz.func63, Tryz.ntmps63
    go_wp2
    go_ret
    exact ⟨ret_bool HN.out.symm, 0, rfl⟩
theorem EqualA_any (v u : Value) (ts us : List Pr) (w : World) (hv : ReadsPairs w v ts) (hu : ReadsPairs w u us) (hl : ts.length ≤ 1000000) (hm : us.length ≤ 1000000) :
    Calls Tryz.prog 63 #[v, u] w fun e w' => e = .returned (.bool (decide (ts = us))) ∧ ∃ n, w' = w.drewN n :=
  EqualA_big v u ts us w hv hu (by omega) (by omega)
/-- A token's value, of any kind. -/
abbrev tokI (k : Int) (n : List UInt8) (v : Value) (s : Bool) (x : List UInt8) : Value := .agg (kCells k n v s x)
def sameK (k1 k2 : Int) (n1 n2 : List UInt8) (p1 p2 : List Pr) (s1 s2 : Bool) (x1 x2 : List UInt8) : Bool := (k1 == k2) && ((n1 == n2) && ((decide (p1 = p2)) && ((s1 == s2) && (x1 == x2))))
theorem ne_of_beq {a b : Int} (h : (a == b) = false) : (a != b) = true := by unfold bne; rw [h]; rfl
theorem eq_of_beq' {a b : Int} (h : (a == b) = true) : (a != b) = false := by unfold bne; rw [h]; rfl
end Go.Proofs.YtiodaahncadodaaGreatDoor
/- The contracts of the laws' own alive and long (layer 12). -/
set_option linter.unusedVariables false
set_option linter.unusedSimpArgs false
namespace Tk
open Asc
def aliveS : List UInt8 := [60, 80, 32, 97, 61, 49, 32, 97, 61, 50, 62, 120, 38, 108, 116, 59]
theorem dec_one (a : Bool) (c : UInt8) (h : c ≠ 38) : Rf.dec a [c] = [c] := by rw [Rf.dec_other a c [] h, Rf.dec_nil]
theorem alive_attr1 : attr [97, 61, 49, 32, 97, 61, 50, 62, 120, 38, 108, 116, 59] = (([97], [49]), [32, 97, 61, 50, 62, 120, 38, 108, 116, 59]) := by
  have e1 : eqR (attrR [97, 61, 49, 32, 97, 61, 50, 62, 120, 38, 108, 116, 59]) = some [49, 32, 97, 61, 50, 62, 120, 38, 108, 116, 59] := by decide +kernel
  unfold attr
  rw [e1]
  show ((lower (attrN _), Rf.dec true (valRaw _)), valR _) = _
  rw [show valRaw [49, 32, 97, 61, 50, 62, 120, 38, 108, 116, 59] = [49] from by decide +kernel, dec_one true 49 (by decide)]
  decide +kernel
theorem alive_attr2 : attr [97, 61, 50, 62, 120, 38, 108, 116, 59] = (([97], [50]), [62, 120, 38, 108, 116, 59]) := by
  have e1 : eqR (attrR [97, 61, 50, 62, 120, 38, 108, 116, 59]) = some [50, 62, 120, 38, 108, 116, 59] := by decide +kernel
  unfold attr
  rw [e1]
  show ((lower (attrN _), Rf.dec true (valRaw _)), valR _) = _
  rw [show valRaw [50, 62, 120, 38, 108, 116, 59] = [50] from by decide +kernel, dec_one true 50 (by decide)]
  decide +kernel
theorem alive_tag : tag [80, 32, 97, 61, 49, 32, 97, 61, 50, 62, 120, 38, 108, 116, 59] = some (⟨1, [112], [([97], [49])], false, []⟩, [120, 38, 108, 116, 59]) := by
  have ed : ([80, 32, 97, 61, 49, 32, 97, 61, 50, 62, 120, 38, 108, 116, 59] : List UInt8).dropWhile tn = [32, 97, 61, 49, 32, 97, 61, 50, 62, 120, 38, 108, 116, 59] := by decide +kernel
  have et : ([80, 32, 97, 61, 49, 32, 97, 61, 50, 62, 120, 38, 108, 116, 59] : List UInt8).takeWhile tn = [80] := by decide +kernel
  unfold tag
  rw [ed, et, tg_gap 32 _ _ _ (by decide) (.inr (by decide)), tg_attr 97 _ _ _ (by decide), alive_attr1, tg_gap 32 _ _ _ (by decide) (.inr (by decide)), tg_attr 97 _ _ _ (by decide), alive_attr2, tg_end, show add (add [] ([97], [49])) ([97], [50]) = [([97], [49])] from by decide +kernel]
  show some ((⟨1, lower [80], _, _, []⟩ : Tok), _) = _
  rw [show lower [80] = [112] from by decide +kernel]
theorem alive_text : Rf.dec false [120, 38, 108, 116, 59] = [120, 60] := by
  have e1 : Rf.next false [108, 116, 59] = (60, 3) := by decide +kernel
  rw [Rf.dec_other _ _ _ (by decide), Rf.dec_some _ _ (by rw [e1]; decide), e1]
  simp only [List.drop_succ_cons, List.drop_zero]
  rw [Rf.dec_nil]
  decide +kernel
theorem alive_all : all aliveS = [⟨1, [112], [([97], [49])], false, []⟩, ⟨3, [], [], false, [120, 60]⟩] := by
  have n1 : next aliveS = (⟨1, [112], [([97], [49])], false, []⟩, 11) := by
    unfold next aliveS
    rw [if_neg (by simp), if_neg (by decide +kernel), if_pos (by decide +kernel)]
    rw [show ([60, 80, 32, 97, 61, 49, 32, 97, 61, 50, 62, 120, 38, 108, 116, 59] : List UInt8).drop 1 = [80, 32, 97, 61, 49, 32, 97, 61, 50, 62, 120, 38, 108, 116, 59] from rfl, alive_tag]
    rfl
  have s1 : stepT aliveS = ([⟨1, [112], [([97], [49])], false, []⟩], [120, 38, 108, 116, 59]) := by
    unfold stepT
    rw [n1, if_neg (by decide)]
    rfl
  have n2 : next [120, 38, 108, 116, 59] = (⟨3, [], [], false, [120, 60]⟩, 5) := by
    unfold next
    rw [if_neg (by simp), if_pos (by decide +kernel), show upto [120, 38, 108, 116, 59] = 5 from by decide +kernel]
    show (textTok (Rf.dec false [120, 38, 108, 116, 59]), 5) = _
    rw [alive_text]
    rfl
  have s2 : stepT [120, 38, 108, 116, 59] = ([⟨3, [], [], false, [120, 60]⟩], []) := by
    unfold stepT
    rw [n2, if_neg (by decide)]
    rfl
  rw [all_go aliveS (by decide), s1]
  show _ ++ all [120, 38, 108, 116, 59] = _
  rw [all_go _ (by simp), s2]
  rfl
theorem alive_clean : clean aliveS = aliveS := by
  unfold clean
  have h := Rf.text_lows aliveS [] (by decide)
  rw [List.append_nil, Utf.isText_nil] at h
  rw [Utf.rep_self aliveS h]
  decide +kernel
theorem alive_tagText : tagText ⟨1, [112], [([97], [49])], false, []⟩ = [60, 112, 32, 97, 61, 34, 49, 34, 62] := by
  unfold tagText tailText attrText
  rw [if_pos rfl]
  have e : Rf.enc true [49] = [49] := by
    rw [Rf.enc_go _ _ (by simp), show Rf.one true [49] = ([49], 1) from by decide +kernel]
    simp only [List.drop_succ_cons, List.drop_zero]
    rw [Rf.enc_nil]
    rfl
  simp [e]
end Tk
namespace Go.Proofs.YtiodaahncadodaaGreatDoor
open Go.RowKit
theorem KR.range {w : World} {B : Nat} {a : Option Addr} {n c : Nat} {ks : List Tk.Tok} (h : KR w B (.slice a n c) ks) {j : Nat} {k : Tk.Tok} (hj : ks[j]? = some k) :
    ∃ g ua ul uc, a = some ⟨g, 0, none⟩ ∧ g < w.heap.size ∧ n ≤ c ∧ w.rangeAt g (j * 5) [.int .i64 k.kind, .string (str k.name), .slice ua ul uc, .bool k.self, .string (str k.text)] ∧ OwnsA w B (.slice ua ul uc) k.attrs := by
  obtain ⟨g, u, ha, hB, hg, hc, c0, c1, c2, c3, c4, ho⟩ := h.at hj
  obtain ⟨ua, uc, rfl⟩ := ho.reads.form
  refine ⟨g, ua, _, uc, ha, hg, hc, ?_, ho⟩
  intro i v hi
  rcases i with _ | _ | _ | _ | _ | i
  · cases hi; exact c0
  · cases hi; exact c1
  · cases hi; exact c2
  · cases hi; exact c3
  · cases hi; exact c4
  · simp at hi
theorem wpList_load_Tg {ops : Array Oper} {rest : List Oper} {op : Oper} {a : Act} {w : World} {Q : Exit → Act → World → Prop} (hw : Region.wanted op (yielded ops a.tmps) = true) (x : Operand) (ho : op.op = .load 56 x)
    (b o : Nat) (hx : a.eval x = .pointer (some ⟨b, o, none⟩)) (x0 x1 x2 x3 x4 : Value) (hc : w.rangeAt b o [x0, x1, x2, x3, x4])
    (h : wpList Tryz.prog ops Q rest (a.put op.dst (.agg #[x0, x1, x2, x3, x4])) w) : wpList Tryz.prog ops Q (op :: rest) a w :=
  wpList_step fun _ hK => by
    rw [if_pos hw]
    exact wp_load_mid _ x ho b o hx [x0, x1, x2, x3, x4] _ hc Tryz.underlying56 rfl sizeK (hK _ _ h)
def aliveT : Tk.Tok := ⟨1, [112], [([97], [49])], false, []⟩
theorem alive_bears : Bears aliveT := ⟨by decide, by show (Tk.tagText aliveT).length ≤ _; rw [show aliveT = ⟨1, [112], [([97], [49])], false, []⟩ from rfl, Tk.alive_tagText]; decide, by intro a ha; simp [aliveT] at ha; subst ha; decide, by decide, by decide⟩
def longT (l : List UInt8) : Bool := decide (1500 < l.length ∧ l.length ≤ 65536)
theorem longT_yes {l : List UInt8} (h : 1500 < l.length ∧ l.length ≤ 65536) : longT l = true := decide_eq_true h
theorem longT_no {l : List UInt8} (h : ¬ (1500 < l.length ∧ l.length ≤ 65536)) : longT l = false := decide_eq_false h
end Go.Proofs.YtiodaahncadodaaGreatDoor
