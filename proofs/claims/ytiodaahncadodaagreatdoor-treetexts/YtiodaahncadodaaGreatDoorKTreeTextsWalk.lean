/- The walk of the law TreeTexts, out of the contracts. -/
import Derived.Test.YtiodaahncadodaaGreatDoorKTreTV
import Derived.Test.YtiodaahncadodaaGreatDoorKTrI
set_option linter.unusedVariables false
set_option linter.unusedSimpArgs false
namespace Go.Proofs.YtiodaahncadodaaGreatDoor
open Go.RowKit
theorem KS.range13 {w : World} {B : Nat} {a : Option Addr} {n c : Nat} {ks : List Tk.Tok} (h : KS w B (.slice a n c) ks) {j : Nat} {k : Tk.Tok} (hj : ks[j]? = some k) :
    ∃ g ua ul uc, a = some ⟨g, 0, none⟩ ∧ g < w.heap.size ∧ n ≤ c ∧ w.rangeAt g (j * 5) [.int .i64 k.kind, .string (str k.name), .slice ua ul uc, .bool k.self, .string (str k.text)] := by
  obtain ⟨g, u, ha, hB, hg, hc, c0, c1, c2, c3, c4, ho⟩ := h.at hj
  obtain ⟨ua, uc, rfl⟩ := ho.reads.form
  refine ⟨g, ua, k.attrs.length, uc, ha, hg, hc, ?_⟩
  intro i v hi
  rcases i with _ | _ | _ | _ | _ | i
  · cases hi; exact c0
  · cases hi; exact c1
  · cases hi; exact c2
  · cases hi; exact c3
  · cases hi; exact c4
  · simp at hi
theorem str_cat13 (a b : List UInt8) : str a ++ str b = str (a ++ b) := by
  apply str_eq
  rw [ByteArray.data_append]
  simp [str]
theorem texts_take (ns : List Nd) (k : Nat) (h : k < ns.length) : Tre.texts (ns.take (k + 1)) = Tre.texts (ns.take k) ++ (Tre.ndAt ns k).text := by
  rw [List.take_add_one, Tre.ndAt_get h]
  unfold Tre.texts
  rw [List.flatMap_append]
  simp
theorem texts_len (ns : List Nd) (M : Nat) (h : ∀ i, i < ns.length → (Tre.ndAt ns i).text.length ≤ M) : ∀ k, k ≤ ns.length → (Tre.texts (ns.take k)).length ≤ k * M
  | 0, _ => by simp [Tre.texts]
  | k + 1, hk => by
    rw [texts_take ns k (by omega), List.length_append, Nat.succ_mul]
    have := texts_len ns M h k (by omega)
    have := h k (by omega)
    omega
theorem toks_take (ks : List Tk.Tok) (j : Nat) (k : Tk.Tok) (h : ks[j]? = some k) : (ks.take (j + 1)).flatMap Tre.tokText = (ks.take j).flatMap Tre.tokText ++ Tre.tokText k := by
  rw [List.take_add_one, h, List.flatMap_append]
  simp
theorem toks_len (ks : List Tk.Tok) (M : Nat) (h : ∀ k ∈ ks, k.text.length ≤ M) : ∀ j, j ≤ ks.length → ((ks.take j).flatMap Tre.tokText).length ≤ j * M
  | 0, _ => by simp
  | j + 1, hj => by
    have hg : ks[j]? = some ks[j] := List.getElem?_eq_getElem (by omega)
    rw [toks_take ks j _ hg, List.length_append, Nat.succ_mul]
    have h1 := toks_len ks M h j (by omega)
    have h2 := h _ (List.getElem_mem (by omega : j < ks.length))
    have : (Tre.tokText ks[j]).length ≤ ks[j].text.length := by
      unfold Tre.tokText
      split
      · exact Nat.le_refl _
      · exact Nat.zero_le _
    omega
theorem sizeR13 : (Tryz.prog.info? 48).map (·.size) = some 5 := by kernel_rfl
theorem wpList_load_Rg {ops : Array Oper} {rest : List Oper} {op : Oper} {a : Act} {w : World} {Q : Exit → Act → World → Prop} (hw : Region.wanted op (yielded ops a.tmps) = true) (x : Operand) (ho : op.op = .load 48 x)
    (b o : Nat) (hx : a.eval x = .pointer (some ⟨b, o, none⟩)) (x0 x1 x2 x3 x4 : Value) (hc : w.rangeAt b o [x0, x1, x2, x3, x4])
    (h : wpList Tryz.prog ops Q rest (a.put op.dst (.agg #[x0, x1, x2, x3, x4])) w) : wpList Tryz.prog ops Q (op :: rest) a w :=
  wpList_step fun _ hK => by
    rw [if_pos hw]
    exact wp_load_mid _ x ho b o hx [x0, x1, x2, x3, x4] _ hc Tryz.underlying48 rfl sizeR13 (hK _ _ h)
end Go.Proofs.YtiodaahncadodaaGreatDoor
namespace Go.Proofs.YtiodaahncadodaaGreatDoor.treeTexts
open Go.RowKit
set_option maxHeartbeats 8000000 in
set_option maxRecDepth 100000 in
theorem walk (a0 : ByteArray) (w : World) (h0 : a0.size ≤ 140737488351232) (hT : EnvT w) :
    Calls Tryz.prog 7 #[.string a0] w fun e w' => e = .returned (.bool true) ∧ Below w.heap.size w w' := by
  have HT : Hid (EnvT w) := hT
  clear hT
  obtain ⟨l, rfl⟩ : ∃ l, a0 = str l := ⟨_, (str_self a0).symm⟩
  have hL := long13_any l w
  cases hlt : longT l
  · rw [hlt] at hL
    have hP := Parse_any l w HT.out
    by_cases h2 : (parseR l).2 = 0
    · obtain ⟨b, hW, _, hmay, hdeep, hlen, htx, hfit⟩ := parse_fits l h2
      have hkf := allR_fits l
      have HRA := hideT (fun W => RAll_any l W)
      generalize parseR l = x at *
      obtain ⟨ns, q⟩ := x
      simp only at h2 hmay hdeep hlen hfit htx
      subst h2
      have hTL := texts_len ns 16384000000 (fun i hi => (hfit i hi).2.2)
      have hKL := toks_len (allR l).1 1000000 (fun k hk => (hkf.2 k hk).2.2)
      have hkl := hkf.1
      have HTX : Hid (Tre.texts ns = (allR l).1.flatMap Tre.tokText) := htx
      generalize allR l = y at *
      obtain ⟨ks, ke⟩ := y
      simp only at hkl hKL HTX
      clear hW hmay hfit hlt hdeep hkf htx
      go_enter Tryz.func7, Tryz.ntmps7
      go_upto_region 4 with (first
        | (go_at_call 9; refine hL.mono ?_; rintro e w0 ⟨rfl, rfl⟩; clear hL)
        | (go_at_call 11; refine hP.mono ?_; rintro e w1 ⟨v, rfl, hR, hb1⟩; obtain ⟨a, c, rfl⟩ := hR.form))
      have hbA : Below w1.heap.size w1 (w1.alloc (.cells #[.slice a ns.length c] 26)) := (Below.refl _ _).alloc (Nat.le_refl _) _
      have cd := doc_one (heap_new w1 (.cells #[.slice a ns.length c] 26))
      have HR2 := hideT (hR.below hbA)
      have HB2 := hideT (bel hb1 hbA)
      have hds := cell_lt cd
      have cd0 := cd
      generalize (w1.alloc (.cells #[.slice a ns.length c] 26)) = W2 at *
      generalize w1.heap.size = b at *
      clear hR hP hbA hb1
      have HNL := hideT hlen
      have HKL := hideT hkl
      have HTL := hideT hTL
      have HKL2 := hideT hKL
      clear hlen hkl hTL hKL
      go_wp2
      go_loopw [27, 5] (fun i s wr => ∃ k : Nat, i = .int .i64 k ∧ s = .string (str (Tre.texts (ns.take k))) ∧ k ≤ ns.length ∧ Hid (Below W2.heap.size W2 wr)) (fun i _ _ => ns.length - (intOf i).toNat)
      case atStart => exact ⟨0, rfl, rfl, Nat.zero_le _, Below.refl _ _⟩
      case round =>
        obtain ⟨k, rfl, rfl, hk, HB⟩ := hrel
        rename World => X
        by_cases hkl : k < ns.length
        · obtain ⟨bb, o, aa, ac, ka, kc, rfl, hc, hr⟩ := (HR2.out.below HB.out).at hkl
          have hrng0 : X.rangeAt bb (o + k * 6) [.int .i64 (Tre.ndAt ns k).kind, .string (str (Tre.ndAt ns k).name), .slice aa (Tre.ndAt ns k).attrs.length ac, .string (str (Tre.ndAt ns k).text), .int .i64 (Tre.ndAt ns k).up, .slice ka (Tre.ndAt ns k).kids.length kc] := hr.rng
          have hrng := hideT hrng0
          have hl1 := HTL.out k hk
          have hl2 := HTL.out (k + 1) hkl
          have HX := hideT (texts_take ns k hkl)
          have h4 := HNL.out
          have e1 := str_cat13 (Tre.texts (ns.take k)) (Tre.ndAt ns k).text
          rw [← texts_take ns k hkl] at e1
          have z1 := str_size (Tre.texts (ns.take k))
          have z2 := str_size (Tre.ndAt ns k).text
          have z3 := congrArg List.length HX.out
          rw [List.length_append] at z3
          have hb3 : Below X.heap.size X (X.alloc (.cells #[.int .i64 (Tre.ndAt ns k).kind, .string (str (Tre.ndAt ns k).name), .slice aa (Tre.ndAt ns k).attrs.length ac, .string (str (Tre.ndAt ns k).text), .int .i64 (Tre.ndAt ns k).up, .slice ka (Tre.ndAt ns k).kids.length kc] 43)) := (Below.refl _ _).alloc (Nat.le_refl _) _
          have HB3 := hideT (HB.out.trans (hb3.mono HB.out.size))
          have HKK : Hid (k + 1 ≤ ns.length) := hkl
          clear hr hb3 hrng0
          go_wp2_with ((with_reducible show wpList _ _ _ ({ op := Op.load 43 _, .. } :: _) _ _); refine wpList_load_N (by rfl) _ rfl bb (o + k * 6) rfl _ _ _ _ _ _ hrng.out ?_)
          go_roundw
          case rel => exact ⟨k + 1, by go_num, rfl, HKK.out, HB3⟩
          case measure => have := HKK.out; simp [intOf]; omega
        · have hke : k = ns.length := by omega
          have HBX : Hid (Below w0.heap.size w0 X) := bel HB2.out HB.out
          have hNS : Hid (Tre.texts (ns.take k) = Tre.texts ns) := by
            show _ = _
            rw [hke, List.take_length]
          clear hke HB HR2 HTL cd cd0 hds HB2
          go_upto_region 13 with (go_at_call 22; refine (HRA.out _).mono ?_; rintro e w2 ⟨ad2, ln2, cp2, rfl, hK2, hb2⟩; obtain ⟨a2, c2, e2⟩ := hK2.form; cases e2; have HK2 := hideT hK2; have HB2 := hideT (bel HBX.out hb2); clear hK2 hb2)
          go_wp2
          go_loopw [43, 6] (fun i s wr => ∃ j : Nat, i = .int .i64 j ∧ s = .string (str ((ks.take j).flatMap Tre.tokText)) ∧ j ≤ ks.length ∧ Hid (Below w2.heap.size w2 wr)) (fun i _ _ => ks.length - (intOf i).toNat)
          case atStart => exact ⟨0, rfl, rfl, Nat.zero_le _, Below.refl _ _⟩
          case round =>
            obtain ⟨j, rfl, rfl, hj, HBY⟩ := hrel
            rename World => Y
            by_cases hjl : j < ks.length
            · obtain ⟨t, ht⟩ : ∃ t, ks[j]? = some t := ⟨_, List.getElem?_eq_getElem hjl⟩
              obtain ⟨g, ua, ul, uc, rfl, hg, hc, hrng0⟩ := (HK2.out.below HBY.out).range13 ht
              have hrng := hideT hrng0
              clear hrng0
              have hl1 := HKL2.out j hj
              have hl2 := HKL2.out (j + 1) hjl
              have HJ : Hid (j + 1 ≤ ks.length) := hjl
              have HXT := hideT (toks_take ks j t ht)
              have h4 := HKL.out
              have hb3 : Below Y.heap.size Y (Y.alloc (.cells #[.int .i64 t.kind, .string (str t.name), .slice ua ul uc, .bool t.self, .string (str t.text)] 48)) := (Below.refl _ _).alloc (Nat.le_refl _) _
              have HB3 := hideT (HBY.out.trans (hb3.mono HBY.out.size))
              have z3 := congrArg List.length HXT.out
              rw [List.length_append] at z3
              clear hb3 ht
              by_cases hk3 : t.kind = 3
              · have hi : ((t.kind : Int) == 3) = true := by simp [hk3]
                have htt : Tre.tokText t = t.text := by unfold Tre.tokText; rw [if_pos hk3]
                rw [htt] at z3
                have e1 := str_cat13 ((ks.take j).flatMap Tre.tokText) t.text
                have HX2 : Hid (str ((ks.take (j + 1)).flatMap Tre.tokText) = str ((ks.take j).flatMap Tre.tokText ++ t.text)) := by
                  show _ = _
                  rw [HXT.out, htt]
                have z1 := str_size ((ks.take j).flatMap Tre.tokText)
                have z2 := str_size t.text
                clear hk3 htt HXT
                go_wp2_with ((with_reducible show wpList _ _ _ ({ op := Op.load 48 _, .. } :: _) _ _); refine wpList_load_Rg (by rfl) _ rfl g (j * 5) rfl _ _ _ _ _ hrng.out ?_)
                go_roundw
                case rel => exact ⟨j + 1, by go_num, by rw [HX2.out], HJ.out, HB3⟩
                case measure => have := HJ.out; simp [intOf]; omega
              · have hi : ((t.kind : Int) == 3) = false := by simp; omega
                have htt : Tre.tokText t = [] := by unfold Tre.tokText; rw [if_neg hk3]
                have HX2 : Hid (str ((ks.take (j + 1)).flatMap Tre.tokText) = str ((ks.take j).flatMap Tre.tokText)) := by
                  show _ = _
                  rw [HXT.out, htt, List.append_nil]
                clear hk3 htt HXT
                go_wp2_with ((with_reducible show wpList _ _ _ ({ op := Op.load 48 _, .. } :: _) _ _); refine wpList_load_Rg (by rfl) _ rfl g (j * 5) rfl _ _ _ _ _ hrng.out ?_)
                go_roundw
                case rel => exact ⟨j + 1, by go_num, by rw [HX2.out], HJ.out, HB3⟩
                case measure => have := HJ.out; simp [intOf]; omega
            · have hje : j = ks.length := by omega
              have HEQ : Hid (((str (Tre.texts (ns.take k))).toList == (str ((ks.take j).flatMap Tre.tokText)).toList) = true) := by
                show _ = _
                rw [hNS.out, hje, List.take_length, HTX.out]
                exact beq_self_eq_true _
              have q := HEQ.out
              have HBZ := hideT (bel HB2.out HBY.out)
              clear hje
              go_wp2_with (go_at_call 10; refine (alive13_any _ (HT.out.below HBZ.out)).mono ?_; rintro e w6 ⟨rfl, b6⟩; have HB6 := hideT (bel HBZ.out b6); clear b6)
              go_ret
              exact ⟨rfl, HB6.out⟩
    · generalize hx : parseR l = x at *
      obtain ⟨ns, q⟩ := x
      simp only at h2
      have h3 : ns = [] := by
        have h2' : (parseR l).2 ≠ 0 := by rw [hx]; exact h2
        have : (parseR l).1 = [] := by
          unfold parseR at h2' ⊢
          split
          · rename_i h0'
            rw [if_pos h0'] at h2'
            cases hp : Tre.parseT (allR l).1 with
            | error e => rfl
            | ok ns => rw [hp] at h2'; exact absurd rfl h2'
          · rfl
        rw [hx] at this
        exact this
      subst h3
      have hq : ((q : Int) != 0) = true := by simp; omega
      clear h2 hlt hx
      go_enter Tryz.func7, Tryz.ntmps7
      go_upto_region 4 with (first
        | (go_at_call 9; refine hL.mono ?_; rintro e w0 ⟨rfl, rfl⟩; clear hL)
        | (go_at_call 11; refine hP.mono ?_; rintro e w1 ⟨v, rfl, hR, hb1⟩; obtain ⟨a, c, rfl⟩ := hR.form))
      have hbA : Below w1.heap.size w1 (w1.alloc (.cells #[.slice a 0 c] 26)) := (Below.refl _ _).alloc (Nat.le_refl _) _
      have HB2 := hideT (bel hb1 hbA)
      generalize (w1.alloc (.cells #[.slice a 0 c] 26)) = W2 at *
      generalize w1.heap.size = b at *
      clear hR hP hbA hb1
      go_wp2_with (first
        | (go_at_call 10; refine (alive13_any _ (HT.out.below HB2.out)).mono ?_; rintro e w6 ⟨rfl, b6⟩; have HB6 := hideT b6; clear b6))
      go_ret
      exact ⟨rfl, bel HB2.out HB6.out⟩
  · rw [hlt] at hL
    go_enter Tryz.func7, Tryz.ntmps7
    go_wp2_with (first
      | (go_at_call 9; refine hL.mono ?_; rintro e w0 ⟨rfl, rfl⟩; clear hL)
      | (go_at_call 10; refine (alive13_any _ HT.out).mono ?_; rintro e w2 ⟨rfl, hb2⟩))
    go_ret
    exact ⟨rfl, hb2⟩
end Go.Proofs.YtiodaahncadodaaGreatDoor.treeTexts
