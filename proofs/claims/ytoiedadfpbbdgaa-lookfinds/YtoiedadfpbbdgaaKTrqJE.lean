/- Texts laid as one. -/
import Derived.Test.YtoiedadfpbbdgaaKTrqI
import Derived.Test.YtoiedadfpbbdgaaKTreTV
import Derived.Test.YtoiedadfpbbdgaaKTrI
/- The contract of the reference's Parse. -/
set_option linter.unusedVariables false
set_option linter.unusedSimpArgs false
namespace Go.Proofs.Ytoiedadfpbbdgaa
open Go.RowKit
section
variable {w : World} {B bb : Nat} {nv ov : Value} {ps : List PN} {op : List Nat}
/-- start, whatever is done. -/
theorem RStart_any {M : Nat} (h : QAt w B bb nv ov ps op) (hOk : Tre.Ok ⟨ps.map (·.1), op⟩ M) (kk : Int) (l : List UInt8) (ats : List Pr) (sf : Bool) (x : List UInt8) (aa : Option Addr) (ac : Nat) (hv : ∀ W, Below B w W → ReadsPairs W (.slice aa ats.length ac) ats) (hats : ats.length ≤ 64) :
    Calls Try.prog 52 #[.pointer (some ⟨bb, 0, none⟩), tokI kk l (.slice aa ats.length ac) sf x] w (QStep B bb w (Tre.startT ⟨ps.map (·.1), op⟩ l ats)) := by
  cases hf : Tre.firstN (ps.map (·.1)) l with
  | none => exact RStart_lay h hOk kk l ats sf x aa ac hv hats hf
  | some i => exact RStart_add h hOk kk l ats sf x aa ac hv hats i hf
end
theorem endW_cases (n : List UInt8) : Tre.endW n = if n = Tre.table ∨ n = Tre.html ∨ n = Tre.body then [] else [Tre.table] := by
  unfold Tre.endW
  by_cases h1 : n = Tre.table
  · rw [if_pos h1, if_pos (.inl h1)]
  by_cases h2 : n = Tre.html
  · rw [if_neg h1, if_pos h2, if_pos (.inr (.inl h2))]
  by_cases h3 : n = Tre.body
  · rw [if_neg h1, if_neg h2, if_pos h3, if_pos (.inr (.inr h3))]
  · rw [if_neg h1, if_neg h2, if_neg h3, if_neg (by rintro (h | h | h) <;> contradiction)]
/-- Where the reference's builder is on the way. -/
def QRun (w3 : World) (B bb : Nat) (ks : List Tk.Tok) (j : Nat) (er : Nat) (wr : World) : Prop :=
  (er = 0 ∧ ∃ nv ov ps op, QAt wr B bb nv ov ps op ∧ Tre.Ok ⟨ps.map (·.1), op⟩ (j * 1000000) ∧ Tre.build ks Tre.start0 = Tre.build (ks.drop j) ⟨ps.map (·.1), op⟩ ∧ Below B w3 wr) ∨
    ((er = 5 ∨ er = 8) ∧ Tre.build ks Tre.start0 = .error er ∧ Below B w3 wr)
/-- A new builder. -/
theorem QAt.new (w : World) : QAt (((w.alloc (.cells #[.int .i64 1, .string ⟨#[]⟩, .slice none 0 0, .string ⟨#[]⟩, .int .i64 (-1), .slice none 0 0] 50)).alloc (.cells #[.int .i64 0] 3)).alloc (.cells #[.slice (some ⟨w.heap.size, 0, none⟩) 1 1, .slice (some ⟨w.heap.size + 1, 0, none⟩) 1 1] 75)) w.heap.size (w.heap.size + 1 + 1) (.slice (some ⟨w.heap.size, 0, none⟩) 1 1) (.slice (some ⟨w.heap.size + 1, 0, none⟩) 1 1) [(Tre.root, .slice none 0 0, .slice none 0 0)] [0] := by
  generalize h1 : w.alloc (.cells #[.int .i64 1, .string ⟨#[]⟩, .slice none 0 0, .string ⟨#[]⟩, .int .i64 (-1), .slice none 0 0] 50) = w1
  have n1 : w1.heap[w.heap.size]? = some (.cells #[.int .i64 1, .string ⟨#[]⟩, .slice none 0 0, .string ⟨#[]⟩, .int .i64 (-1), .slice none 0 0] 50 (0, 0)) := by rw [← h1]; exact heap_new w _
  have s1 : w1.heap.size = w.heap.size + 1 := by rw [← h1]; simp
  generalize h2 : w1.alloc (.cells #[.int .i64 0] 3) = w2
  have b2 : Below w1.heap.size w1 w2 := by rw [← h2]; exact (Below.refl _ _).alloc (Nat.le_refl _) _
  have n2 : w2.heap[w.heap.size + 1]? = some (.cells #[.int .i64 0] 3 (0, 0)) := by rw [← h2, ← s1]; exact heap_new w1 _
  have s2 : w2.heap.size = w.heap.size + 1 + 1 := by rw [← h2]; simp [s1]
  generalize h3 : w2.alloc (.cells #[.slice (some ⟨w.heap.size, 0, none⟩) 1 1, .slice (some ⟨w.heap.size + 1, 0, none⟩) 1 1] 75) = w3
  have b3 : Below w2.heap.size w2 w3 := by rw [← h3]; exact (Below.refl _ _).alloc (Nat.le_refl _) _
  have n3 : w3.heap[w.heap.size + 1 + 1]? = some (.cells #[.slice (some ⟨w.heap.size, 0, none⟩) 1 1, .slice (some ⟨w.heap.size + 1, 0, none⟩) 1 1] 75 (0, 0)) := by rw [← h3, ← s2]; exact heap_new w2 _
  have m1 := (b3.block w.heap.size (by omega)).trans ((b2.block w.heap.size (by omega)).trans n1)
  have m2 := (b3.block (w.heap.size + 1) (by omega)).trans n2
  refine ⟨n3, ⟨rfl, .inr ⟨w.heap.size, 1, _, rfl, Nat.le_refl _, m1, Nat.le_refl _, by unfold maxLen; omega, rfl, rfl⟩⟩, ⟨rfl, .inr ⟨w.heap.size + 1, 1, _, rfl, by omega, m2, Nat.le_refl _, by unfold maxLen; omega, rfl, rfl⟩⟩, ?_, ?_, ?_, ?_, ?_, by omega⟩
  · intro i p hp
    cases i with
    | zero => cases hp; exact OwnsPairs.nil _ _ _
    | succ i => simp at hp
  · intro i p hp
    cases i with
    | zero => cases hp; exact OwnsI.nil _ _
    | succ i => simp at hp
  · intro v hv k e1 e2
    have e2' : k = w.heap.size := by injection e2 with e2; exact e2.symm
    simp [slotsQ, pslots] at hv
    rcases hv with rfl | rfl
    · have : k = w.heap.size + 1 := by injection e1 with e1; exact e1.symm
      omega
    · cases e1
  · intro v hv e1
    simp [slotsQ, pslots] at hv
    rcases hv with rfl | rfl
    · injection e1 with e1
      simp at e1
    · cases e1
  · intro e
    have e' : w.heap.size = w.heap.size + 1 + 1 := Option.some.inj e
    omega
theorem sizeRq : (Try.prog.info? 77).map (·.size) = some 5 := by kernel_rfl
theorem wpList_load_Rq {ops : Array Oper} {rest : List Oper} {op : Oper} {a : Act} {w : World} {Q : Exit → Act → World → Prop} (hw : Region.wanted op (yielded ops a.tmps) = true) (x : Operand) (ho : op.op = .load 77 x)
    (b o : Nat) (hx : a.eval x = .pointer (some ⟨b, o, none⟩)) (x0 x1 x2 x3 x4 : Value) (hc : w.rangeAt b o [x0, x1, x2, x3, x4])
    (h : wpList Try.prog ops Q rest (a.put op.dst (.agg #[x0, x1, x2, x3, x4])) w) : wpList Try.prog ops Q (op :: rest) a w :=
  wpList_step fun _ hK => by
    rw [if_pos hw]
    exact wp_load_mid _ x ho b o hx [x0, x1, x2, x3, x4] _ hc Try.underlying77 rfl sizeRq (hK _ _ h)
set_option maxHeartbeats 8000000 in
set_option maxRecDepth 100000 in
theorem RParse_any (s : List UInt8) (w : World) :
    Calls Try.prog 32 #[.string (str s)] w (ParsePost w (parseR s)) := by
  have hb0 : Below w.heap.size w (w.alloc (.cells #[.slice none 0 0] 24)) := (Below.refl _ w).alloc (Nat.le_refl _) _
  have hd0 := heap_new w (.cells #[.slice none 0 0] 24)
  have hs0 : (w.alloc (.cells #[.slice none 0 0] 24)).heap.size = w.heap.size + 1 := by simp
  have hA := RAll_any s (w.alloc (.cells #[.slice none 0 0] 24))
  have hfit := allR_fits s
  by_cases hq : (allR s).2 = 0
  · have HX : Hid (parseR s = match Tre.parseT (allR s).1 with | .error e => ([], e) | .ok ns => (ns, 0)) := if_pos hq
    generalize hW0 : (w.alloc (.cells #[.slice none 0 0] 24)) = W0 at *
    generalize allR s = x at *
    obtain ⟨ks, q⟩ := x
    simp only at hq HX hfit
    subst hq
    have HW0 := hideT hW0
    clear hW0
    go_enter Try.func32, Try.ntmps32
    go_upto_region 1 with fail
    rw [HW0.out]
    go_upto_region 4 with (go_at_call 51; refine hA.mono ?_; rintro e w1 ⟨ad, ln, cp, rfl, hK, hb1⟩; obtain ⟨a1, c1, e1⟩ := hK.form; cases e1; clear hA)
    have hs1 := hb1.size
    have hd1 := (hb1.block w.heap.size (by omega)).trans hd0
    have hB3 := QAt.new w1
    have hb3 : Below w1.heap.size w1 (((w1.alloc (.cells #[.int .i64 1, .string ⟨#[]⟩, .slice none 0 0, .string ⟨#[]⟩, .int .i64 (-1), .slice none 0 0] 50)).alloc (.cells #[.int .i64 0] 3)).alloc (.cells #[.slice (some ⟨w1.heap.size, 0, none⟩) 1 1, .slice (some ⟨w1.heap.size + 1, 0, none⟩) 1 1] 75)) := (((Below.refl _ w1).alloc (Nat.le_refl _) _).alloc (by simp) _).alloc (by simp; omega) _
    go_upto_region 5 with fail
    obtain ⟨w3, hw3⟩ : ∃ W, (((w1.alloc (.cells #[.int .i64 1, .string ⟨#[]⟩, .slice none 0 0, .string ⟨#[]⟩, .int .i64 (-1), .slice none 0 0] 50)).alloc (.cells #[.int .i64 0] 3)).alloc (.cells #[.slice (some ⟨w1.heap.size, 0, none⟩) 1 1, .slice (some ⟨w1.heap.size + 1, 0, none⟩) 1 1] 75)) = W := ⟨_, rfl⟩
    rw [hw3] at hB3 hb3
    rw [hw3]
    obtain ⟨B, hBe⟩ : ∃ B, w1.heap.size = B := ⟨_, rfl⟩
    rw [hBe] at hB3 hb3
    rw [hBe]
    have hdB : w.heap.size < B := by omega
    have HQ0 : Hid (QRun w3 B (B + 1 + 1) ks 0 0 w3) := .inl ⟨rfl, _, _, _, _, hB3, Tre.ok_start, rfl, Below.refl _ _⟩
    have HKS := hideT hK
    have HB13 := hideT hb3
    have HBE := hideT hBe
    have HB1 := hideT (hb0.trans (hb1.mono hb0.size))
    have HD3 := hideT ((hb3.block w.heap.size hdB).trans hd1)
    have HFIT := hideT hfit
    clear hb1 hb3 hK hd1 hfit hb0 hB3 hw3 hBe hd0
    obtain ⟨bb, hbb⟩ : ∃ bb, B + 1 + 1 = bb := ⟨_, rfl⟩
    rw [hbb] at HQ0 ⊢
    clear hbb
    go_wp2
    go_loopw [7, 5] (fun i er wr => ∃ j e : Nat, i = .int .i64 j ∧ er = .int .i64 e ∧ j ≤ ks.length ∧ Hid (QRun w3 B bb ks j e wr)) (fun i _ _ => ks.length - (intOf i).toNat)
    case atStart => exact ⟨0, 0, rfl, rfl, Nat.zero_le _, HQ0⟩
    case round =>
      obtain ⟨j, er, rfl, rfl, hj, HI⟩ := hrel
      rename World => X
      clear HQ0
      have hk16 : ks.length ≤ 16384 := HFIT.out.1
      rcases HI.out with ⟨rfl, nv, ov, ps, op, hQ, hOk, hbd, hBX⟩ | ⟨her, hbe, hBX⟩
      · by_cases hjl : j < ks.length
        · obtain ⟨t, ht⟩ : ∃ t, ks[j]? = some t := ⟨_, List.getElem?_eq_getElem hjl⟩
          have hb1X : Below B w1 X := HB13.out.trans hBX
          have hKX := HKS.out.below (by rw [HBE.out]; exact hb1X)
          obtain ⟨g, u, rfl, hgB, hgl, hcl, k0, k1, k2, k3, k4, ho2⟩ := hKX.at ht
          obtain ⟨g2, u2, e2, _, hg2l, _, _, _, k22, _, _, ho1⟩ := HKS.out.at ht
          have hg2 : g2 = g := by injection e2 with e2; injection e2 with e2; exact e2.symm
          subst hg2
          have hu : u2 = u := by
            have h9 : X.cell? ⟨g2, j * 5 + 2, none⟩ = some u2 := (hb1X.cell (p := ⟨g2, j * 5 + 2, none⟩) (by rw [← HBE.out]; exact hg2l)).trans k22
            rw [k2] at h9
            exact (Option.some.inj h9).symm
          subst hu
          obtain ⟨ua, uc, eu⟩ := ho2.reads.form
          subst eu
          have hf : t.name.length ≤ 1000000 ∧ t.attrs.length ≤ 64 ∧ t.text.length ≤ 1000000 := HFIT.out.2 t (List.mem_of_getElem? ht)
          have hrng : X.rangeAt g2 (j * 5) [.int .i64 t.kind, .string (str t.name), .slice ua t.attrs.length uc, .bool t.self, .string (str t.text)] := by
            intro i v hi
            rcases i with _ | _ | _ | _ | _ | i
            · cases hi; exact k0
            · cases hi; exact k1
            · cases hi; exact k2
            · cases hi; exact k3
            · cases hi; exact k4
            · simp at hi
          have HRNG := hideT hrng
          have HBX := hideT hBX
          have HBs : Hid (B ≤ X.heap.size) := Nat.le_trans hQ.bB (Nat.le_of_lt hQ.lt)
          have hatt : ∀ W, Below B X W → ReadsPairs W (.slice ua t.attrs.length uc) t.attrs := fun W hW => (OwnsPairs.below ho1 (by rw [HBE.out]; exact hb1X.trans hW)).reads
          have hkd : ks.drop j = t :: ks.drop (j + 1) := by
            rw [List.drop_eq_getElem_cons hjl]
            congr 1
            rw [List.getElem?_eq_getElem hjl] at ht
            exact Option.some.inj ht
          have HErr : Hid (∀ e0, Tre.step ⟨ps.map (·.1), op⟩ t = .error e0 → Tre.build ks Tre.start0 = .error e0) := fun e0 h => by rw [hbd, hkd, Tre.build, h]
          have HOk2 : Hid (∀ b2, Tre.step ⟨ps.map (·.1), op⟩ t = .ok b2 → ∀ w5, QPost B bb X b2 w5 → QRun w3 B bb ks (j + 1) 0 w5) := fun b2 h w5 hp => by
            obtain ⟨nv', ov', ps', h1, h2, h3⟩ := hp
            obtain ⟨ns2, op2⟩ := b2
            simp only at h1 h2
            subst h2
            exact .inl ⟨rfl, nv', ov', ps', op2, h1, (Tre.ok_step t hf.2.1 hOk h).more (by omega), by rw [hbd, hkd, Tre.build, h], HBX.out.trans h3⟩
          have HJ : Hid (j + 1 ≤ ks.length) := hjl
          have ho := hOk.op1
          have hin := hOk.opin
          simp only [List.length_map] at ho hin
          have hM : j * 1000000 ≤ 100000000000 := by omega
          have hN : t.name.length ≤ 1000000 := hf.1
          clear ho1 ho2 hKX hb1X k2 k22 k3 e2 hrng hbd HI
          by_cases hk1 : t.kind = 1
          · have qk : ((t.kind : Int) == 1) = true := by simp [hk1]
            have hstep : Tre.step ⟨ps.map (·.1), op⟩ t = Tre.startT ⟨ps.map (·.1), op⟩ t.name t.attrs := by unfold Tre.step; rw [if_pos hk1]
            have HC := hideT (RStart_any hQ hOk (t.kind : Int) t.name t.attrs t.self t.text ua uc hatt hf.2.1)
            clear hk1 hatt hin ho hQ hOk
            cases hst : Tre.startT ⟨ps.map (·.1), op⟩ t.name t.attrs with
            | error e0 =>
              rw [hst] at HC
              have he0 := step_err (b := ⟨ps.map (·.1), op⟩) (k := t) (e := e0) (by rw [hstep]; exact hst)
              have HE := hideT (HErr.out e0 (by rw [hstep]; exact hst))
              clear hst hstep HOk2
              go_wp2_with (first
                | ((with_reducible show wpList _ _ _ ({ op := Op.load 77 _, .. } :: _) _ _); refine wpList_load_Rq (by rfl) _ rfl g2 (j * 5) rfl _ _ _ _ _ HRNG.out ?_)
                | (go_at_call 52; refine HC.out.mono ?_; rintro e w5 ⟨rfl, hb5⟩; have HQ : Hid (QRun w3 B bb ks (j + 1) e0 w5) := .inr ⟨he0, HE.out, HBX.out.trans hb5⟩; clear hb5))
              go_roundw
              case rel => exact ⟨j + 1, e0, by go_num, by go_num, HJ.out, HQ⟩
              case measure => have := HJ.out; simp [intOf]; omega
            | ok b2 =>
              rw [hst] at HC
              have HO := hideT (HOk2.out b2 (by rw [hstep]; exact hst))
              clear hst hstep HErr HOk2
              go_wp2_with (first
                | ((with_reducible show wpList _ _ _ ({ op := Op.load 77 _, .. } :: _) _ _); refine wpList_load_Rq (by rfl) _ rfl g2 (j * 5) rfl _ _ _ _ _ HRNG.out ?_)
                | (go_at_call 52; refine HC.out.mono ?_; rintro e w5 ⟨rfl, hp5⟩; have HQ : Hid (QRun w3 B bb ks (j + 1) 0 w5) := HO.out w5 hp5; clear hp5))
              go_roundw
              case rel => exact ⟨j + 1, 0, by go_num, by go_num, HJ.out, HQ⟩
              case measure => have := HJ.out; simp [intOf]; omega
          · have qk1 : ((t.kind : Int) == 1) = false := by simp; omega
            by_cases hk3 : t.kind = 3
            · have qk : ((t.kind : Int) == 3) = true := by simp [hk3]
              have hstep : Tre.step ⟨ps.map (·.1), op⟩ t = Tre.textT ⟨ps.map (·.1), op⟩ t.text := by unfold Tre.step; rw [if_neg hk1, if_neg (by omega), if_pos hk3]
              have HC := hideT (RText_any hQ hOk t.text hM (by omega))
              clear hk1 hk3 hatt hin ho hQ hOk
              cases hst : Tre.textT ⟨ps.map (·.1), op⟩ t.text with
              | error e0 =>
                rw [hst] at HC
                have he0 := step_err (b := ⟨ps.map (·.1), op⟩) (k := t) (e := e0) (by rw [hstep]; exact hst)
                have HE := hideT (HErr.out e0 (by rw [hstep]; exact hst))
                clear hst hstep HOk2
                go_wp2_with (first
                  | fail
                  | (go_at_call 53; refine HC.out.mono ?_; rintro e w5 ⟨rfl, hb5⟩; have HQ : Hid (QRun w3 B bb ks (j + 1) e0 w5) := .inr ⟨he0, HE.out, HBX.out.trans hb5⟩; clear hb5))
                go_roundw
                case rel => exact ⟨j + 1, e0, by go_num, by go_num, HJ.out, HQ⟩
                case measure => have := HJ.out; simp [intOf]; omega
              | ok b2 =>
                rw [hst] at HC
                have HO := hideT (HOk2.out b2 (by rw [hstep]; exact hst))
                clear hst hstep HErr HOk2
                go_wp2_with (first
                  | fail
                  | (go_at_call 53; refine HC.out.mono ?_; rintro e w5 ⟨rfl, hp5⟩; have HQ : Hid (QRun w3 B bb ks (j + 1) 0 w5) := HO.out w5 hp5; clear hp5))
                go_roundw
                case rel => exact ⟨j + 1, 0, by go_num, by go_num, HJ.out, HQ⟩
                case measure => have := HJ.out; simp [intOf]; omega
            · have qk3 : ((t.kind : Int) == 3) = false := by simp; omega
              by_cases hk2 : t.kind = 2
              · have qk : ((t.kind : Int) == 2) = true := by simp [hk2]
                have hstep : Tre.step ⟨ps.map (·.1), op⟩ t = .ok (Tre.endT ⟨ps.map (·.1), op⟩ t.name) := by unfold Tre.step; rw [if_neg hk1, if_pos hk2]
                clear hk1 hk3 hk2 hatt hOk
                by_cases n1 : t.name = Tre.table
                · have q1 := lit13_yes (l := t.name) (m := [116, 97, 98, 108, 101]) n1
                  have hew : Tre.endW t.name = [] := by rw [endW_cases, if_pos (.inl n1)]
                  clear n1
                  have hbN : Below X.heap.size X (X.alloc (.cells ([t.name].map strV).toArray 9)) := (Below.refl _ _).alloc (Nat.le_refl _) _
                  have HLN := hideT (own_lit X [t.name] (by simp))
                  have HSh := hideT (RShut_any (hQ.below hbN) ho.1 (by omega) hin _ (.slice none 0 0) [t.name] [] HLN.out.reads (.inl ⟨_, _, rfl, rfl⟩) (by simp) (by simp))
                  have HO := hideT (HOk2.out (Tre.shut ⟨ps.map (·.1), op⟩ [t.name] []) (by rw [hstep]; unfold Tre.endT; rw [hew]))
                  have HBN := hideT hbN
                  clear hew hstep HErr HOk2 hbN hQ ho hin
                  go_wp2_with (go_at_call 54; refine HSh.out.mono ?_; rintro e w5 ⟨rfl, ov5, h5, hB5, _⟩; have HQ : Hid (QRun w3 B bb ks (j + 1) 0 w5) := HO.out w5 ⟨_, ov5, ps, h5, rfl, (HBN.out.mono HBs.out).trans hB5⟩; clear h5 hB5)
                  go_roundw
                  case rel => exact ⟨j + 1, 0, by go_num, by go_num, HJ.out, HQ⟩
                  case measure => have := HJ.out; simp [intOf]; omega
                · have q1 := lit13_no (l := t.name) (m := [116, 97, 98, 108, 101]) n1
                  by_cases n2 : t.name = Tre.html
                  · have q2 := lit13_yes (l := t.name) (m := [104, 116, 109, 108]) n2
                    have hew : Tre.endW t.name = [] := by rw [endW_cases, if_pos (.inr (.inl n2))]
                    clear n1 n2
                    have hbN : Below X.heap.size X (X.alloc (.cells ([t.name].map strV).toArray 9)) := (Below.refl _ _).alloc (Nat.le_refl _) _
                    have HLN := hideT (own_lit X [t.name] (by simp))
                    have HSh := hideT (RShut_any (hQ.below hbN) ho.1 (by omega) hin _ (.slice none 0 0) [t.name] [] HLN.out.reads (.inl ⟨_, _, rfl, rfl⟩) (by simp) (by simp))
                    have HO := hideT (HOk2.out (Tre.shut ⟨ps.map (·.1), op⟩ [t.name] []) (by rw [hstep]; unfold Tre.endT; rw [hew]))
                    have HBN := hideT hbN
                    clear hew hstep HErr HOk2 hbN hQ ho hin
                    go_wp2_with (go_at_call 54; refine HSh.out.mono ?_; rintro e w5 ⟨rfl, ov5, h5, hB5, _⟩; have HQ : Hid (QRun w3 B bb ks (j + 1) 0 w5) := HO.out w5 ⟨_, ov5, ps, h5, rfl, (HBN.out.mono HBs.out).trans hB5⟩; clear h5 hB5)
                    go_roundw
                    case rel => exact ⟨j + 1, 0, by go_num, by go_num, HJ.out, HQ⟩
                    case measure => have := HJ.out; simp [intOf]; omega
                  · have q2 := lit13_no (l := t.name) (m := [104, 116, 109, 108]) n2
                    by_cases n3 : t.name = Tre.body
                    · have q3 := lit13_yes (l := t.name) (m := [98, 111, 100, 121]) n3
                      have hew : Tre.endW t.name = [] := by rw [endW_cases, if_pos (.inr (.inr n3))]
                      clear n1 n2 n3
                      have hbN : Below X.heap.size X (X.alloc (.cells ([t.name].map strV).toArray 9)) := (Below.refl _ _).alloc (Nat.le_refl _) _
                      have HLN := hideT (own_lit X [t.name] (by simp))
                      have HSh := hideT (RShut_any (hQ.below hbN) ho.1 (by omega) hin _ (.slice none 0 0) [t.name] [] HLN.out.reads (.inl ⟨_, _, rfl, rfl⟩) (by simp) (by simp))
                      have HO := hideT (HOk2.out (Tre.shut ⟨ps.map (·.1), op⟩ [t.name] []) (by rw [hstep]; unfold Tre.endT; rw [hew]))
                      have HBN := hideT hbN
                      clear hew hstep HErr HOk2 hbN hQ ho hin
                      go_wp2_with (go_at_call 54; refine HSh.out.mono ?_; rintro e w5 ⟨rfl, ov5, h5, hB5, _⟩; have HQ : Hid (QRun w3 B bb ks (j + 1) 0 w5) := HO.out w5 ⟨_, ov5, ps, h5, rfl, (HBN.out.mono HBs.out).trans hB5⟩; clear h5 hB5)
                      go_roundw
                      case rel => exact ⟨j + 1, 0, by go_num, by go_num, HJ.out, HQ⟩
                      case measure => have := HJ.out; simp [intOf]; omega
                    · have q3 := lit13_no (l := t.name) (m := [98, 111, 100, 121]) n3
                      have hew : Tre.endW t.name = [Tre.table] := by rw [endW_cases, if_neg (by rintro (h9 | h9 | h9) <;> contradiction)]
                      clear n1 n2 n3
                      obtain ⟨Y, hY⟩ : ∃ Y, X.alloc (.cells ([Tre.table].map strV).toArray 9) = Y := ⟨_, rfl⟩
                      have hLW := own_lit X [Tre.table] (by simp)
                      have hbW : Below X.heap.size X (X.alloc (.cells ([Tre.table].map strV).toArray 9)) := (Below.refl _ _).alloc (Nat.le_refl _) _
                      rw [hY] at hLW hbW
                      obtain ⟨Z, hZ⟩ : ∃ Z, Y.alloc (.cells ([t.name].map strV).toArray 9) = Z := ⟨_, rfl⟩
                      have hLN := own_lit Y [t.name] (by simp)
                      have hbZ : Below Y.heap.size Y (Y.alloc (.cells ([t.name].map strV).toArray 9)) := (Below.refl _ _).alloc (Nat.le_refl _) _
                      rw [hZ] at hLN hbZ
                      have hsY : Y.heap.size = X.heap.size + 1 := by rw [← hY]; simp
                      rw [hsY] at hLN
                      have hbN := hbW.trans (hbZ.mono hbW.size)
                      have hRW := ReadsTexts13.below hLW.reads hbZ
                      have HSh := hideT (RShut_any (hQ.below hbN) ho.1 (by omega) hin _ _ [t.name] [Tre.table] hLN.reads hRW (by simp) (by simp))
                      have HO := hideT (HOk2.out (Tre.shut ⟨ps.map (·.1), op⟩ [t.name] [Tre.table]) (by rw [hstep]; unfold Tre.endT; rw [hew]))
                      have HBN := hideT hbN
                      clear hew hstep HErr HOk2 hbN hQ ho hin hbW hLW hLN hbZ hRW hsY
                      subst hZ
                      subst hY
                      go_wp2_with (go_at_call 54; refine HSh.out.mono ?_; rintro e w5 ⟨rfl, ov5, h5, hB5, _⟩; have HQ : Hid (QRun w3 B bb ks (j + 1) 0 w5) := HO.out w5 ⟨_, ov5, ps, h5, rfl, (HBN.out.mono HBs.out).trans hB5⟩; clear h5 hB5)
                      go_roundw
                      case rel => exact ⟨j + 1, 0, by go_num, by go_num, HJ.out, HQ⟩
                      case measure => have := HJ.out; simp [intOf]; omega
              · have qk : ((t.kind : Int) == 2) = false := by simp; omega
                have hstep : Tre.step ⟨ps.map (·.1), op⟩ t = .ok ⟨ps.map (·.1), op⟩ := by unfold Tre.step; rw [if_neg hk1, if_neg hk2, if_neg hk3]
                have HQ := hideT (HOk2.out _ hstep X ⟨_, _, ps, hQ, rfl, Below.refl _ _⟩)
                clear hk1 hk3 hk2 hatt hOk hQ hin
                go_wp2
                go_roundw
                case rel => exact ⟨j + 1, 0, by go_num, by go_num, HJ.out, HQ⟩
                case measure => have := HJ.out; simp [intOf]; omega
        · have hje : j = ks.length := by omega
          have hpl : 1 ≤ ps.length := by
            have := hOk.len
            simp only [List.length_map] at this
            exact this.1
          obtain ⟨gn, cn, rfl, _⟩ := hQ.nform hpl
          have hPR : Hid (parseR s = (ps.map (·.1), 0)) := by
            show parseR s = _
            rw [HX.out]
            unfold Tre.parseT
            rw [hbd, hje, List.drop_length]
            rfl
          have hB4 : Hid (Below w.heap.size w X) := (HB1.out.trans (HB13.out.mono (Nat.le_of_lt hdB))).trans (hBX.mono (Nat.le_of_lt hdB))
          have hd4 := (hBX.block w.heap.size hdB).trans HD3.out
          have HR : Hid (∀ v, ReadsN (X.setCell ⟨w.heap.size, 0, none⟩ v) (.slice (some ⟨gn, 0, none⟩) ps.length cn) (ps.map (·.1))) := fun v => (hQ.keep (fun k h1 h2 => hset13 X w.heap.size 0 v (fun e => by omega))).reads hpl
          have c0 := Lib.cell_of_heap hQ.blk 0
          have cd4 := Lib.cell_of_heap hd4 0
          have fd4 := Lib.frozen_of_heap hd4 0
          have HJE := hideT hje
          have hnj : ¬ ((j : Int) < (ks.length : Int)) := by omega
          clear hQ hOk hbd hBX HI hje
          go_wp2
          have hds : (X.setCell ⟨w.heap.size, 0, none⟩ (.slice (some ⟨gn, 0, none⟩) ps.length cn)).heap[w.heap.size]? = some (.cells #[.slice (some ⟨gn, 0, none⟩) ps.length cn] 24 (0, 0)) := heap_set13 hd4 _
          refine ret_D13 (b := w.heap.size) rfl rfl rfl rfl hds ?_
          rw [hPR.out]
          exact ⟨_, rfl, HR.out _, hB4.out.setCell (Nat.le_refl _) _⟩
      · have hPR : Hid (parseR s = ([], er)) := by
          show parseR s = _
          rw [HX.out]
          unfold Tre.parseT
          rw [hbe]
        have q1 : ((er : Int) == 0) = false := by rcases her with h9 | h9 <;> rw [h9] <;> rfl
        have q2 : ((er : Int) != 0) = true := by rcases her with h9 | h9 <;> rw [h9] <;> rfl
        have hB4 : Hid (Below w.heap.size w X) := (HB1.out.trans (HB13.out.mono (Nat.le_of_lt hdB))).trans (hBX.mono (Nat.le_of_lt hdB))
        have hd4 := (hBX.block w.heap.size hdB).trans HD3.out
        have cd4 := Lib.cell_of_heap hd4 0
        have fd4 := Lib.frozen_of_heap hd4 0
        clear her hbe hBX HI
        by_cases hjl : j < ks.length
        · have hji : (j : Int) < (ks.length : Int) := by omega
          clear hjl
          go_wp2
          refine ret_D13 (b := w.heap.size) rfl rfl rfl rfl (heap_set13 hd4 _) ?_
          rw [hPR.out]
          exact ⟨_, rfl, .inl ⟨none, 0, rfl, rfl⟩, hB4.out.setCell (Nat.le_refl _) _⟩
        · have hji : ¬ (j : Int) < (ks.length : Int) := by omega
          clear hjl
          go_wp2
          refine ret_D13 (b := w.heap.size) rfl rfl rfl rfl (heap_set13 hd4 _) ?_
          rw [hPR.out]
          exact ⟨_, rfl, .inl ⟨none, 0, rfl, rfl⟩, hB4.out.setCell (Nat.le_refl _) _⟩
  · have HX : Hid (parseR s = ([], (allR s).2)) := if_neg hq
    generalize hW0 : (w.alloc (.cells #[.slice none 0 0] 24)) = W0 at *
    generalize allR s = x at *
    obtain ⟨ks, q⟩ := x
    simp only at hq HX hfit
    have q1 : ((q : Int) != 0) = true := by simp; omega
    have HW0 := hideT hW0
    clear hW0
    have HB0 := hideT hb0
    go_enter Try.func32, Try.ntmps32
    go_upto_region 1 with fail
    rw [HW0.out]
    go_wp2_with (go_at_call 51; refine hA.mono ?_; rintro e w1 ⟨ad, ln, cp, rfl, hK, hb1⟩; have hd4 := (hb1.block w.heap.size (by omega)).trans hd0; have hB4 := hideT (HB0.out.trans (hb1.mono HB0.out.size)); have cd4 := Lib.cell_of_heap hd4 0; have fd4 := Lib.frozen_of_heap hd4 0; clear hA hK hb1)
    refine ret_D13 (b := w.heap.size) rfl rfl rfl rfl (heap_set13 hd4 _) ?_
    rw [HX.out]
    exact ⟨_, rfl, .inl ⟨none, 0, rfl, rfl⟩, hB4.out.setCell (Nat.le_refl _) _⟩
end Go.Proofs.Ytoiedadfpbbdgaa
