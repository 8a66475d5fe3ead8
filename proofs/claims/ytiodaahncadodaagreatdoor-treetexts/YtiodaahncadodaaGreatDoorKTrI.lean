/- The contract of the reference's All. -/
import Derived.Test.YtiodaahncadodaaGreatDoorKTrE
import Derived.Test.YtiodaahncadodaaGreatDoorKTrFH
import Derived.Test.YtiodaahncadodaaGreatDoorKTkSV
import Derived.Test.YtiodaahncadodaaGreatDoorKTkW
set_option linter.unusedVariables false
set_option linter.unusedSimpArgs false
namespace Go.Proofs.YtiodaahncadodaaGreatDoor
open Go.RowKit
def RAllPost (w : World) (x : List Tk.Tok × Nat) (e : Ending) (w' : World) : Prop :=
  ∃ ad ln cp, e = .returned (.tuple #[.slice ad ln cp, .int .i64 x.2]) ∧ KS w' w.heap.size (.slice ad ln cp) x.1 ∧ Below w.heap.size w w'
theorem step_zero (l : List UInt8) (hne : l ≠ []) (t : Tk.Tok) (n : Nat) (h : Tk.next l = (t, n)) (hk : t.kind = 0) : Tk.all l = Tk.all (l.drop n) := by
  rw [Tk.all_go l hne]
  unfold Tk.stepT
  rw [h]
  simp only
  rw [if_neg (by omega), if_pos hk]
  rfl
theorem step_one (l : List UInt8) (hne : l ≠ []) (t : Tk.Tok) (n : Nat) (h : Tk.next l = (t, n)) (hk : t.kind ≠ 0) (hr : ¬ (t.kind = 1 ∧ Tk.isRaw t.name = true)) : Tk.all l = t :: Tk.all (l.drop n) := by
  rw [Tk.all_go l hne]
  unfold Tk.stepT
  rw [h]
  simp only
  rw [if_neg hr, if_neg hk]
  rfl
theorem step_raw0 (l : List UInt8) (hne : l ≠ []) (t : Tk.Tok) (n : Nat) (h : Tk.next l = (t, n)) (hr : t.kind = 1 ∧ Tk.isRaw t.name = true) (he : Tk.ends t.name (l.drop n) = 0) : Tk.all l = t :: Tk.all (l.drop n) := by
  rw [Tk.all_go l hne]
  unfold Tk.stepT
  rw [h]
  simp only
  rw [if_pos hr, if_pos he, he]
  rfl
theorem step_raw1 (l : List UInt8) (hne : l ≠ []) (t : Tk.Tok) (n : Nat) (h : Tk.next l = (t, n)) (hr : t.kind = 1 ∧ Tk.isRaw t.name = true) (e : Nat) (hee : Tk.ends t.name (l.drop n) = e) (he : e ≠ 0) : Tk.all l = t :: ⟨3, [], [], false, if Tk.isDec t.name = true then Rf.dec false ((l.drop n).take e) else (l.drop n).take e⟩ :: Tk.all ((l.drop n).drop e) := by
  rw [Tk.all_go l hne]
  unfold Tk.stepT
  rw [h]
  simp only
  rw [if_pos hr, hee, if_neg he]
  rfl
theorem tag_oneA (l : List UInt8) (k : Tk.Tok) (r : List UInt8) (h : Tk.tag l = some (k, r)) : k.kind = 1 := by
  unfold Tk.tag at h
  split at h
  · cases h
  · cases h
    rfl
theorem next_zeroA (l : List UInt8) (hk : (Tk.next l).1.kind = 0) : (Tk.next l).1.attrs = [] := by
  unfold Tk.next at hk ⊢
  by_cases h : l = []
  · rw [if_pos h]
    rfl
  rw [if_neg h] at hk ⊢
  by_cases ht : Tk.isTag l = false
  · rw [if_pos ht]
    rfl
  rw [if_neg ht] at hk ⊢
  by_cases h1 : Tk.atLetter (l.drop 1) = true
  · rw [if_pos h1] at hk ⊢
    cases he : Tk.tag (l.drop 1) with
    | none => rfl
    | some x =>
      obtain ⟨k, r⟩ := x
      rw [he] at hk
      have := tag_oneA _ k r he
      have hk2 : k.kind = 0 := hk
      omega
  rw [if_neg h1] at hk ⊢
  split
  · split <;> rfl
  split
  · rfl
  split <;> rfl
theorem next_nameA (l : List UInt8) : (Tk.next l).1.name.length ≤ l.length := (Tk.next_size l).sz.1
set_option maxHeartbeats 20000000 in
set_option maxRecDepth 100000 in
theorem RAll_any (s : List UInt8) (w : World) :
    Calls Tryz.prog 22 #[.string (str s)] w (RAllPost w (allR s)) := by
  have hsz := str_size s
  by_cases hs : 65536 < s.length
  · have HX : Hid (allR s = ([], 5)) := if_pos (.inl hs)
    have hgt : (65536 : Int) < (s.length : Int) := by omega
    go_enter Tryz.func22, Tryz.ntmps22
    go_wp2
    go_ret2
    unfold RAllPost
    rw [HX.out]
    exact ⟨none, 0, 0, rfl, KS.nil _ _, Below.refl _ _⟩
  · have HX : Hid (allR s = if 16384 < (Tk.all (Tk.clean s)).length then ([], 5) else (Tk.all (Tk.clean s), 0)) := by
      show allR s = _
      unfold allR
      simp [hs]
    have hC := RClean_any s w (by omega)
    have hcl := clean_len3 s
    have hle : (s.length : Int) ≤ 65536 := by omega
    have hc1 : (Tk.clean s).length ≤ 1000000 := by omega
    generalize Tk.clean s = c at *
    clear hs hcl
    go_enter Tryz.func22, Tryz.ntmps22
    go_wp2_with (go_at_call 46; refine hC.mono ?_; rintro e w1 ⟨rfl, hb1⟩; have HB1 := hideT hb1; clear hb1)
    go_loopw [0, 4] (fun x v wr => ∃ (ks : List Tk.Tok) (l : List UInt8) (xv : Value), x = .string (str l) ∧ v = xv ∧ Hid (Tk.all c = ks ++ Tk.all l) ∧ ks.length ≤ 16384 ∧ KS wr w.heap.size xv ks ∧ l.length ≤ 1000000 ∧ Below w.heap.size w wr) (fun x _ _ => match x with | .string y => y.size | _ => 0)
    case atStart => exact ⟨[], c, _, rfl, rfl, rfl, Nat.zero_le _, KS.nil _ _, hc1, HB1.out⟩
    case round =>
      obtain ⟨ks, l, xv, rfl, rfl, HA, hkl, hK, hll, hB⟩ := hrel
      have HB := hideT hB
      have hbs := hB.size
      obtain ⟨xa, xc, rfl⟩ := hK.form
      have HSL := hideT (fun k (h : (Value.slice xa ks.length xc).ownBlock = some k) => (hK.at_base h).2)
      have hszl := str_size l
      have HK := hideT hK
      clear hK hB hC hc1 HB1
      by_cases hl : l = []
      · subst hl
        have HE : Hid (allR s = (ks, 0)) := by
          show allR s = _
          rw [HX.out, HA.out, Tk.all_nil, List.append_nil, if_neg (by omega)]
        clear HX HA
        go_wp2
        go_ret2
        unfold RAllPost
        rw [HE.out]
        exact ⟨_, _, _, rfl, HK.out, HB.out⟩
      · have hpos : 0 < l.length := by cases l <;> simp at hl ⊢
        obtain ⟨n1, n2, n3, n4⟩ := Tk.next_len l hl
        have hat : (Tk.next l).1.attrs.length ≤ 1000000 := by
          by_cases hk : (Tk.next l).1.kind = 0
          · rw [next_zeroA l hk]
            exact Nat.zero_le _
          · have := Tk.fine_ats _ (Tk.next_fine l hl hk)
            omega
        have hnm : (Tk.next l).1.name.length ≤ 1000000 := Nat.le_trans (next_nameA l) hll
        have HN := hideT (fun W => RNextT_any l W (by omega))
        obtain ⟨t, n, hnx⟩ : ∃ t n, Tk.next l = (t, n) := ⟨_, _, rfl⟩
        have HS0 := hideT (step_zero l hl t n hnx)
        have HS1 := hideT (step_one l hl t n hnx)
        have HS2 := hideT (step_raw0 l hl t n hnx)
        have HS3 := hideT (step_raw1 l hl t n hnx)
        rw [hnx] at HN n1 n2 n3 n4 hat hnm
        clear hnx n3
        simp only at HN n1 n2 n4 hat hnm
        have hdr := str_from l n
        have hrl : (l.drop n).length = l.length - n := List.length_drop
        obtain ⟨r, hr⟩ : ∃ r, l.drop n = r := ⟨_, rfl⟩
        rw [hr] at hdr hrl HS0 HS1 HS2 HS3
        have hrs := str_size r
        have hrle : r.length + 1 ≤ l.length := by omega
        have HMeas := hideT hrle
        obtain ⟨kk, kn, ka, ksf, kx⟩ := t
        simp only at hat hnm n4
        have hRaw := RRaw_any kn
        have hpI : (0 : Int) < (l.length : Int) := by omega
        have hBw := hideT hbs
        clear hr hrl hl n1 n4 hpos hrle
        go_wp2_with fail
        go_at_call 47
        refine (HN.out _).mono ?_
        rintro e w2 ⟨ad, ln, cp, rfl, o2, hb2⟩
        have hs2 := hb2.size
        have hb3 : Below w2.heap.size w2 (w2.alloc (.cells (kCells kk kn (.slice ad ln cp) ksf kx) 48)) := (Below.refl _ _).alloc (Nat.le_refl _) _
        have T3 : Hid (RAt12 (w2.alloc (.cells (kCells kk kn (.slice ad ln cp) ksf kx) 48)) w2.heap.size (kCells kk kn (.slice ad ln cp) ksf kx)) := heap_new w2 _
        have K3 := hideT (HK.out.below (bel hb2 hb3))
        have B3 := hideT (bel HB.out (bel hb2 hb3))
        have O3 := hideT (OwnsPairs.mono (B := w.heap.size) (OwnsPairs.below o2 hb3) hBw.out)
        have hap : Hid (ApK (.slice ad ln cp) (.slice xa ks.length xc)) := fun k e1 e2 => by
          have q1 := (World.ownsRow.lt o2 k e1).1
          have q2 := HSL.out k e2
          omega
        have hne2 : Hid (some w2.heap.size ≠ (Value.slice xa ks.length xc).ownBlock) := fun e => by
          have := HSL.out _ e.symm
          omega
        clear HN hb2 o2 HK HB HSL
        go_upto_region 7 with fail
        generalize (w2.alloc (.cells (kCells kk kn (.slice ad ln cp) ksf kx) 48)) = W3 at *
        generalize w2.heap.size = b5 at *
        have c30 := Lib.cell_of_heap T3.out 0
        have c31 := Lib.cell_of_heap T3.out 1
        have hb5 : b5 < W3.heap.size := T3.out.lt
        by_cases h0 : kk = 0
        · subst h0
          have HA2 := hideT (HS0.out rfl)
          have HA3 : Hid (Tk.all c = ks ++ Tk.all r) := by show _ = _; rw [HA.out, HA2.out]
          clear HS0 HS1 HS2 HS3 HA HA2 HX
          go_wp2_with (go_at_call 48; refine (hRaw _).mono ?_; rintro e w4 ⟨rfl, hw⟩; rw [hw]; clear hw)
          go_roundw
          case rel => exact ⟨ks, r, _, rfl, rfl, HA3.out, hkl, K3.out, by have := HMeas.out; omega, B3.out⟩
          case measure => simp only [hszl, hrs]; have := HMeas.out; omega
        have n0 : ((kk : Int) != 0) = true := b_yes (kind_no h0)
        have hW4b : Below W3.heap.size W3 (W3.alloc (.cells (kCells kk kn (.slice ad ln cp) ksf kx) 48)) := (Below.refl _ _).alloc (Nat.le_refl _) _
        have K4 := hideT (K3.out.below hW4b)
        have O4 := hideT (OwnsPairs.below O3.out hW4b)
        have T4 := hideT (T3.out.step hW4b)
        have B4 := hideT (bel B3.out hW4b)
        have hx4 := hideT (cell_five_new W3 (.int .i64 kk) (.string (str kn)) (.slice ad ln cp) (.bool ksf) (.string (str kx)) 48)
        have hB4 := hideT B4.out.size
        have hl4 : ks.length ≤ 10000000 := by omega
        clear hW4b
        by_cases h1 : kk = 1
        · subst h1
          cases hraw : Tk.isRaw kn
          · rw [hraw] at hRaw
            have HA3 : Hid (Tk.all c = ks ++ (⟨1, kn, ka, ksf, kx⟩ : Tk.Tok) :: Tk.all r) := by show _ = _; rw [HA.out, HS1.out (by decide) (by simp [hraw])]
            clear HS0 HS1 HS2 HS3 HA hraw h0
            by_cases h64 : ks.length = 16384
            · have q64 : (16384 : Int) < (ks.length : Int) + 1 := by omega
              have HE : Hid (allR s = ([], 5)) := by
                show allR s = _
                rw [HX.out, HA3.out, if_pos (by rw [List.length_append, List.length_cons]; omega)]
              clear HX HA3 h64
              go_wp2_with (first
                | ((with_reducible show wpList _ _ _ ({ op := Op.load 48 _, .. } :: _) _ _); refine wpList_load_R _ rfl rfl b5 _ _ _ _ _ rfl T3.out ?_)
                | (at_builtin; refine wpList_append_tokR rfl (.tmp 30) (.tmp 32) rfl w.heap.size (.slice xa ks.length xc) ks rfl K4.out ⟨W3.heap.size, 0, none⟩ 1 rfl ⟨1, kn, ka, ksf, kx⟩ (.slice ad ln cp) hx4.out O4.out hap.out hl4 hB4.out ?_; intro v7 w7 K7 g7; have hb7 : Below w.heap.size _ w7 := (Below.refl _ _).grown g7 hB4.out (fun q hq => (K4.out.at_base hq).1); have T7 : RAt12 w7 b5 (kCells 1 kn (.slice ad ln cp) ksf kx) := grown_kept g7 T4.out hne2.out; have d0 := Lib.cell_of_heap T7 0; have d1 := Lib.cell_of_heap T7 1; have B7 := hideT (B4.out.trans hb7); obtain ⟨va7, vc7, rfl⟩ := K7.form; rw [show (ks ++ [(⟨1, kn, ka, ksf, kx⟩ : Tk.Tok)]).length = ks.length + 1 from by simp] at K7; have HK7 := hideT K7; have HT7 := hideT T7; clear K7 T7 g7 hb7 c30 c31)
                | (go_at_call 48; refine (hRaw _).mono ?_; rintro e w8 ⟨rfl, hw⟩; rw [hw]; clear hw))
              go_ret2
              unfold RAllPost
              rw [HE.out]
              exact ⟨none, 0, 0, rfl, KS.nil _ _, B7.out⟩
            · have q64 : ¬ (16384 : Int) < (ks.length : Int) + 1 := by omega
              have HA4 : Hid (Tk.all c = (ks ++ [(⟨1, kn, ka, ksf, kx⟩ : Tk.Tok)]) ++ Tk.all r) := by show _ = _; rw [HA3.out, List.append_assoc]; rfl
              have hlen : (ks ++ [(⟨1, kn, ka, ksf, kx⟩ : Tk.Tok)]).length ≤ 16384 := by rw [List.length_append, List.length_singleton]; omega
              clear HX HA3 h64
              go_wp2_with (first
                | ((with_reducible show wpList _ _ _ ({ op := Op.load 48 _, .. } :: _) _ _); refine wpList_load_R _ rfl rfl b5 _ _ _ _ _ rfl T3.out ?_)
                | (at_builtin; refine wpList_append_tokR rfl (.tmp 30) (.tmp 32) rfl w.heap.size (.slice xa ks.length xc) ks rfl K4.out ⟨W3.heap.size, 0, none⟩ 1 rfl ⟨1, kn, ka, ksf, kx⟩ (.slice ad ln cp) hx4.out O4.out hap.out hl4 hB4.out ?_; intro v7 w7 K7 g7; have hb7 : Below w.heap.size _ w7 := (Below.refl _ _).grown g7 hB4.out (fun q hq => (K4.out.at_base hq).1); have T7 : RAt12 w7 b5 (kCells 1 kn (.slice ad ln cp) ksf kx) := grown_kept g7 T4.out hne2.out; have d0 := Lib.cell_of_heap T7 0; have d1 := Lib.cell_of_heap T7 1; have B7 := hideT (B4.out.trans hb7); obtain ⟨va7, vc7, rfl⟩ := K7.form; rw [show (ks ++ [(⟨1, kn, ka, ksf, kx⟩ : Tk.Tok)]).length = ks.length + 1 from by simp] at K7; have HK7 := hideT K7; have HT7 := hideT T7; clear K7 T7 g7 hb7 c30 c31)
                | (go_at_call 48; refine (hRaw _).mono ?_; rintro e w8 ⟨rfl, hw⟩; rw [hw]; clear hw))
              go_roundw
              case rel => exact ⟨_, r, _, rfl, rfl, HA4.out, hlen, HK7.out, by have := HMeas.out; omega, B7.out⟩
              case measure => simp only [hszl, hrs]; have := HMeas.out; omega
          · rw [hraw] at hRaw
            obtain ⟨E, hE⟩ : ∃ E, Tk.ends kn r = E := ⟨_, rfl⟩
            have hEl := Tk.ends_le kn r
            have HEnd := hideT (fun W => Rends_any r kn W (by have := HMeas.out; omega) hnm)
            rw [hE] at hEl HEnd
            have hcut := str_to r E
            have hdr5 := str_from r E
            have hl5 : (ks ++ [(⟨1, kn, ka, ksf, kx⟩ : Tk.Tok)]).length ≤ 10000000 := by rw [List.length_append, List.length_singleton]; omega
            by_cases hE0 : E = 0
            · have HA3 : Hid (Tk.all c = ks ++ (⟨1, kn, ka, ksf, kx⟩ : Tk.Tok) :: Tk.all r) := by show _ = _; rw [HA.out, HS2.out ⟨rfl, hraw⟩ (hE.trans hE0)]
              subst hE0
              have hc0 : (str r).extract 0 r.length = str r := by rw [str_to, List.take_length]
              have HDe := hideT (fun W => RDecode_any (r.take 0) false W (by simp))
              clear HS0 HS1 HS2 HS3 HA hraw h0 hE
              cases hdec : Tk.isDec kn
              all_goals
                rw [hdec] at hRaw
                clear hdec
                by_cases h64 : ks.length = 16384
                · have q64 : (16384 : Int) < (ks.length : Int) + 1 := by omega
                  have HE : Hid (allR s = ([], 5)) := by
                    show allR s = _
                    rw [HX.out, HA3.out, if_pos (by rw [List.length_append, List.length_cons]; omega)]
                  clear HX HA3 h64
                  go_wp2_with (first
                    | ((with_reducible show wpList _ _ _ ({ op := Op.load 48 _, .. } :: _) _ _); refine wpList_load_R _ rfl rfl b5 _ _ _ _ _ rfl T3.out ?_)
                    | (at_builtin; refine wpList_append_tokR rfl (.tmp 30) (.tmp 32) rfl w.heap.size (.slice xa ks.length xc) ks rfl K4.out ⟨W3.heap.size, 0, none⟩ 1 rfl ⟨1, kn, ka, ksf, kx⟩ (.slice ad ln cp) hx4.out O4.out hap.out hl4 hB4.out ?_; intro v7 w7 K7 g7; have hb7 : Below w.heap.size _ w7 := (Below.refl _ _).grown g7 hB4.out (fun q hq => (K4.out.at_base hq).1); have T7 : RAt12 w7 b5 (kCells 1 kn (.slice ad ln cp) ksf kx) := grown_kept g7 T4.out hne2.out; have d0 := Lib.cell_of_heap T7 0; have d1 := Lib.cell_of_heap T7 1; have B7 := hideT (B4.out.trans hb7); obtain ⟨va7, vc7, rfl⟩ := K7.form; rw [show (ks ++ [(⟨1, kn, ka, ksf, kx⟩ : Tk.Tok)]).length = ks.length + 1 from by simp] at K7; have HK7 := hideT K7; have HT7 := hideT T7; clear K7 T7 g7 hb7 c30 c31)
                    | (go_at_call 48; refine (hRaw _).mono ?_; rintro e w8 ⟨rfl, hw⟩; rw [hw]; clear hw)
                    | (go_at_call 49; refine (HEnd.out _).mono ?_; rintro e w9 ⟨rfl, hb9⟩; have HK9 := hideT (HK7.out.below hb9); have B9 := hideT (bel B7.out hb9); clear hb9)
                    | (go_at_call 50; (try rw [hcut]); refine (HDe.out _).mono ?_; rintro e w10 ⟨rfl, hb10⟩; have HK10 := hideT (HK9.out.below hb10); have B10 := hideT (bel B9.out hb10); clear hb10))
                  go_ret2
                  unfold RAllPost
                  rw [HE.out]
                  exact ⟨none, 0, 0, rfl, KS.nil _ _, (by first | exact B10.out | exact B9.out)⟩
                · have q64 : ¬ (16384 : Int) < (ks.length : Int) + 1 := by omega
                  have HA4 : Hid (Tk.all c = (ks ++ [(⟨1, kn, ka, ksf, kx⟩ : Tk.Tok)]) ++ Tk.all r) := by show _ = _; rw [HA3.out, List.append_assoc]; rfl
                  have hlen : (ks ++ [(⟨1, kn, ka, ksf, kx⟩ : Tk.Tok)]).length ≤ 16384 := by rw [List.length_append, List.length_singleton]; omega
                  clear HX HA3 h64
                  go_wp2_with (first
                    | ((with_reducible show wpList _ _ _ ({ op := Op.load 48 _, .. } :: _) _ _); refine wpList_load_R _ rfl rfl b5 _ _ _ _ _ rfl T3.out ?_)
                    | (at_builtin; refine wpList_append_tokR rfl (.tmp 30) (.tmp 32) rfl w.heap.size (.slice xa ks.length xc) ks rfl K4.out ⟨W3.heap.size, 0, none⟩ 1 rfl ⟨1, kn, ka, ksf, kx⟩ (.slice ad ln cp) hx4.out O4.out hap.out hl4 hB4.out ?_; intro v7 w7 K7 g7; have hb7 : Below w.heap.size _ w7 := (Below.refl _ _).grown g7 hB4.out (fun q hq => (K4.out.at_base hq).1); have T7 : RAt12 w7 b5 (kCells 1 kn (.slice ad ln cp) ksf kx) := grown_kept g7 T4.out hne2.out; have d0 := Lib.cell_of_heap T7 0; have d1 := Lib.cell_of_heap T7 1; have B7 := hideT (B4.out.trans hb7); obtain ⟨va7, vc7, rfl⟩ := K7.form; rw [show (ks ++ [(⟨1, kn, ka, ksf, kx⟩ : Tk.Tok)]).length = ks.length + 1 from by simp] at K7; have HK7 := hideT K7; have HT7 := hideT T7; clear K7 T7 g7 hb7 c30 c31)
                    | (go_at_call 48; refine (hRaw _).mono ?_; rintro e w8 ⟨rfl, hw⟩; rw [hw]; clear hw)
                    | (go_at_call 49; refine (HEnd.out _).mono ?_; rintro e w9 ⟨rfl, hb9⟩; have HK9 := hideT (HK7.out.below hb9); have B9 := hideT (bel B7.out hb9); clear hb9)
                    | (go_at_call 50; (try rw [hcut]); refine (HDe.out _).mono ?_; rintro e w10 ⟨rfl, hb10⟩; have HK10 := hideT (HK9.out.below hb10); have B10 := hideT (bel B9.out hb10); clear hb10))
                  go_roundw
                  case rel => exact ⟨_, r, _, rfl, rfl, HA4.out, hlen, (by first | exact HK10.out | exact HK9.out), by have := HMeas.out; omega, (by first | exact B10.out | exact B9.out)⟩
                  case measure => simp only [hszl, hrs]; have := HMeas.out; omega
            · have hEp : (0 : Int) < (E : Int) := by omega
              have HD3 := hideT (HS3.out ⟨rfl, hraw⟩ E hE hE0)
              have HDe := hideT (fun W => RDecode_any (r.take E) false W (by rw [List.length_take]; have := HMeas.out; omega))
              clear HS0 HS1 HS2 HS3 hraw h0 hE hE0
              cases hdec : Tk.isDec kn
              · rw [hdec] at hRaw HD3
                have HA3 : Hid (Tk.all c = ks ++ (⟨1, kn, ka, ksf, kx⟩ : Tk.Tok) :: (⟨3, [], [], false, r.take E⟩ : Tk.Tok) :: Tk.all (r.drop E)) := by show _ = _; rw [HA.out, HD3.out]; rfl
                clear HA HD3 hdec HDe
                generalize hy : r.take E = y at *
                by_cases h64 : 16384 < ks.length + 2
                · have q64 : (16384 : Int) < (ks.length : Int) + 2 := by omega
                  have HE : Hid (allR s = ([], 5)) := by
                    show allR s = _
                    rw [HX.out, HA3.out, if_pos (by rw [List.length_append, List.length_cons, List.length_cons]; omega)]
                  clear HX HA3 h64
                  go_wp2_with (first
                    | ((with_reducible show wpList _ _ _ ({ op := Op.load 48 _, .. } :: _) _ _); refine wpList_load_R _ rfl rfl b5 _ _ _ _ _ rfl T3.out ?_)
                    | (at_builtin; refine wpList_append_tokR rfl (.tmp 30) (.tmp 32) rfl w.heap.size (.slice xa ks.length xc) ks rfl K4.out ⟨W3.heap.size, 0, none⟩ 1 rfl ⟨1, kn, ka, ksf, kx⟩ (.slice ad ln cp) hx4.out O4.out hap.out hl4 hB4.out ?_; intro v7 w7 K7 g7; have hb7 : Below w.heap.size _ w7 := (Below.refl _ _).grown g7 hB4.out (fun q hq => (K4.out.at_base hq).1); have T7 : RAt12 w7 b5 (kCells 1 kn (.slice ad ln cp) ksf kx) := grown_kept g7 T4.out hne2.out; have d0 := Lib.cell_of_heap T7 0; have d1 := Lib.cell_of_heap T7 1; have B7 := hideT (B4.out.trans hb7); obtain ⟨va7, vc7, rfl⟩ := K7.form; rw [show (ks ++ [(⟨1, kn, ka, ksf, kx⟩ : Tk.Tok)]).length = ks.length + 1 from by simp] at K7; have HK7 := hideT K7; have HT7 := hideT T7; clear K7 T7 g7 hb7 c30 c31)
                    | (go_at_call 48; refine (hRaw _).mono ?_; rintro e w8 ⟨rfl, hw⟩; rw [hw]; clear hw)
                    | (go_at_call 49; refine (HEnd.out _).mono ?_; rintro e w9 ⟨rfl, hb9⟩; have HK9 := hideT (HK7.out.below hb9); have B9 := hideT (bel B7.out hb9); clear hb9)
                    | (at_builtin; refine wpList_append_tokR rfl (.tmp 58) (.tmp 61) rfl w.heap.size (.slice va7 (ks.length + 1) vc7) (ks ++ [(⟨1, kn, ka, ksf, kx⟩ : Tk.Tok)]) rfl (HK9.out.below ((Below.refl _ w9).alloc (Nat.le_refl _) _)) ⟨w9.heap.size, 0, none⟩ 1 rfl ⟨3, [], [], false, y⟩ (.slice none 0 0) (cell_five_new w9 (.int .i64 3) (.string ByteArray.empty) (.slice none 0 0) (.bool false) (.string (str y)) 48) (OwnsPairs.nil _ _ _) (fun k e => by cases e) hl5 (by have := B9.out.size; simp; omega) ?_; intro v11 w11 K11 g11; have B11 := hideT ((B9.out.alloc B9.out.size (.cells #[.int .i64 3, .string ByteArray.empty, .slice none 0 0, .bool false, .string (str y)] 48)).grown g11 (by have := B9.out.size; simp; omega) (fun q hq => (HK9.out.at_base hq).1)); obtain ⟨va11, vc11, rfl⟩ := K11.form; rw [show ((ks ++ [(⟨1, kn, ka, ksf, kx⟩ : Tk.Tok)]) ++ [(⟨3, [], [], false, y⟩ : Tk.Tok)]).length = ks.length + 2 from by simp] at K11; have HK11 := hideT K11; clear K11 g11))
                  go_ret2
                  unfold RAllPost
                  rw [HE.out]
                  exact ⟨none, 0, 0, rfl, KS.nil _ _, B11.out⟩
                · have q64 : ¬ (16384 : Int) < (ks.length : Int) + 2 := by omega
                  have HA4 : Hid (Tk.all c = ((ks ++ [(⟨1, kn, ka, ksf, kx⟩ : Tk.Tok)]) ++ [(⟨3, [], [], false, y⟩ : Tk.Tok)]) ++ Tk.all (r.drop E)) := by show _ = _; rw [HA3.out]; simp
                  have hlen : ((ks ++ [(⟨1, kn, ka, ksf, kx⟩ : Tk.Tok)]) ++ [(⟨3, [], [], false, y⟩ : Tk.Tok)]).length ≤ 16384 := by simp only [List.length_append, List.length_cons, List.length_nil]; omega
                  clear HX HA3 h64
                  go_wp2_with (first
                    | ((with_reducible show wpList _ _ _ ({ op := Op.load 48 _, .. } :: _) _ _); refine wpList_load_R _ rfl rfl b5 _ _ _ _ _ rfl T3.out ?_)
                    | (at_builtin; refine wpList_append_tokR rfl (.tmp 30) (.tmp 32) rfl w.heap.size (.slice xa ks.length xc) ks rfl K4.out ⟨W3.heap.size, 0, none⟩ 1 rfl ⟨1, kn, ka, ksf, kx⟩ (.slice ad ln cp) hx4.out O4.out hap.out hl4 hB4.out ?_; intro v7 w7 K7 g7; have hb7 : Below w.heap.size _ w7 := (Below.refl _ _).grown g7 hB4.out (fun q hq => (K4.out.at_base hq).1); have T7 : RAt12 w7 b5 (kCells 1 kn (.slice ad ln cp) ksf kx) := grown_kept g7 T4.out hne2.out; have d0 := Lib.cell_of_heap T7 0; have d1 := Lib.cell_of_heap T7 1; have B7 := hideT (B4.out.trans hb7); obtain ⟨va7, vc7, rfl⟩ := K7.form; rw [show (ks ++ [(⟨1, kn, ka, ksf, kx⟩ : Tk.Tok)]).length = ks.length + 1 from by simp] at K7; have HK7 := hideT K7; have HT7 := hideT T7; clear K7 T7 g7 hb7 c30 c31)
                    | (go_at_call 48; refine (hRaw _).mono ?_; rintro e w8 ⟨rfl, hw⟩; rw [hw]; clear hw)
                    | (go_at_call 49; refine (HEnd.out _).mono ?_; rintro e w9 ⟨rfl, hb9⟩; have HK9 := hideT (HK7.out.below hb9); have B9 := hideT (bel B7.out hb9); clear hb9)
                    | (at_builtin; refine wpList_append_tokR rfl (.tmp 58) (.tmp 61) rfl w.heap.size (.slice va7 (ks.length + 1) vc7) (ks ++ [(⟨1, kn, ka, ksf, kx⟩ : Tk.Tok)]) rfl (HK9.out.below ((Below.refl _ w9).alloc (Nat.le_refl _) _)) ⟨w9.heap.size, 0, none⟩ 1 rfl ⟨3, [], [], false, y⟩ (.slice none 0 0) (cell_five_new w9 (.int .i64 3) (.string ByteArray.empty) (.slice none 0 0) (.bool false) (.string (str y)) 48) (OwnsPairs.nil _ _ _) (fun k e => by cases e) hl5 (by have := B9.out.size; simp; omega) ?_; intro v11 w11 K11 g11; have B11 := hideT ((B9.out.alloc B9.out.size (.cells #[.int .i64 3, .string ByteArray.empty, .slice none 0 0, .bool false, .string (str y)] 48)).grown g11 (by have := B9.out.size; simp; omega) (fun q hq => (HK9.out.at_base hq).1)); obtain ⟨va11, vc11, rfl⟩ := K11.form; rw [show ((ks ++ [(⟨1, kn, ka, ksf, kx⟩ : Tk.Tok)]) ++ [(⟨3, [], [], false, y⟩ : Tk.Tok)]).length = ks.length + 2 from by simp] at K11; have HK11 := hideT K11; clear K11 g11))
                  go_roundw
                  case rel => exact ⟨_, r.drop E, _, rfl, rfl, HA4.out, hlen, HK11.out, by have := HMeas.out; rw [List.length_drop]; omega, B11.out⟩
                  case measure => simp only [hszl, str_size, List.length_drop]; have := HMeas.out; omega
              · rw [hdec] at hRaw HD3
                have HA3 : Hid (Tk.all c = ks ++ (⟨1, kn, ka, ksf, kx⟩ : Tk.Tok) :: (⟨3, [], [], false, Rf.dec false (r.take E)⟩ : Tk.Tok) :: Tk.all (r.drop E)) := by show _ = _; rw [HA.out, HD3.out]; rfl
                clear HA HD3 hdec
                generalize Rf.dec false (r.take E) = y at *
                by_cases h64 : 16384 < ks.length + 2
                · have q64 : (16384 : Int) < (ks.length : Int) + 2 := by omega
                  have HE : Hid (allR s = ([], 5)) := by
                    show allR s = _
                    rw [HX.out, HA3.out, if_pos (by rw [List.length_append, List.length_cons, List.length_cons]; omega)]
                  clear HX HA3 h64
                  go_wp2_with (first
                    | ((with_reducible show wpList _ _ _ ({ op := Op.load 48 _, .. } :: _) _ _); refine wpList_load_R _ rfl rfl b5 _ _ _ _ _ rfl T3.out ?_)
                    | (at_builtin; refine wpList_append_tokR rfl (.tmp 30) (.tmp 32) rfl w.heap.size (.slice xa ks.length xc) ks rfl K4.out ⟨W3.heap.size, 0, none⟩ 1 rfl ⟨1, kn, ka, ksf, kx⟩ (.slice ad ln cp) hx4.out O4.out hap.out hl4 hB4.out ?_; intro v7 w7 K7 g7; have hb7 : Below w.heap.size _ w7 := (Below.refl _ _).grown g7 hB4.out (fun q hq => (K4.out.at_base hq).1); have T7 : RAt12 w7 b5 (kCells 1 kn (.slice ad ln cp) ksf kx) := grown_kept g7 T4.out hne2.out; have d0 := Lib.cell_of_heap T7 0; have d1 := Lib.cell_of_heap T7 1; have B7 := hideT (B4.out.trans hb7); obtain ⟨va7, vc7, rfl⟩ := K7.form; rw [show (ks ++ [(⟨1, kn, ka, ksf, kx⟩ : Tk.Tok)]).length = ks.length + 1 from by simp] at K7; have HK7 := hideT K7; have HT7 := hideT T7; clear K7 T7 g7 hb7 c30 c31)
                    | (go_at_call 48; refine (hRaw _).mono ?_; rintro e w8 ⟨rfl, hw⟩; rw [hw]; clear hw)
                    | (go_at_call 49; refine (HEnd.out _).mono ?_; rintro e w9 ⟨rfl, hb9⟩; have HK9 := hideT (HK7.out.below hb9); have B9 := hideT (bel B7.out hb9); clear hb9)
                    | (go_at_call 50; (try rw [hcut]); refine (HDe.out _).mono ?_; rintro e w10 ⟨rfl, hb10⟩; have HK10 := hideT (HK9.out.below hb10); have B10 := hideT (bel B9.out hb10); clear hb10)
                    | (at_builtin; refine wpList_append_tokR rfl (.tmp 58) (.tmp 61) rfl w.heap.size (.slice va7 (ks.length + 1) vc7) (ks ++ [(⟨1, kn, ka, ksf, kx⟩ : Tk.Tok)]) rfl (HK10.out.below ((Below.refl _ w10).alloc (Nat.le_refl _) _)) ⟨w10.heap.size, 0, none⟩ 1 rfl ⟨3, [], [], false, y⟩ (.slice none 0 0) (cell_five_new w10 (.int .i64 3) (.string ByteArray.empty) (.slice none 0 0) (.bool false) (.string (str y)) 48) (OwnsPairs.nil _ _ _) (fun k e => by cases e) hl5 (by have := B10.out.size; simp; omega) ?_; intro v11 w11 K11 g11; have B11 := hideT ((B10.out.alloc B10.out.size (.cells #[.int .i64 3, .string ByteArray.empty, .slice none 0 0, .bool false, .string (str y)] 48)).grown g11 (by have := B10.out.size; simp; omega) (fun q hq => (HK10.out.at_base hq).1)); obtain ⟨va11, vc11, rfl⟩ := K11.form; rw [show ((ks ++ [(⟨1, kn, ka, ksf, kx⟩ : Tk.Tok)]) ++ [(⟨3, [], [], false, y⟩ : Tk.Tok)]).length = ks.length + 2 from by simp] at K11; have HK11 := hideT K11; clear K11 g11))
                  go_ret2
                  unfold RAllPost
                  rw [HE.out]
                  exact ⟨none, 0, 0, rfl, KS.nil _ _, B11.out⟩
                · have q64 : ¬ (16384 : Int) < (ks.length : Int) + 2 := by omega
                  have HA4 : Hid (Tk.all c = ((ks ++ [(⟨1, kn, ka, ksf, kx⟩ : Tk.Tok)]) ++ [(⟨3, [], [], false, y⟩ : Tk.Tok)]) ++ Tk.all (r.drop E)) := by show _ = _; rw [HA3.out]; simp
                  have hlen : ((ks ++ [(⟨1, kn, ka, ksf, kx⟩ : Tk.Tok)]) ++ [(⟨3, [], [], false, y⟩ : Tk.Tok)]).length ≤ 16384 := by simp only [List.length_append, List.length_cons, List.length_nil]; omega
                  clear HX HA3 h64
                  go_wp2_with (first
                    | ((with_reducible show wpList _ _ _ ({ op := Op.load 48 _, .. } :: _) _ _); refine wpList_load_R _ rfl rfl b5 _ _ _ _ _ rfl T3.out ?_)
                    | (at_builtin; refine wpList_append_tokR rfl (.tmp 30) (.tmp 32) rfl w.heap.size (.slice xa ks.length xc) ks rfl K4.out ⟨W3.heap.size, 0, none⟩ 1 rfl ⟨1, kn, ka, ksf, kx⟩ (.slice ad ln cp) hx4.out O4.out hap.out hl4 hB4.out ?_; intro v7 w7 K7 g7; have hb7 : Below w.heap.size _ w7 := (Below.refl _ _).grown g7 hB4.out (fun q hq => (K4.out.at_base hq).1); have T7 : RAt12 w7 b5 (kCells 1 kn (.slice ad ln cp) ksf kx) := grown_kept g7 T4.out hne2.out; have d0 := Lib.cell_of_heap T7 0; have d1 := Lib.cell_of_heap T7 1; have B7 := hideT (B4.out.trans hb7); obtain ⟨va7, vc7, rfl⟩ := K7.form; rw [show (ks ++ [(⟨1, kn, ka, ksf, kx⟩ : Tk.Tok)]).length = ks.length + 1 from by simp] at K7; have HK7 := hideT K7; have HT7 := hideT T7; clear K7 T7 g7 hb7 c30 c31)
                    | (go_at_call 48; refine (hRaw _).mono ?_; rintro e w8 ⟨rfl, hw⟩; rw [hw]; clear hw)
                    | (go_at_call 49; refine (HEnd.out _).mono ?_; rintro e w9 ⟨rfl, hb9⟩; have HK9 := hideT (HK7.out.below hb9); have B9 := hideT (bel B7.out hb9); clear hb9)
                    | (go_at_call 50; (try rw [hcut]); refine (HDe.out _).mono ?_; rintro e w10 ⟨rfl, hb10⟩; have HK10 := hideT (HK9.out.below hb10); have B10 := hideT (bel B9.out hb10); clear hb10)
                    | (at_builtin; refine wpList_append_tokR rfl (.tmp 58) (.tmp 61) rfl w.heap.size (.slice va7 (ks.length + 1) vc7) (ks ++ [(⟨1, kn, ka, ksf, kx⟩ : Tk.Tok)]) rfl (HK10.out.below ((Below.refl _ w10).alloc (Nat.le_refl _) _)) ⟨w10.heap.size, 0, none⟩ 1 rfl ⟨3, [], [], false, y⟩ (.slice none 0 0) (cell_five_new w10 (.int .i64 3) (.string ByteArray.empty) (.slice none 0 0) (.bool false) (.string (str y)) 48) (OwnsPairs.nil _ _ _) (fun k e => by cases e) hl5 (by have := B10.out.size; simp; omega) ?_; intro v11 w11 K11 g11; have B11 := hideT ((B10.out.alloc B10.out.size (.cells #[.int .i64 3, .string ByteArray.empty, .slice none 0 0, .bool false, .string (str y)] 48)).grown g11 (by have := B10.out.size; simp; omega) (fun q hq => (HK10.out.at_base hq).1)); obtain ⟨va11, vc11, rfl⟩ := K11.form; rw [show ((ks ++ [(⟨1, kn, ka, ksf, kx⟩ : Tk.Tok)]) ++ [(⟨3, [], [], false, y⟩ : Tk.Tok)]).length = ks.length + 2 from by simp] at K11; have HK11 := hideT K11; clear K11 g11))
                  go_roundw
                  case rel => exact ⟨_, r.drop E, _, rfl, rfl, HA4.out, hlen, HK11.out, by have := HMeas.out; rw [List.length_drop]; omega, B11.out⟩
                  case measure => simp only [hszl, str_size, List.length_drop]; have := HMeas.out; omega
        · have q1 : ((kk : Int) == 1) = false := kind_no h1
          have HA3 : Hid (Tk.all c = ks ++ (⟨kk, kn, ka, ksf, kx⟩ : Tk.Tok) :: Tk.all r) := by show _ = _; rw [HA.out, HS1.out h0 (fun e => h1 e.1)]
          clear HS0 HS1 HS2 HS3 HA h0 h1
          by_cases h64 : ks.length = 16384
          · have q64 : (16384 : Int) < (ks.length : Int) + 1 := by omega
            have HE : Hid (allR s = ([], 5)) := by
              show allR s = _
              rw [HX.out, HA3.out, if_pos (by rw [List.length_append, List.length_cons]; omega)]
            clear HX HA3 h64
            go_wp2_with (first
              | ((with_reducible show wpList _ _ _ ({ op := Op.load 48 _, .. } :: _) _ _); refine wpList_load_R _ rfl rfl b5 _ _ _ _ _ rfl T3.out ?_)
              | (at_builtin; refine wpList_append_tokR rfl (.tmp 30) (.tmp 32) rfl w.heap.size (.slice xa ks.length xc) ks rfl K4.out ⟨W3.heap.size, 0, none⟩ 1 rfl ⟨kk, kn, ka, ksf, kx⟩ (.slice ad ln cp) hx4.out O4.out hap.out hl4 hB4.out ?_; intro v7 w7 K7 g7; have hb7 : Below w.heap.size _ w7 := (Below.refl _ _).grown g7 hB4.out (fun q hq => (K4.out.at_base hq).1); have T7 : RAt12 w7 b5 (kCells kk kn (.slice ad ln cp) ksf kx) := grown_kept g7 T4.out hne2.out; have d0 := Lib.cell_of_heap T7 0; have d1 := Lib.cell_of_heap T7 1; have B7 := hideT (B4.out.trans hb7); obtain ⟨va7, vc7, rfl⟩ := K7.form; rw [show (ks ++ [(⟨kk, kn, ka, ksf, kx⟩ : Tk.Tok)]).length = ks.length + 1 from by simp] at K7; have HK7 := hideT K7; have HT7 := hideT T7; clear K7 T7 g7 hb7 c30 c31)
              | (go_at_call 48; refine (hRaw _).mono ?_; rintro e w8 ⟨rfl, hw⟩; rw [hw]; clear hw))
            go_ret2
            unfold RAllPost
            rw [HE.out]
            exact ⟨none, 0, 0, rfl, KS.nil _ _, B7.out⟩
          · have q64 : ¬ (16384 : Int) < (ks.length : Int) + 1 := by omega
            have HA4 : Hid (Tk.all c = (ks ++ [(⟨kk, kn, ka, ksf, kx⟩ : Tk.Tok)]) ++ Tk.all r) := by show _ = _; rw [HA3.out, List.append_assoc]; rfl
            have hlen : (ks ++ [(⟨kk, kn, ka, ksf, kx⟩ : Tk.Tok)]).length ≤ 16384 := by rw [List.length_append, List.length_singleton]; omega
            clear HX HA3 h64
            go_wp2_with (first
              | ((with_reducible show wpList _ _ _ ({ op := Op.load 48 _, .. } :: _) _ _); refine wpList_load_R _ rfl rfl b5 _ _ _ _ _ rfl T3.out ?_)
              | (at_builtin; refine wpList_append_tokR rfl (.tmp 30) (.tmp 32) rfl w.heap.size (.slice xa ks.length xc) ks rfl K4.out ⟨W3.heap.size, 0, none⟩ 1 rfl ⟨kk, kn, ka, ksf, kx⟩ (.slice ad ln cp) hx4.out O4.out hap.out hl4 hB4.out ?_; intro v7 w7 K7 g7; have hb7 : Below w.heap.size _ w7 := (Below.refl _ _).grown g7 hB4.out (fun q hq => (K4.out.at_base hq).1); have T7 : RAt12 w7 b5 (kCells kk kn (.slice ad ln cp) ksf kx) := grown_kept g7 T4.out hne2.out; have d0 := Lib.cell_of_heap T7 0; have d1 := Lib.cell_of_heap T7 1; have B7 := hideT (B4.out.trans hb7); obtain ⟨va7, vc7, rfl⟩ := K7.form; rw [show (ks ++ [(⟨kk, kn, ka, ksf, kx⟩ : Tk.Tok)]).length = ks.length + 1 from by simp] at K7; have HK7 := hideT K7; have HT7 := hideT T7; clear K7 T7 g7 hb7 c30 c31)
              | (go_at_call 48; refine (hRaw _).mono ?_; rintro e w8 ⟨rfl, hw⟩; rw [hw]; clear hw))
            go_roundw
            case rel => exact ⟨_, r, _, rfl, rfl, HA4.out, hlen, HK7.out, by have := HMeas.out; omega, B7.out⟩
            case measure => simp only [hszl, hrs]; have := HMeas.out; omega
end Go.Proofs.YtiodaahncadodaaGreatDoor
