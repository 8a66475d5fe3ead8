/- Texts laid as one. -/
import Derived.Test.YtiodaahncadodaaGreatDoorKTkSV
import Derived.Test.YtiodaahncadodaaGreatDoorKTreRU
import Derived.Test.YtiodaahncadodaaGreatDoorKTkW
import Derived.Test.YtiodaahncadodaaGreatDoorKTreNW
import Derived.Test.YtiodaahncadodaaGreatDoorKTreM
import Derived.Test.YtiodaahncadodaaGreatDoorKTreAE
/- Rows of tokens whose rows of attributes are apart from one another (written by tools/mktret.py out of TkR and TkS); All's contract with them. -/
set_option linter.unusedVariables false
set_option linter.unusedSimpArgs false
namespace Go.Proofs.YtiodaahncadodaaGreatDoor
open Go.RowKit
/-- A row of tokens, from block B on. -/
structure KD' (w : World) (B U : Nat) (v : Value) (ps : List TV) : Prop where
  row : w.ownsRow B 56 5 v ps.length (tokCells ps)
  each : ∀ p ∈ ps, OwnsA w B p.2 p.1.attrs ∧ ApK p.2 v
  apart : ps.Pairwise fun p q => ApK p.2 q.2
  under : ∀ p ∈ ps, ∀ k, p.2.ownBlock = some k → k < U
def KD (w : World) (B U : Nat) (v : Value) (ks : List Tk.Tok) : Prop := ∃ ps, ps.map (·.1) = ks ∧ KD' w B U v ps
theorem KD.nil (w : World) (B U : Nat) : KD w B U (.slice none 0 0) [] := ⟨[], rfl, World.ownsRow_nil _ _ _ _, (fun p h => by cases h), List.Pairwise.nil, (fun p h => by cases h)⟩
theorem KD'.keep {w w' : World} {B U : Nat} {v : Value} {ps : List TV} (h : KD' w B U v ps) (hk : ∀ k, B ≤ k → k < w.heap.size → w'.heap[k]? = w.heap[k]?) : KD' w' B U v ps :=
  ⟨row_keepK h.row (fun k e hl => hk k (World.ownsRow.lt h.row k e).1 hl), fun p hp => ⟨row_keepK (h.each p hp).1 (fun k e hl => hk k (World.ownsRow.lt (h.each p hp).1 k e).1 hl), (h.each p hp).2⟩, h.apart, h.under⟩
theorem KD.keep {w w' : World} {B U : Nat} {v : Value} {ks : List Tk.Tok} (h : KD w B U v ks) (hk : ∀ k, B ≤ k → k < w.heap.size → w'.heap[k]? = w.heap[k]?) : KD w' B U v ks := by
  obtain ⟨ps, h1, h2⟩ := h
  exact ⟨ps, h1, h2.keep hk⟩
theorem KD.below {w w' : World} {B U : Nat} {v : Value} {ks : List Tk.Tok} (h : KD w B U v ks) (hB : Below w.heap.size w w') : KD w' B U v ks := h.keep (fun k _ hk => hB.block k hk)
theorem KD.kept {w w' : World} {B U b : Nat} {v : Value} {ks : List Tk.Tok} (h : KD w B U v ks) (hk : Kept b w w') (hb : b < B) : KD w' B U v ks := h.keep (fun k h1 hl => hk.block k hl (by omega))
theorem KD.mono {w : World} {B B' U U' : Nat} {v : Value} {ks : List Tk.Tok} (h : KD w B U v ks) (hB : B' ≤ B) (hU : U ≤ U') : KD w B' U' v ks := by
  obtain ⟨ps, h1, h2⟩ := h
  exact ⟨ps, h1, row_mono h2.row hB, fun p hp => ⟨OwnsPairs.mono (h2.each p hp).1 hB, (h2.each p hp).2⟩, h2.apart, fun p hp k e => Nat.lt_of_lt_of_le (h2.under p hp k e) hU⟩
theorem KD.form {w : World} {B U : Nat} {v : Value} {ks : List Tk.Tok} (h : KD w B U v ks) : ∃ a c, v = .slice a ks.length c := by
  obtain ⟨ps, h1, h2⟩ := h
  have e : ps.length = ks.length := by rw [← h1, List.length_map]
  rcases h2.row.2 with ⟨rfl, hz⟩ | ⟨g, cap, cur, rfl, _⟩
  · exact ⟨none, 0, by rw [← e, hz]⟩
  · exact ⟨_, _, by rw [e]⟩
theorem KD.at_base {w : World} {B U : Nat} {v : Value} {ks : List Tk.Tok} (h : KD w B U v ks) {k : Nat} (hk : v.ownBlock = some k) : B ≤ k ∧ k < w.heap.size := by
  obtain ⟨ps, h1, h2⟩ := h
  exact World.ownsRow.lt h2.row k hk
/-- What a place of the row has. -/
theorem KD.at {w : World} {B U : Nat} {a : Option Addr} {n c : Nat} {ks : List Tk.Tok} (h : KD w B U (.slice a n c) ks) {j : Nat} {k : Tk.Tok} (hj : ks[j]? = some k) :
    ∃ g u, a = some ⟨g, 0, none⟩ ∧ B ≤ g ∧ g < w.heap.size ∧ n ≤ c ∧ w.cell? ⟨g, j * 5, none⟩ = some (.int .i64 k.kind) ∧ w.cell? ⟨g, j * 5 + 1, none⟩ = some (.string (str k.name)) ∧ w.cell? ⟨g, j * 5 + 2, none⟩ = some u ∧ w.cell? ⟨g, j * 5 + 3, none⟩ = some (.bool k.self) ∧ w.cell? ⟨g, j * 5 + 4, none⟩ = some (.string (str k.text)) ∧ OwnsA w B u k.attrs := by
  obtain ⟨ps, h1, h2⟩ := h
  have hjl : j < ks.length := (List.getElem?_eq_some_iff.1 hj).1
  have e : ps.length = ks.length := by rw [← h1, List.length_map]
  have hp : ps[j]? = some ps[j] := List.getElem?_eq_getElem (by omega)
  have hk : (ps[j]).1 = k := by
    have : (ps.map (·.1))[j]? = some k := by rw [h1]; exact hj
    rw [List.getElem?_map, hp] at this
    simpa using this
  have hr := h2.row
  rcases h2.row.2 with ⟨hs, hz⟩ | ⟨g, cap, cur, hs, hb, hg, hc, _⟩
  · omega
  · have hs2 : a = some ⟨g, 0, none⟩ ∧ n = ps.length ∧ c = cap := by
      simp only [Value.slice.injEq] at hs
      exact hs
    obtain ⟨rfl, rfl, rfl⟩ := hs2
    have hat := tokCells_at ps j _ hp
    rw [hk] at hat
    have hcell : ∀ i, i < 5 → w.cell? ⟨g, j * 5 + i, none⟩ = (tokCells ps)[j * 5 + i]? := fun i hi => World.ownsRow.cellAt (w := w) (base := B) (e := 56) (size := 5) (g := g) (cap := c) (n := ps.length) (xs := tokCells ps) hr (j * 5 + i) (by omega)
    have hm : ps[j] ∈ ps := List.getElem_mem (by omega)
    have ho := (h2.each _ hm).1
    rw [hk] at ho
    exact ⟨g, (ps[j]).2, rfl, hb, (Array.getElem?_eq_some_iff.1 hg).1, hc, (hcell 0 (by omega)).trans hat.1, (hcell 1 (by omega)).trans hat.2.1, (hcell 2 (by omega)).trans hat.2.2.1, (hcell 3 (by omega)).trans hat.2.2.2.1, (hcell 4 (by omega)).trans hat.2.2.2.2, ho⟩
/-- One further token. -/
theorem run_append_tokD (w : World) (ty : TypeId) (B U : Nat) (v : Value) (ks : List Tk.Tok) (h : KD w B U v ks) (ad : Addr) (c : Nat) (k : Tk.Tok) (u : Value) (hx : ∀ (j : Nat) (x : Value), [.int .i64 k.kind, .string (str k.name), u, .bool k.self, .string (str k.text)][j]? = some x → w.cell? (ad.add j) = some x) (ho : OwnsA w B u k.attrs) (hap : ApK u v) (hu : ∀ k, u.ownBlock = some k → U ≤ k) (hlen : ks.length ≤ 10000000) (hB : B ≤ w.heap.size) :
    ∃ v' w', (Builtin.append_ #[49, 49] ty #[v, .slice (some ad) 1 c]).run Tryz.prog w = .ok v' w' ∧ KD w' B w'.heap.size v' (ks ++ [k]) ∧ w.grownBy w' v.ownBlock := by
  obtain ⟨i0, hi, hz0, hz1, hz2⟩ := info_parts infoTok
  obtain ⟨ps, h0, h⟩ := h
  have e : ps.length = ks.length := by rw [← h0, List.length_map]
  obtain ⟨v', w', h1, h2, h3, _, h5⟩ := run_append_own_at (P := Tryz.prog) w B 49 ty 56 i0 (.agg kCells0) 5 72 Tryz.underlying49 hi hz0 hz1 hz2 rfl (by decide) v _ _ h.row ad 1 c [.int .i64 k.kind, .string (str k.name), u, .bool k.self, .string (str k.text)] rfl hx (fun x hx => by
    have := OwnsPairs.slice ho
    simp at hx
    rcases hx with rfl | rfl | rfl | rfl | rfl
    · rfl
    · rfl
    · exact this
    · rfl
    · rfl) (by unfold maxLen; omega) (by omega) hB
  have hk : ∀ y q, OwnsA w B y q → ApK y v → OwnsA w' B y q ∧ ApK y v' := fun y q hy ha => ⟨row_keepK hy (fun k e hl => h3.block k hl (fun e2 => ha k e e2.symm)), fun k e1 e2 => by
    rcases h5 with e | e
    · exact ha k e1 (by rw [← e]; exact e2)
    · rw [e] at e2
      cases e2
      have := (World.ownsRow.lt hy _ e1).2
      omega⟩
  refine ⟨v', w', h1, ⟨ps ++ [(k, u)], by simp [h0], by rw [List.length_append, tokCells_snoc]; exact h2, fun p hp => ?_, List.pairwise_append.2 ⟨h.apart, List.pairwise_singleton _ _, fun p hp q hq k e1 e2 => ?_⟩, fun p hp k e => ?_⟩, h3⟩
  · rcases List.mem_append.1 hp with hp | hp
    · exact hk _ _ (h.each p hp).1 (h.each p hp).2
    · rw [List.mem_singleton] at hp
      subst hp
      exact hk _ _ ho hap
  · rw [List.mem_singleton] at hq
    subst hq
    have := h.under p hp k e1
    have := hu k e2
    omega
  · have hs := h3.size
    rcases List.mem_append.1 hp with hp | hp
    · exact Nat.lt_of_lt_of_le (World.ownsRow.lt (h.each p hp).1 k e).2 hs
    · rw [List.mem_singleton] at hp
      subst hp
      exact Nat.lt_of_lt_of_le (World.ownsRow.lt ho k e).2 hs
theorem wpList_append_tokD {w : World} {ops : Array Oper} {rest : List Oper} {o : Oper} {a : Act} {Q : Exit → Act → World → Prop} (hgd : o.guard = none) (s x : Operand)
    (ho : o.op = .call { callee := .builtin .append, args := #[s, x], argTypes := #[49, 49] }) (B U : Nat) (v : Value) (ks : List Tk.Tok) (hs : a.eval s = v) (hown : KD w B U v ks) (ad : Addr) (c : Nat) (hx : a.eval x = .slice (some ad) 1 c) (k : Tk.Tok) (u : Value) (hg : ∀ (j : Nat) (x : Value), [.int .i64 k.kind, .string (str k.name), u, .bool k.self, .string (str k.text)][j]? = some x → w.cell? (ad.add j) = some x) (hy : OwnsA w B u k.attrs) (hap : ApK u v) (hu : ∀ k, u.ownBlock = some k → U ≤ k) (hlen : ks.length ≤ 10000000) (hB : B ≤ w.heap.size)
    (h : ∀ v' w', KD w' B w'.heap.size v' (ks ++ [k]) → w.grownBy w' v.ownBlock → wpList Tryz.prog ops Q rest (a.put o.dst v') w') : wpList Tryz.prog ops Q (o :: rest) a w :=
  wpList_plain hgd fun _ hK => by
    obtain ⟨v', w', hr, h2, h3⟩ := run_append_tokD w o.type B U v ks hown ad c k u hg hy hap hu hlen hB
    unfold Oper.wp execOp
    simp only [ho, resolve, invoke, builtin, Sem.run_bind, Sem.run_pure, Result.andThen_ok, List.map_toArray, List.map_cons, List.map_nil, hs, hx, hr]
    exact hK _ _ (h v' w' h2 h3)
def AllPostD (w : World) (x : List Tk.Tok × Nat) (e : Ending) (w' : World) : Prop :=
  ∃ ad ln cp, e = .returned (.tuple #[.slice ad ln cp, .int .i64 x.2]) ∧ KD w' w.heap.size w'.heap.size (.slice ad ln cp) x.1 ∧ Below w.heap.size w w'
set_option maxHeartbeats 2000000 in
set_option maxRecDepth 100000 in
theorem AllD_any (s : List UInt8) (w : World) (hE : EnvT w) :
    Calls Tryz.prog 23 #[.string (str s)] w (AllPostD w (allR s)) := by
  have hsz := str_size s
  have hlt0 := hE.lt
  by_cases hs : 65536 < s.length
  · have HX : Hid (allR s = ([], 5)) := if_pos (.inl hs)
    have hgt : (65536 : Int) < (s.length : Int) := by omega
    go_enter Tryz.func23, Tryz.ntmps23
    go_wp2
    go_ret2
    unfold AllPostD
    rw [HX.out]
    exact ⟨none, 0, 0, rfl, KD.nil _ _ _, Below.refl _ _⟩
  · have HX : Hid (allR s = if 16384 < (Tk.all (Tk.clean s)).length then ([], 5) else (Tk.all (Tk.clean s), 0)) := by
      show allR s = _
      unfold allR
      simp [hs]
    have hC := Clean_any s w hE (by omega)
    have hcl := clean_len3 s
    have hle : (s.length : Int) ≤ 65536 := by omega
    have hc1 : (Tk.clean s).length ≤ 1000000 := by omega
    generalize Tk.clean s = c at *
    clear hs hcl
    go_enter Tryz.func23, Tryz.ntmps23
    go_wp2_with fail
    go_at_call 51
    refine hC.mono ?_
    rintro e w1 ⟨rfl, hb1⟩
    have hb2 : Below w1.heap.size w1 (w1.alloc (.cells #[.string (str c), .string ByteArray.empty] 96)) := (Below.refl _ _).alloc (Nat.le_refl _) _
    have hs1 := hb1.size
    have ht : Tr w1.heap.size c [] (w1.alloc (.cells #[.string (str c), .string ByteArray.empty] 96)) := ⟨heap_new w1 _, hc1, by omega, by omega, (hE.below hb1).below hb2⟩
    have hB0 := hb1.trans (hb2.mono hs1)
    have hzr := (zero_of_info zeroR12).1
    clear hC hb1 hb2
    go_wp2_with fail
    generalize (w1.alloc (.cells #[.string (str c), .string ByteArray.empty] 96)) = W at *
    generalize hbg : w1.heap.size = b at *
    go_loopw [4] (fun x wr => ∃ (ks : List Tk.Tok) (l a : List UInt8) (xv : Value), x = xv ∧ Hid (Tk.all c = ks ++ restT a l) ∧ Tr b l a wr ∧ RawA a ∧ ks.length ≤ 16384 ∧ KD wr (b + 1) wr.heap.size xv ks ∧ Below w.heap.size w wr) (fun _ wr => leftT b wr)
    case atStart => exact ⟨[], c, [], _, rfl, (rfl : Tk.all c = [] ++ restT [] c), ht, .inl rfl, Nat.zero_le _, KD.nil _ _ _, hB0⟩
    case round =>
      obtain ⟨ks, l, a, xv, rfl, HA, h, ha, hkl, hK, hB⟩ := hrel
      have HK := hideQ hK
      have HB := hideQ hB
      have hbl := h.lt
      have c0 := h.c0
      obtain ⟨xa, xc, rfl⟩ := hK.form
      clear hK hB
      by_cases hl : l = []
      · subst hl
        have HE : Hid (allR s = (ks, 0)) := by
          show allR s = _
          rw [HX.out, HA.out, rest_nil, List.append_nil, if_neg (by omega)]
        have hne : ((str ([] : List UInt8)).toList.isEmpty) = true := by rw [str_list]; rfl
        clear HX HA
        go_wp2
        go_ret2
        unfold AllPostD
        rw [HE.out]
        exact ⟨_, _, _, rfl, HK.out.mono (by omega) (Nat.le_refl _), HB.out⟩
      · have hne := isEmpty_no hl
        have hN := nextT_any h hl ha
        have hgo := rest_go a l hl
        have hra := nextA_raw a l
        have hln := nextP_len a l hl
        have HG := hideQ hgo
        have hleft := h.left
        generalize nextP a l = q at *
        generalize nextA a l = a2 at *
        obtain ⟨⟨kk, kn, ka, ksf, kx⟩, r⟩ := q
        clear hgo
        have HH := hideQ h
        go_wp2_with fail
        go_at_call 52
        refine hN.mono ?_
        rintro e w2 ⟨ad, ln, cp, rfl, o2, h2, k2⟩
        simp only at o2 h2 hln
        have hs2 := k2.size
        have hK2 := HK.out.kept k2 (Nat.lt_succ_self _)
        have hB2 : Below w.heap.size w w2 := HB.out.trans (k2.below _ (by omega) HB.out.size)
        have hb3 : Below w2.heap.size w2 (w2.alloc (.cells (kCells kk kn (.slice ad ln cp) ksf kx) 56)) := (Below.refl _ _).alloc (Nat.le_refl _) _
        have t3 : KAt (w2.alloc (.cells (kCells kk kn (.slice ad ln cp) ksf kx) 56)) w2.heap.size (kCells kk kn (.slice ad ln cp) ksf kx) := heap_new w2 _
        have h3 := h2.step hb3
        have K3 := hideQ (hK2.below hb3)
        have o3 := OwnsPairs.below o2 hb3
        have B3 := hideQ (hB2.trans (hb3.mono (by have := hB2.size; omega)))
        have hs3 := hb3.size
        have hap : ApK (.slice ad ln cp) (.slice xa ks.length xc) := fun k e1 e2 => by
          have q1 := (World.ownsRow.lt o2 k e1).1
          have q2 := (HK.out.at_base e2).2
          omega
        have hu : ∀ k, (Value.slice ad ln cp).ownBlock = some k → wr.heap.size ≤ k := fun k e1 => (World.ownsRow.lt o2 k e1).1
        have HS23 := hideT (Nat.le_trans hs2 hs3)
        have cc0 := Lib.cell_of_heap t3 0
        clear hN h c0 HH HK HB k2 hK2 hB2 hb3 o2 h2
        have H3 := hideQ h3
        have T3 := hideQ t3
        have O3 := hideQ o3
        have hk3 := hap
        clear h3 t3 o3 hap
        by_cases h0 : kk = 0
        · subst h0
          have HE : Hid (allR s = (ks, 0)) := by
            show allR s = _
            rw [HX.out, HA.out, HG.out.1 rfl, List.append_nil, if_neg (by omega)]
          clear HX HA HG
          go_wp2
          go_ret2
          unfold AllPostD
          rw [HE.out]
          exact ⟨_, _, _, rfl, K3.out.mono (by omega) HS23.out, B3.out⟩
        · have n0 : ((kk : Int) == 0) = false := kind_no h0
          have HG2 := hideQ (HG.out.2 h0)
          clear HG h0
          by_cases h64 : ks.length = 16384
          · have q64 : ((ks.length : Int) == 16384) = true := by rw [h64]; rfl
            have HE : Hid (allR s = ([], 5)) := by
              show allR s = _
              rw [HX.out, HA.out, HG2.out, if_pos (by rw [List.length_append, List.length_cons]; omega)]
            clear HX HA HG2 h64
            go_wp2
            go_ret2
            unfold AllPostD
            rw [HE.out]
            exact ⟨none, 0, 0, rfl, KD.nil _ _ _, B3.out⟩
          · have q64 : ((ks.length : Int) == 16384) = false := by rw [beq_eq_false_iff_ne]; omega
            have hkl2 : ks.length + 1 ≤ 16384 := by omega
            have HA2 : Hid (Tk.all c = (ks ++ [(⟨kk, kn, ka, ksf, kx⟩ : Tk.Tok)]) ++ restT a2 r) := by
              show Tk.all c = _
              rw [HA.out, HG2.out, List.append_assoc]
              rfl
            clear h64 HA HG2
            generalize hW5 : (w2.alloc (.cells (kCells kk kn (.slice ad ln cp) ksf kx) 56)) = W5 at *
            have hb6 : Below W5.heap.size W5 (W5.alloc (.cells (kCells kk kn (.slice ad ln cp) ksf kx) 56)) := (Below.refl _ _).alloc (Nat.le_refl _) _
            have K6 := K3.out.below hb6
            have O6 := (OwnsPairs.below O3.out hb6)
            have T6 := H3.out.step hb6
            have B6 := hideQ (B3.out.trans (hb6.mono B3.out.size))
            have hx6 := cell_five_new W5 (.int .i64 kk) (.string (str kn)) (.slice ad ln cp) (.bool ksf) (.string (str kx)) 56
            have t3 := T3.out
            have hbw6 := T6.lt
            have hs6 := hb6.size
            have hs5 := B3.out.size
            have hs36 := hs3
            clear hb6
            have O7 := hideQ (OwnsPairs.mono (B := b + 1) O6 hbl)
            have hB7 := hideQ (Nat.succ_le_of_lt hbw6)
            have hl7 : ks.length ≤ 10000000 := by omega
            go_wp2_with (first
              | (refine wpList_load_K _ rfl rfl w2.heap.size _ _ _ _ _ rfl t3 ?_)
              | (at_builtin; refine wpList_append_tokD rfl (.tmp 25) (.tmp 27) rfl (b + 1) wr.heap.size (.slice xa ks.length xc) ks rfl K6 ⟨W5.heap.size, 0, none⟩ 1 rfl ⟨kk, kn, ka, ksf, kx⟩ (.slice ad ln cp) hx6 O7.out hk3 hu hl7 hB7.out ?_; intro v7 w7 K7 g7))
            have hb7 : Below (b + 1) _ w7 := (Below.refl _ _).grown g7 hB7.out (fun q hq => (K6.at_base hq).1)
            have T7 := T6.belowB hb7 (Nat.lt_succ_self b)
            have B7 := B6.out.trans (hb7.mono (by omega))
            go_roundw
            case rel => exact ⟨_, r, a2, _, rfl, HA2, T7, hra, by rw [List.length_append]; exact hkl2, K7, B7⟩
            case measure =>
              have e1 := T7.left
              rw [e1, hleft]
              omega
end Go.Proofs.YtiodaahncadodaaGreatDoor
/- The contract of tree.Parse. -/
namespace Go.Proofs.YtiodaahncadodaaGreatDoor
open Go.RowKit Go.Maps Go.WideMaps
/-- What Parse answers. -/
def parseR (s : List UInt8) : List Nd × Nat := if (allR s).2 = 0 then (match Tre.parseT (allR s).1 with | .error e => ([], e) | .ok ns => (ns, 0)) else ([], (allR s).2)
def ParsePost (w : World) (x : List Nd × Nat) (e : Ending) (w' : World) : Prop :=
  ∃ v, e = .returned (.tuple #[.agg #[v], .int .i64 (x.2 : Int)]) ∧ ReadsN w' v x.1 ∧ Below w.heap.size w w'
theorem allR_fits (s : List UInt8) : (allR s).1.length ≤ 16384 ∧ ∀ k ∈ (allR s).1, k.name.length ≤ 1000000 ∧ k.attrs.length ≤ 64 ∧ k.text.length ≤ 1000000 := by
  unfold allR
  split
  · exact ⟨Nat.zero_le _, fun k hk => by cases hk⟩
  · rename_i h
    have h1 : s.length ≤ 65536 := by omega
    have h2 := clean_len3 s
    refine ⟨by show (Tk.all (Tk.clean s)).length ≤ _; omega, fun k hk => ?_⟩
    have hz := (Tk.all_size (Tk.clean s) k hk).sz
    exact ⟨Nat.le_trans hz.1 (by omega), Tk.fine_ats k (Tk.all_fine _ k hk), Nat.le_trans hz.2.2 (by omega)⟩
theorem BAt.reads {w : World} {T : Nat → Prop} {bb mg : Nat} {nv ov : Value} {ps : List PN} {op : List Nat} {F : List UInt8 → Option Nat} (h : BAt w T bb mg nv ov ps op F) (hn : 1 ≤ ps.length) : ReadsN w nv (ps.map (·.1)) := by
  obtain ⟨g, c, rfl, hc⟩ := h.nform hn
  refine .inr ⟨g, 0, c, by rw [List.length_map], by rw [List.length_map]; exact hc, fun j n hj => ?_⟩
  rw [List.getElem?_map] at hj
  obtain ⟨p, hp, rfl⟩ := Option.map_eq_some_iff.1 hj
  have ha := h.ats _ _ hp
  have hk := h.kds _ _ hp
  obtain ⟨aa, ac, ea⟩ := (OwnsPairs.reads ha).form
  obtain ⟨ka, kc, ek⟩ := (OwnsI.reads hk).form
  refine ⟨aa, ac, ka, kc, fun i v hi => ?_, ea ▸ OwnsPairs.reads ha, ek ▸ OwnsI.reads hk⟩
  have := (h.cell hp (i := i) (v := v) (by rw [ea, ek]; exact hi)).1
  rw [Nat.zero_add]
  exact this
theorem tokRow_range {w : World} {B : Nat} {a : Option Addr} {n c : Nat} {ps : List TV} (hr : w.ownsRow B 56 5 (.slice a n c) ps.length (tokCells ps)) {j : Nat} {p : TV} (hp : ps[j]? = some p) :
    ∃ g, a = some ⟨g, 0, none⟩ ∧ g < w.heap.size ∧ n ≤ c ∧ B ≤ g ∧ w.rangeAt g (j * 5) [.int .i64 p.1.kind, .string (str p.1.name), p.2, .bool p.1.self, .string (str p.1.text)] := by
  have hjl : j < ps.length := (List.getElem?_eq_some_iff.1 hp).1
  rcases hr.2 with ⟨hs, hz⟩ | ⟨g, cap, cur, hs, hb, hg, hc, _⟩
  · omega
  · have hs2 : a = some ⟨g, 0, none⟩ ∧ n = ps.length ∧ c = cap := by
      simp only [Value.slice.injEq] at hs
      exact hs
    obtain ⟨rfl, rfl, rfl⟩ := hs2
    have hat := tokCells_at ps j _ hp
    have hcell : ∀ i, i < 5 → w.cell? ⟨g, j * 5 + i, none⟩ = (tokCells ps)[j * 5 + i]? := fun i hi => World.ownsRow.cellAt (w := w) (base := B) (e := 56) (size := 5) (g := g) (cap := c) (n := ps.length) (xs := tokCells ps) hr (j * 5 + i) (by omega)
    refine ⟨g, rfl, (Array.getElem?_eq_some_iff.1 hg).1, hc, hb, fun i v hi => ?_⟩
    rcases i with _ | _ | _ | _ | _ | i
    · cases hi; exact (hcell 0 (by omega)).trans hat.1
    · cases hi; exact (hcell 1 (by omega)).trans hat.2.1
    · cases hi; exact (hcell 2 (by omega)).trans hat.2.2.1
    · cases hi; exact (hcell 3 (by omega)).trans hat.2.2.2.1
    · cases hi; exact (hcell 4 (by omega)).trans hat.2.2.2.2
    · simp at hi
/-- Which blocks the first tokens have handed over. -/
def Gone (tv : List TV) (j : Nat) : Nat → Prop := fun k => ∃ i p, i < j ∧ tv[i]? = some p ∧ p.2.ownBlock = some k
theorem step_err {b : Tre.St} {k : Tk.Tok} {e : Nat} (h : Tre.step b k = .error e) : e = 5 ∨ e = 8 := by
  unfold Tre.step at h
  split at h
  · unfold Tre.startT at h
    split at h
    · cases h
    · split at h
      · rename_i e2 he
        cases h
        exact lay_err he
      · cases h
  split at h
  · cases h
  split at h
  · unfold Tre.textT at h
    split at h
    · split at h
      · cases h
      · exact lay_err h
    · exact lay_err h
  · cases h
/-- A round of Parse: what is in memory behind the first j tokens. -/
def PAt (w1 : World) (tv : List TV) (bb mg j : Nat) (st0 : Tre.St) (wr : World) : Prop :=
  ∃ T nv ov ps op, BAt wr T bb mg nv ov ps op (Tre.firstN (ps.map (·.1))) ∧ Tre.Ok ⟨ps.map (·.1), op⟩ (j * 1000000) ∧ Tre.build (tv.map (·.1)) st0 = Tre.build ((tv.map (·.1)).drop j) ⟨ps.map (·.1), op⟩ ∧ OwnT (Gone tv j) w1 wr ∧ ∀ k, T k → Gone tv j k ∨ w1.heap.size ≤ k
theorem Gone.more {tv : List TV} {j i k : Nat} (h : Gone tv j k) (hi : j ≤ i) : Gone tv i k := by
  obtain ⟨a, p, h1, h2, h3⟩ := h
  exact ⟨a, p, by omega, h2, h3⟩
theorem pair_at {α : Type} {R : α → α → Prop} : ∀ {l : List α}, l.Pairwise R → ∀ {i j : Nat} {x y : α}, i < j → l[i]? = some x → l[j]? = some y → R x y
  | [], _, i, j, x, y, _, h, _ => by simp at h
  | a :: l, hp, 0, j + 1, x, y, _, hx, hy => by
    simp at hx hy
    subst hx
    exact (List.pairwise_cons.1 hp).1 _ (List.mem_of_getElem? hy)
  | a :: l, hp, i + 1, j + 1, x, y, hij, hx, hy => pair_at (i := i) (j := j) (List.pairwise_cons.1 hp).2 (by omega) (by simpa using hx) (by simpa using hy)
/-- What a token yet to be taken has. -/
theorem PAt.tok {w1 wr : World} {B : Nat} {ad : Option Addr} {ln cp : Nat} {tv : List TV} {j : Nat} {T : Nat → Prop} (hK : KD' w1 B w1.heap.size (.slice ad ln cp) tv) (hO : OwnT (Gone tv j) w1 wr) (hT : ∀ k, T k → Gone tv j k ∨ w1.heap.size ≤ k) {p : TV} (hp : tv[j]? = some p) :
    wr.ownsRow B 56 5 (.slice ad ln cp) tv.length (tokCells tv) ∧ OwnsA wr 0 p.2 p.1.attrs ∧ ∀ k, p.2.ownBlock = some k → ¬ T k := by
  have hm := List.mem_of_getElem? hp
  have hno : ∀ k, p.2.ownBlock = some k → ¬ Gone tv j k := fun k e ⟨i, q, hi, hq, eq⟩ => pair_at hK.apart hi hq hp k eq e
  refine ⟨row_keepK hK.row (fun k e hl => hO.block k hl (fun ⟨i, q, hi, hq, eq⟩ => (hK.each q (List.mem_of_getElem? hq)).2 k eq e)), row_mono13 (row_keepK (hK.each p hm).1 (fun k e hl => hO.block k hl (hno k e))) (Nat.zero_le _), fun k e hk => ?_⟩
  rcases hT k hk with h | h
  · exact hno k e h
  · have := hK.under p hm k e
    omega
theorem PAt.next {w1 wr w2 : World} {tv : List TV} {bb mg j : Nat} {st0 : Tre.St} {T : Nat → Prop} {ps : List PN} {op : List Nat} {p : TV} (hp : tv[j]? = some p) (hOk : Tre.Ok ⟨ps.map (·.1), op⟩ (j * 1000000)) (hF : (p.1.name.length ≤ 1000000 ∧ p.1.attrs.length ≤ 64 ∧ p.1.text.length ≤ 1000000)) (hb : Tre.build (tv.map (·.1)) st0 = Tre.build ((tv.map (·.1)).drop j) ⟨ps.map (·.1), op⟩) (hO : OwnT (Gone tv j) w1 wr) (hT : ∀ k, T k → Gone tv j k ∨ w1.heap.size ≤ k) {b2 : Tre.St} (hs : Tre.step ⟨ps.map (·.1), op⟩ p.1 = .ok b2) {W : World} (hW : Below wr.heap.size wr W) (hP : BPost (AddT T p.2) bb mg W b2 (fst13 b2) w2) : PAt w1 tv bb mg (j + 1) st0 w2 := by
  obtain ⟨T', nv', ov', ps', h1, h2, h3, h4⟩ := hP
  obtain ⟨ns2, op2⟩ := b2
  simp only at h1 h2
  subst h2
  have hjl : j < (tv.map (·.1)).length := by rw [List.length_map]; exact (List.getElem?_eq_some_iff.1 hp).1
  have hg : (tv.map (·.1))[j] = p.1 := by
    have h9 : (tv.map (·.1))[j]? = some p.1 := by rw [List.getElem?_map, hp]; rfl
    rw [List.getElem?_eq_getElem hjl] at h9
    exact Option.some.inj h9
  have hA : ∀ k, AddT T p.2 k → Gone tv (j + 1) k ∨ w1.heap.size ≤ k := fun k hk => by
    rcases hk with hk | hk
    · exact (hT k hk).imp (fun h => h.more (Nat.le_succ _)) id
    · exact .inl ⟨j, p, Nat.lt_succ_self _, hp, hk⟩
  have hsz : w1.heap.size ≤ W.heap.size := Nat.le_trans hO.size hW.size
  refine ⟨T', nv', ov', ps', op2, h1, (Tre.ok_step p.1 hF.2.1 hOk hs).more (by omega), ?_, ((hO.wider (fun k h => h.more (Nat.le_succ _))).trans (OwnT.of (T := Gone tv (j + 1)) hW) (fun k h => .inl h)).trans h3 hA, fun k hk => ?_⟩
  · rw [hb, List.drop_eq_getElem_cons hjl, hg]
    rw [Tre.build, hs]
  · rcases h4 k hk with h | h
    · exact hA k h
    · exact .inr (by omega)
set_option maxHeartbeats 4000000 in
set_option maxRecDepth 100000 in
theorem Parse_any (s : List UInt8) (w : World) (hE : EnvT w) :
    Calls Tryz.prog 11 #[.string (str s)] w (ParsePost w (parseR s)) := by
  have hb0 : Below w.heap.size w (w.alloc (.cells #[.slice none 0 0] 26)) := (Below.refl _ w).alloc (Nat.le_refl _) _
  have hd0 := heap_new w (.cells #[.slice none 0 0] 26)
  have hs0 : (w.alloc (.cells #[.slice none 0 0] 26)).heap.size = w.heap.size + 1 := by simp
  have hA := AllD_any s _ (hE.below hb0)
  have hfit := allR_fits s
  by_cases hq : (allR s).2 = 0
  · have HX : Hid (parseR s = match Tre.parseT (allR s).1 with | .error e => ([], e) | .ok ns => (ns, 0)) := if_pos hq
    have HNew := hideT newB_any
    generalize hW0 : (w.alloc (.cells #[.slice none 0 0] 26)) = W0 at *
    generalize allR s = x at *
    obtain ⟨ks, q⟩ := x
    simp only at hq HX hfit
    subst hq
    clear hE
    have HW0 := hideT hW0
    clear hW0
    go_enter Tryz.func11, Tryz.ntmps11
    go_upto_region 1 with fail
    rw [HW0.out]
    go_wp2_with (first
      | (go_at_call 23; refine hA.mono ?_; rintro e w1 ⟨ad, ln, cp, rfl, hK, hb1⟩; clear hA)
      | (go_at_call 24; refine (HNew.out _).mono ?_; rintro e w2 ⟨g, g2, mg, rfl, hN⟩))
    obtain ⟨hrow, hopn, hfm, l1, l2, l3, n1, n2, n3, hb2⟩ := hN
    obtain ⟨tv, htv, hKD⟩ := hK
    have htl : tv.length = ks.length := by rw [← htv, List.length_map]
    have hln : ln = ks.length := by
      rcases hKD.row.2 with ⟨hs, hz⟩ | ⟨g', cap, cur, hs, _⟩
      · simp only [Value.slice.injEq] at hs; omega
      · simp only [Value.slice.injEq] at hs; omega
    subst hln
    have hs1 := hb1.size
    have hs2 := hb2.size
    have hd1 := (hb1.block w.heap.size (by omega)).trans hd0
    have hb3 : Below w2.heap.size w2 (w2.alloc (.cells #[.slice (some ⟨g, 0, none⟩) 1 1, .slice (some ⟨g2, 0, none⟩) 1 1, .map (some mg)] 54)) := (Below.refl _ _).alloc (Nat.le_refl _) _
    have hB3 := BAt.new hrow hopn hfm n1 n2 n3 l3 rfl hb3 (by simp) (heap_new w2 _) hs2
    have hO3 : OwnT (Gone tv 0) w1 (w2.alloc (.cells #[.slice (some ⟨g, 0, none⟩) 1 1, .slice (some ⟨g2, 0, none⟩) 1 1, .map (some mg)] 54)) := OwnT.of (hb2.trans (hb3.mono hs2))
    have HP0 : Hid (PAt w1 tv w2.heap.size mg 0 Tre.start0 (w2.alloc (.cells #[.slice (some ⟨g, 0, none⟩) 1 1, .slice (some ⟨g2, 0, none⟩) 1 1, .map (some mg)] 54))) :=
      ⟨_, _, _, _, _, hB3, Tre.ok_start, rfl, hO3, fun k hk => .inr hk.1⟩
    clear hrow hopn hfm l1 l2 l3 n1 n2 n3 hB3 hO3 hd0
    have hgo : ∀ j k, Gone tv j k → W0.heap.size ≤ k := fun j k ⟨i, p, h1, h2, h3⟩ => (World.ownsRow.lt (hKD.each p (List.mem_of_getElem? h2)).1 k h3).1
    have HGO := hideT hgo
    have HKD := hideT hKD
    have HB1 := hideT (hb0.trans (hb1.mono hb0.size))
    have HD1 := hideT hd1
    have HFIT := hideT hfit
    have HTV := hideT htv
    clear hb1 hb2 hb3 hgo hKD hd1 hs2 htv hfit hb0
    generalize (w2.alloc (.cells #[.slice (some ⟨g, 0, none⟩) 1 1, .slice (some ⟨g2, 0, none⟩) 1 1, .map (some mg)] 54)) = w3 at *
    generalize w2.heap.size = bb at *
    go_loopw [22] (fun i wr => ∃ j : Nat, i = .int .i64 j ∧ j ≤ ks.length ∧ Hid (PAt w1 tv bb mg j Tre.start0 wr)) (fun i _ => ks.length - (intOf i).toNat)
    case atStart => exact ⟨0, rfl, Nat.zero_le _, HP0⟩
    case round =>
      obtain ⟨j, rfl, hj, HI⟩ := hrel
      clear HP0
      have hk16 : ks.length ≤ 16384 := HFIT.out.1
      by_cases hjl : j < ks.length
      · obtain ⟨T, nv, ov, ps, op, hB, hOk, hbd, hO, hT⟩ := HI.out
        obtain ⟨p, hp⟩ : ∃ p, tv[j]? = some p := ⟨_, List.getElem?_eq_getElem (by omega)⟩
        obtain ⟨hr, ho, hno⟩ := PAt.tok HKD.out hO hT hp
        obtain ⟨gt, rfl, hgl, hcl, hgB, hrng⟩ := tokRow_range hr hp
        obtain ⟨⟨kk, kn, ka, ksf, kx⟩, u⟩ := p
        obtain ⟨ua, uc, eu⟩ := (OwnsPairs.reads ho).form
        simp only at eu
        subst eu
        have hf : kn.length ≤ 1000000 ∧ ka.length ≤ 64 ∧ kx.length ≤ 1000000 := HFIT.out.2 ⟨kk, kn, ka, ksf, kx⟩ (by rw [← HTV.out]; exact List.mem_map.2 ⟨_, List.mem_of_getElem? hp, rfl⟩)
        have HRNG := hideT hrng
        have hbt : Below wr.heap.size wr (wr.alloc (.cells (kCells kk kn (.slice ua ka.length uc) ksf kx) 56)) := (Below.refl _ _).alloc (Nat.le_refl _) _
        have htk : KAt (wr.alloc (.cells (kCells kk kn (.slice ua ka.length uc) ksf kx) 56)) wr.heap.size (kCells kk kn (.slice ua ka.length uc) ksf kx) := heap_new wr _
        have HADD := hideT (Tadd_any (hB.below hbt) hOk (by have := HFIT.out.1; omega) ⟨kk, kn, ka, ksf, kx⟩ (by show kn.length ≤ _; omega) hf.2.1 (by show kx.length ≤ _; omega) ua uc (OwnsPairs.below ho hbt) hno)
        have HNX := hideT (fun b2 w2 hs hP => PAt.next (b2 := b2) (w2 := w2) (bb := bb) (mg := mg) hp hOk hf hbd hO hT hs hbt hP)
        have hd0w : ¬ AddT T (.slice ua ka.length uc) w.heap.size := fun h => by
          have hg0 : ∀ k, Gone tv (j + 1) k ∨ w1.heap.size ≤ k → w.heap.size < k := fun k h => by
            rcases h with h | h
            · have := HGO.out _ _ h
              omega
            · omega
          rcases h with h | h
          · have := hg0 _ ((hT _ h).imp (fun h => h.more (Nat.le_succ _)) id)
            omega
          · have := hg0 _ (.inl ⟨j, _, Nat.lt_succ_self _, hp, h⟩)
            omega
        have hdr : (wr.alloc (.cells (kCells kk kn (.slice ua ka.length uc) ksf kx) 56)).heap[w.heap.size]? = some (.cells #[.slice none 0 0] 26 (0, 0)) :=
          (hbt.block _ (by have := hO.size; omega)).trans ((hO.block _ (by omega) (fun h => by have := HGO.out _ _ h; omega)).trans HD1.out)
        have HDW := hideT (fun w4 (h : OwnT (AddT T (.slice ua ka.length uc)) (wr.alloc (.cells (kCells kk kn (.slice ua ka.length uc) ksf kx) 56)) w4) => (h.block _ (Array.getElem?_eq_some_iff.1 hdr).1 hd0w).trans hdr)
        have HBW : Hid (∀ w4, OwnT (AddT T (.slice ua ka.length uc)) (wr.alloc (.cells (kCells kk kn (.slice ua ka.length uc) ksf kx) 56)) w4 → Below w.heap.size w w4) := fun w4 h => by
          have h1 := HB1.out
          have h2 : OwnT (fun k => w.heap.size < k) w1 w4 := ((hO.wider (fun k hk => by have := HGO.out _ _ hk; omega)).trans (OwnT.of (T := fun k => w.heap.size < k) hbt) (fun k h => .inl h)).trans h (fun k hk => by
            rcases hk with hk | hk
            · rcases hT k hk with h | h
              · have := HGO.out _ _ h
                exact .inl (by omega)
              · exact .inl (by omega)
            · have := HGO.out _ _ (⟨j, _, Nat.lt_succ_self _, hp, hk⟩ : Gone tv (j + 1) k)
              exact .inl (by omega))
          exact ⟨h2.os.trans h1.os, h2.tape.trans h1.tape, h2.output.trans h1.output, Nat.le_trans h1.size h2.size, fun k hk => (h2.block k (by omega) (by omega)).trans (h1.block k hk)⟩
        have HPB := hideT (show Tre.parseT ks = (match Tre.build (ks.drop j) ⟨ps.map (·.1), op⟩ with | .error e => .error e | .ok b => .ok b.nodes) from by rw [← HTV.out, ← hbd]; rfl)
        have hkj : ks.drop j = ⟨kk, kn, ka, ksf, kx⟩ :: ks.drop (j + 1) := by
          rw [List.drop_eq_getElem_cons hjl]
          congr 1
          have h9 : (tv.map (·.1))[j]? = some ⟨kk, kn, ka, ksf, kx⟩ := by rw [List.getElem?_map, hp]; rfl
          rw [HTV.out, List.getElem?_eq_getElem hjl] at h9
          exact Option.some.inj h9
        rw [hkj] at HPB
        clear hB hr ho hno hrng hp hbd hO hT hd0w hdr hbt hkj hOk
        cases hst : Tre.step ⟨ps.map (·.1), op⟩ ⟨kk, kn, ka, ksf, kx⟩ with
        | error e0 =>
          rw [hst] at HADD
          have hPR : Hid (parseR s = ([], e0)) := by
            show parseR s = _
            rw [HX.out, HPB.out, Tre.build, hst]
          have he0 : ((e0 : Int) != 0) = true := by rcases step_err hst with rfl | rfl <;> rfl
          clear hst HNX HPB
          go_wp2_with (first
            | (refine wpList_load_Tg (by rfl) _ rfl gt (j * 5) rfl _ _ _ _ _ HRNG.out ?_)
            | (refine wpList_load_K _ rfl rfl wr.heap.size _ _ _ _ _ rfl htk ?_)
            | (go_at_call 25; refine HADD.out.mono ?_; rintro e w4 ⟨q, rfl, hp4⟩; obtain ⟨rfl, hO4⟩ := hp4; have hd4 := HDW.out _ hO4; have hB4 := hideT (HBW.out _ hO4); clear hO4; have cd4 := Lib.cell_of_heap hd4 0; have fd4 := Lib.frozen_of_heap hd4 0))
          refine ret_D13 (b := w.heap.size) rfl rfl rfl rfl (heap_set13 hd4 _) ?_
          rw [hPR.out]
          exact ⟨_, rfl, .inl ⟨none, 0, rfl, rfl⟩, hB4.out.setCell (Nat.le_refl _) _⟩
        | ok b2 =>
          rw [hst] at HADD
          have HN2 := hideT (fun w2 hP => HNX.out b2 w2 hst hP)
          have HJ : Hid (j + 1 ≤ ks.length) := hjl
          clear hst HNX HPB HDW HBW
          go_wp2_with (first
            | (refine wpList_load_Tg (by rfl) _ rfl gt (j * 5) rfl _ _ _ _ _ HRNG.out ?_)
            | (refine wpList_load_K _ rfl rfl wr.heap.size _ _ _ _ _ rfl htk ?_)
            | (go_at_call 25; refine HADD.out.mono ?_; rintro e w4 ⟨q, rfl, hp4⟩; obtain ⟨rfl, hP4⟩ := hp4; have HQ := hideT (HN2.out _ hP4); clear hP4))
          go_roundw
          case rel => exact ⟨j + 1, by go_num, HJ.out, HQ⟩
          case measure => have := HJ.out; simp [intOf]; omega
      · have hje : j = ks.length := by omega
        subst hje
        obtain ⟨T, nv, ov, ps, op, hB, hOk, hbd, hO, hT⟩ := HI.out
        have hpl : 1 ≤ ps.length := by
          have := hOk.len
          simp only [List.length_map] at this
          exact this.1
        obtain ⟨gn, cn, rfl, _⟩ := hB.nform hpl
        have hPR : Hid (parseR s = (ps.map (·.1), 0)) := by
          show parseR s = _
          rw [HX.out, ← HTV.out]
          unfold Tre.parseT
          rw [hbd, HTV.out, List.drop_length]
          rfl
        have hB4 : Hid (Below w.heap.size w wr) := by
          have h1 := HB1.out
          have h2 : OwnT (fun k => w.heap.size < k) w1 wr := hO.wider (fun k hk => by have := HGO.out _ _ hk; omega)
          exact ⟨h2.os.trans h1.os, h2.tape.trans h1.tape, h2.output.trans h1.output, Nat.le_trans h1.size h2.size, fun k hk => (h2.block k (by omega) (by omega)).trans (h1.block k hk)⟩
        have hd4 : wr.heap[w.heap.size]? = some (.cells #[.slice none 0 0] 26 (0, 0)) := (hO.block _ (by omega) (fun h => by have := HGO.out _ _ h; omega)).trans HD1.out
        have hTd : ¬ T w.heap.size := fun h => by
          rcases hT _ h with h | h
          · have := HGO.out _ _ h
            omega
          · omega
        have HR : Hid (∀ v, ReadsN (wr.setCell ⟨w.heap.size, 0, none⟩ v) (.slice (some ⟨gn, 0, none⟩) ps.length cn) (ps.map (·.1))) := fun v => (hB.keep (by simp [World.setCell]) (fun k hk h => hset13 wr w.heap.size 0 v (fun e => hTd (e ▸ h)))).reads hpl
        have c0 := Lib.cell_of_heap hB.blk 0
        have cd4 := Lib.cell_of_heap hd4 0
        have fd4 := Lib.frozen_of_heap hd4 0
        clear hB hOk hbd hO hT HI hTd
        go_wp2
        have hds : (wr.setCell ⟨w.heap.size, 0, none⟩ (.slice (some ⟨gn, 0, none⟩) ps.length cn)).heap[w.heap.size]? = some (.cells #[.slice (some ⟨gn, 0, none⟩) ps.length cn] 26 (0, 0)) := heap_set13 hd4 _
        refine ret_D13 (b := w.heap.size) rfl rfl rfl rfl hds ?_
        rw [hPR.out]
        exact ⟨_, rfl, HR.out _, hB4.out.setCell (Nat.le_refl _) _⟩
  · have HX : Hid (parseR s = ([], (allR s).2)) := if_neg hq
    generalize hW0 : (w.alloc (.cells #[.slice none 0 0] 26)) = W0 at *
    generalize allR s = x at *
    obtain ⟨ks, q⟩ := x
    simp only at hq HX hfit
    have q1 : ((q : Int) != 0) = true := by simp; omega
    have HW0 := hideT hW0
    clear hW0 hE
    have HB0 := hideT hb0
    go_enter Tryz.func11, Tryz.ntmps11
    go_upto_region 1 with fail
    rw [HW0.out]
    go_wp2_with (go_at_call 23; refine hA.mono ?_; rintro e w1 ⟨ad, ln, cp, rfl, hK, hb1⟩; have hd4 := (hb1.block w.heap.size (by omega)).trans hd0; have hB4 := hideT (HB0.out.trans (hb1.mono HB0.out.size)); have cd4 := Lib.cell_of_heap hd4 0; have fd4 := Lib.frozen_of_heap hd4 0; clear hA hK hb1)
    refine ret_D13 (b := w.heap.size) rfl rfl rfl rfl (heap_set13 hd4 _) ?_
    rw [HX.out]
    exact ⟨_, rfl, .inl ⟨none, 0, rfl, rfl⟩, hB4.out.setCell (Nat.le_refl _) _⟩
end Go.Proofs.YtiodaahncadodaaGreatDoor
/- The contracts of the laws' own alive and long (layer 13); what Parse answers may be. -/
namespace Go.Proofs.YtiodaahncadodaaGreatDoor
open Go.RowKit
theorem parse_alive : parseR Tre.aliveS = (Tre.aliveN, 0) := by
  have h : allR Tre.aliveS = ([Tre.tS Tre.ulN, Tre.tS Tre.liN, Tk.textTok [97], Tre.tS Tre.liN, Tk.textTok [98], Tre.tE Tre.ulN], 0) := by
    unfold allR
    rw [Tre.alive_clean, Tre.alive_all]
    rfl
  unfold parseR
  rw [h]
  simp only [if_true]
  rw [Tre.alive_tree]
theorem alive_ats : ∀ i, i < Tre.aliveN.length → (Tre.ndAt Tre.aliveN i).attrs.length ≤ 1000000 := by
  have h : ∀ i : Fin Tre.aliveN.length, (Tre.ndAt Tre.aliveN i.val).attrs.length ≤ 1000000 := by decide +kernel
  exact fun i hi => h ⟨i, hi⟩
theorem alive_few : Few Tre.aliveN := by
  have h : ∀ i : Fin Tre.aliveN.length, (Tre.ndAt Tre.aliveN i.val).attrs.length ≤ 1000000000000000 ∧ leastN (Tre.ndAt Tre.aliveN i.val) ≤ 1000000000000000 := by decide +kernel
  exact fun i hi => h ⟨i, hi⟩
set_option maxHeartbeats 4000000 in
set_option maxRecDepth 100000 in
theorem alive13_any (w : World) (hE : EnvT w) : Calls Tryz.prog 10 #[] w fun e w' => e = .returned (.bool true) ∧ Below w.heap.size w w' := by
  have hP := Parse_any Tre.aliveS w hE
  rw [parse_alive] at hP
  have HWr := hideT (fun W v h => Write_any Tre.aliveN v W h (by decide) (fun _ => alive_ats) alive_few 0)
  rw [Tre.alive_write] at HWr
  have HDp := hideT (fun W v h => Deep_any Tre.aliveN v W h (by decide) (fun _ => alive_ats))
  rw [Tre.alive_deep] at HDp
  have HMy := hideT (fun W v h => May_any Tre.aliveN v W h (by decide) (fun _ => alive_ats))
  rw [Tre.alive_may] at HMy
  have t1 : ((str Tre.aliveW).toList == [60, 117, 108, 62, 60, 108, 105, 62, 97, 60, 47, 108, 105, 62, 60, 108, 105, 62, 98, 60, 47, 108, 105, 62, 60, 47, 117, 108, 62]) = true := by rw [str_list]; rfl
  go_enter Tryz.func10, Tryz.ntmps10
  go_upto_region 2 with (go_at_call 11; refine hP.mono ?_; rintro e w1 ⟨v, rfl, hR, hb1⟩; obtain ⟨a, c, rfl⟩ := hR.form)
  have hbA : Below w1.heap.size w1 (w1.alloc (.cells #[.slice a Tre.aliveN.length c] 26)) := (Below.refl _ _).alloc (Nat.le_refl _) _
  have cd := doc_one (heap_new w1 (.cells #[.slice a Tre.aliveN.length c] 26))
  have hR2 := hR.below hbA
  obtain ⟨g, o, aa, ac, ka, kc, rfl, hcc, hr⟩ := hR2.at (j := 1) (by decide)
  have c5 := hr.c5
  rw [show o + 1 * 6 = o + 6 from by omega] at c5
  have hl6 : Tre.aliveN.length = 6 := rfl
  have hk2 : (Tre.ndAt Tre.aliveN 1).kids.length = 2 := rfl
  rw [hk2] at c5
  rw [hl6] at hR2 cd hbA hcc c5 ⊢
  have HB2 := hideT (hb1.trans (hbA.mono hb1.size))
  have HR2 := hideT hR2
  have hds : w1.heap.size < (w1.alloc (.cells #[.slice (some ⟨g, o, none⟩) 6 c] 26)).heap.size := cell_lt cd
  generalize (w1.alloc (.cells #[.slice (some ⟨g, o, none⟩) 6 c] 26)) = W2 at *
  generalize w1.heap.size = b at *
  clear hR hR2 hP hr hbA hb1
  go_wp2_with (first
    | (go_at_call 20; refine (HWr.out _ _ HR2.out).mono ?_; rintro e w3 ⟨rfl, b3⟩; have HB3 := hideT b3; have cd3 := (b3.cell (p := ⟨b, 0, none⟩) hds).trans cd; have hds3 := Nat.lt_of_lt_of_le hds b3.size; clear b3)
    | (go_at_call 17; refine (HDp.out _ _ (HR2.out.below HB3.out)).mono ?_; rintro e w4 ⟨rfl, b4⟩; have HB4 := hideT (bel HB3.out b4); have cd4 := (b4.cell (p := ⟨b, 0, none⟩) hds3).trans cd3; clear b4)
    | (go_at_call 15; refine (HMy.out _ _ (HR2.out.below HB4.out)).mono ?_; rintro e w5 ⟨rfl, b5⟩; have HB5 := hideT (bel HB4.out b5); clear b5))
  go_ret
  exact ⟨rfl, HB2.out.trans (HB5.out.mono HB2.out.size)⟩
theorem long13_any (l : List UInt8) (w : World) : Calls Tryz.prog 9 #[.string (str l)] w fun e w' => e = .returned (.bool (longT l)) ∧ w' = w := by
  have hz := str_size l
  by_cases h1 : 1500 < l.length
  · have i1 : (1500 : Int) < (l.length : Int) := by omega
    by_cases h2 : l.length ≤ 65536
    · have i2 : (l.length : Int) ≤ 65536 := by omega
      have HX : Hid (longT l = true) := longT_yes ⟨h1, h2⟩
      clear h1 h2
      go_enter Tryz.func9, Tryz.ntmps9
      go_wp2
      go_ret
      exact ⟨ret_bool HX.out.symm, rfl⟩
    · have i2 : ¬ (l.length : Int) ≤ 65536 := by omega
      have HX : Hid (longT l = false) := longT_no (fun h => h2 h.2)
      clear h1 h2
      go_enter Tryz.func9, Tryz.ntmps9
      go_wp2
      go_ret
      exact ⟨ret_bool HX.out.symm, rfl⟩
  · have i1 : ¬ (1500 : Int) < (l.length : Int) := by omega
    have HX : Hid (longT l = false) := longT_no (fun h => h1 h.1)
    clear h1
    go_enter Tryz.func9, Tryz.ntmps9
    go_wp2
    go_ret
    exact ⟨ret_bool HX.out.symm, rfl⟩
/-- What a document that is not refused parses to. -/
theorem parse_fits (s : List UInt8) (h : (parseR s).2 = 0) : ∃ b, Tre.Wl b ∧ b.nodes = (parseR s).1 ∧ Tre.mayB (parseR s).1 = true ∧ Tre.deepN (parseR s).1 ≤ 64 ∧ (parseR s).1.length ≤ 4096 ∧ Tre.texts (parseR s).1 = (allR s).1.flatMap Tre.tokText ∧ ∀ i, i < (parseR s).1.length → (Tre.ndAt (parseR s).1 i).attrs.length ≤ 64 ∧ (Tre.ndAt (parseR s).1 i).kids.length ≤ 4096 ∧ (Tre.ndAt (parseR s).1 i).text.length ≤ 16384000000 := by
  unfold parseR at h ⊢
  split at h
  · rename_i h0
    rw [if_pos h0]
    have hf := allR_fits s
    have hfi : ∀ k ∈ (allR s).1, Tk.Fine k := by
      unfold allR
      split
      · intro k hk
        cases hk
      · exact Tk.all_fine _
    generalize (allR s).1 = ks at *
    cases hp : Tre.parseT ks with
    | error e =>
      rw [hp] at h
      simp only at h
      have : e ≠ 0 := by
        unfold Tre.parseT at hp
        have hb : ∀ (ks : List Tk.Tok) (b : Tre.St) e, Tre.build ks b = .error e → e = 5 ∨ e = 8 := by
          intro ks
          induction ks with
          | nil => intro b e h; cases h
          | cons k ks ih =>
            intro b e h
            rw [Tre.build] at h
            split at h
            · rename_i e2 he
              cases h
              exact step_err he
            · exact ih _ _ h
        split at hp
        · rename_i e2 he
          cases hp
          rcases hb _ _ _ he with h | h <;> omega
        · cases hp
      exact absurd h this
    | ok ns =>
      simp only
      obtain ⟨b, hW, rfl, hbd⟩ := Tre.parse_inv (fun k hk => Tre.fine_ok (hfi k hk)) hp
      have hok : ∀ (ks : List Tk.Tok) (b b2 : Tre.St) (M : Nat), Tre.Ok b M → (∀ k ∈ ks, k.attrs.length ≤ 64 ∧ k.text.length ≤ 1000000) → Tre.build ks b = .ok b2 → Tre.Ok b2 (M + ks.length * 1000000) := by
        intro ks
        induction ks with
        | nil => intro b b2 M h _ hb; cases hb; exact h
        | cons k ks ih =>
          intro b b2 M h hk hb
          rw [Tre.build] at hb
          split at hb
          · cases hb
          · rename_i b3 e
            have hk1 := hk k (List.mem_cons_self ..)
            have := ih b3 b2 _ (Tre.ok_step k hk1.1 h e) (fun x hx => hk x (List.mem_cons_of_mem _ hx)) hb
            exact this.more (by rw [List.length_cons]; omega)
      have hO := hok ks _ _ 0 Tre.ok_start (fun k hk => ⟨(hf.2 k hk).2.1, (hf.2 k hk).2.2⟩) hbd
      refine ⟨b, hW, rfl, hW.may hO.len.2, hW.deepN, hO.len.2, ?_, fun i hi => ?_⟩
      · have := Tre.build_texts ks _ _ Tre.inv_start (fun k hk => Tre.fine_ok (hfi k hk)) hbd
        rw [this]
        rfl
      · have hm : Tre.ndAt b.nodes i ∈ b.nodes := List.mem_of_getElem? (Tre.ndAt_get hi)
        have h1 := hO.ats _ hm
        have h2 := (hO.kids _ hm).1
        have h3 := hO.tx _ hm
        have h4 := hO.len.2
        have h5 := hf.1
        exact ⟨h1, by omega, by omega⟩
  · rename_i h0
    exact absurd h h0
end Go.Proofs.YtiodaahncadodaaGreatDoor
