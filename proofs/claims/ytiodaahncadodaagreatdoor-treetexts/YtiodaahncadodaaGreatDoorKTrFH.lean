/- Texts laid as one. -/
import Derived.Test.YtiodaahncadodaaGreatDoorKTrCD
import Derived.Test.YtiodaahncadodaaGreatDoorKURRep
import Derived.Test.YtiodaahncadodaaGreatDoorKTkQR
import Derived.Test.YtiodaahncadodaaGreatDoorKTrAB
/- The contracts of the reference's Raw, ends, Clean. -/
set_option linter.unusedVariables false
set_option linter.unusedSimpArgs false
namespace Go.Proofs.YtiodaahncadodaaGreatDoor
open Go.RowKit
set_option maxHeartbeats 1000000 in
theorem RRaw_any (l : List UInt8) (w : World) :
    Calls Tryz.prog 48 #[.string (str l)] w fun e w' => e = .returned (.tuple #[.bool (Tk.isRaw l), .bool (Tk.isDec l)]) ∧ w' = w := by
  have HV : Hid (Tk.isRaw l = (l == [115, 99, 114, 105, 112, 116] || l == [115, 116, 121, 108, 101] || l == [116, 101, 120, 116, 97, 114, 101, 97] || l == [116, 105, 116, 108, 101]) ∧ Tk.isDec l = (l == [116, 101, 120, 116, 97, 114, 101, 97] || l == [116, 105, 116, 108, 101])) := ⟨rfl, rfl⟩
  have q0 : ((str l).toList == [115, 99, 114, 105, 112, 116]) = (l == [115, 99, 114, 105, 112, 116]) := by rw [str_list]
  have q1 : ((str l).toList == [115, 116, 121, 108, 101]) = (l == [115, 116, 121, 108, 101]) := by rw [str_list]
  have q2 : ((str l).toList == [116, 101, 120, 116, 97, 114, 101, 97]) = (l == [116, 101, 120, 116, 97, 114, 101, 97]) := by rw [str_list]
  have q3 : ((str l).toList == [116, 105, 116, 108, 101]) = (l == [116, 105, 116, 108, 101]) := by rw [str_list]
  generalize (l == [115, 99, 114, 105, 112, 116]) = b0 at *
  generalize (l == [115, 116, 121, 108, 101]) = b1 at *
  generalize (l == [116, 101, 120, 116, 97, 114, 101, 97]) = b2 at *
  generalize (l == [116, 105, 116, 108, 101]) = b3 at *
  cases b0 <;> cases b1 <;> cases b2 <;> cases b3
  all_goals
    go_enter Tryz.func48, Tryz.ntmps48
    go_wp2
    go_ret2
    exact ⟨by rw [HV.out.1, HV.out.2]; rfl, rfl⟩
theorem str_cat_l2 (a : ByteArray) (b : List UInt8) : a ++ str b = str (a.data.toList ++ b) := by
  apply str_eq
  rw [ByteArray.data_append, Array.toList_append, str_data]
theorem ends_next (n s : List UInt8) (k : Nat) (h : k < s.length) (hb : Tk.endHere n (s.drop k) = false) : Tk.ends n (s.drop k) = 1 + Tk.ends n (s.drop (k + 1)) := by
  rw [List.drop_eq_getElem_cons h] at hb ⊢
  rw [Tk.ends, hb]
  simp [Nat.add_comm]
theorem ends_at (n s : List UInt8) (k : Nat) (h : k < s.length) (hb : Tk.endHere n (s.drop k) = true) : Tk.ends n (s.drop k) = 0 := by
  rw [List.drop_eq_getElem_cons h] at hb ⊢
  rw [Tk.ends, hb]
  rfl
theorem begins_len (m s : List UInt8) (h : Tk.begins m s = true) : m.length ≤ s.length := by
  unfold Tk.begins at h
  rw [Bool.and_eq_true] at h
  exact of_decide_eq_true h.1
set_option maxHeartbeats 4000000 in
set_option maxRecDepth 100000 in
theorem Rends_any (s n : List UInt8) (w : World) (hz : s.length ≤ 1000000) (hn : n.length ≤ 1000000) :
    Calls Tryz.prog 49 #[.string (str s), .string (str n)] w fun e w' => e = .returned (.int .i64 (Tk.ends n s)) ∧ Below w.heap.size w w' := by
  have hsz := str_size s
  have hsn := str_size n
  have hcat : (⟨#[60, 47]⟩ : ByteArray) ++ str n = str (60 :: 47 :: n) := by rw [str_cat_l2]; rfl
  have hm : ¬ 9223372036854775807 < 2 + n.length := by omega
  go_enter Tryz.func49, Tryz.ntmps49
  go_wp2
  go_loopw [5] (fun i wr => ∃ k : Nat, i = .int .i64 k ∧ k ≤ s.length ∧ Hid (Tk.ends n s = k + Tk.ends n (s.drop k)) ∧ Below w.heap.size w wr) (fun i _ => s.length - (intOf i).toNat)
  case atStart => exact ⟨0, rfl, Nat.zero_le _, (by show _ = _; rw [List.drop_zero, Nat.zero_add]), Below.refl _ _⟩
  case round =>
    obtain ⟨k, rfl, hk, HE, hB⟩ := hrel
    have HB := hideT hB
    clear hB
    by_cases hlt : k < s.length
    · have hdr := str_from s k
      have hBg := hideT (fun W => Rbegins_any (s.drop k) (60 :: 47 :: n) W (by rw [List.length_drop]; omega) (by simp only [List.length_cons]; omega))
      have HH : Hid (Tk.endHere n (s.drop k) = (Tk.begins (60 :: 47 :: n) (s.drop k) && Tk.endsIt ((s.drop k).drop (2 + n.length)))) := rfl
      rw [List.drop_drop] at HH
      cases hb : Tk.begins (60 :: 47 :: n) (s.drop k)
      · rw [hb] at hBg HH
        have HN : Hid (Tk.ends n s = k + 1 + Tk.ends n (s.drop (k + 1))) := by
          show _ = _
          have h1 := HE.out
          rw [ends_next n s k hlt (by rw [HH.out]; rfl)] at h1
          omega
        clear HH HE hb
        generalize s.drop k = r at *
        go_wp2_with (go_at_call 76; (try rw [hdr]); (try rw [hcat]); refine (hBg.out _).mono ?_; rintro e w1 ⟨rfl, hb1⟩; have HB1 := hideT (bel HB.out hb1); clear hb1)
        go_roundw
        case rel => exact ⟨k + 1, by go_num, by omega, HN.out, HB1.out⟩
        case measure => simp [intOf]; omega
      · have hle := begins_len _ _ hb
        rw [List.length_drop, List.length_cons, List.length_cons] at hle
        rw [hb] at hBg HH
        obtain ⟨K, hK⟩ : ∃ K, k + (2 + n.length) = K := ⟨_, rfl⟩
        rw [hK] at HH
        have hKI : (k : Int) + 2 + (n.length : Int) = (K : Int) := by omega
        have hKl : K ≤ s.length := by omega
        have HY := hideT (fun h : Tk.endsIt (s.drop K) = true => (by
          have h1 := HE.out
          rw [ends_at n s k hlt (by rw [HH.out, h]; rfl)] at h1
          exact h1 : Tk.ends n s = k))
        have HNo := hideT (fun h : Tk.endsIt (s.drop K) = false => (by
          have h1 := HE.out
          rw [ends_next n s k hlt (by rw [HH.out, h]; rfl)] at h1
          omega : Tk.ends n s = k + 1 + Tk.ends n (s.drop (k + 1))))
        clear HH HE hb hle hK
        by_cases hKe : K = s.length
        · have hY := hideT (HY.out (by rw [List.drop_eq_nil_of_le (by omega)]; rfl))
          have qK : ((K : Int) == (s.length : Int)) = true := by rw [hKe]; simp
          clear HY HNo hKe
          generalize s.drop k = r at *
          go_wp2_with (go_at_call 76; (try rw [hdr]); (try rw [hcat]); refine (hBg.out _).mono ?_; rintro e w1 ⟨rfl, hb1⟩; have HB1 := hideT (bel HB.out hb1); clear hb1)
          go_ret
          exact ⟨by rw [hY.out]; rfl, HB1.out⟩
        · have hKs : K < s.length := by omega
          have qK : ((K : Int) == (s.length : Int)) = false := by rw [beq_eq_false_iff_ne]; omega
          obtain ⟨c, hc⟩ : ∃ c, s[K] = c := ⟨_, rfl⟩
          have hat := byte_at s K hKs c hc
          have hIB := RIsBlank_c c
          have HI : Hid (Tk.endsIt (s.drop K) = (Asc.isBlank c || c == 47 || c == 62)) := by
            show _ = _
            rw [List.drop_eq_getElem_cons hKs, hc]
            rfl
          rw [HI.out] at HY HNo
          clear HI hc hKe
          generalize s.drop k = r at *
          cases hbl : Asc.isBlank c
          · rw [hbl] at hIB HY HNo
            by_cases h47 : c = 47
            · have q47 : ((c.toNat : Int) == 47) = true := by rw [h47]; rfl
              have hY := hideT (HY.out (by rw [h47]; rfl))
              clear HY HNo h47
              go_wp2_with (first
                | (go_at_call 76; (try rw [hdr]); (try rw [hcat]); refine (hBg.out _).mono ?_; rintro e w1 ⟨rfl, hb1⟩; have HB1 := hideT (bel HB.out hb1); clear hb1)
                | (go_at_call 78; refine (hIB _).mono ?_; rintro e w2 ⟨rfl, hw⟩; rw [hw]; clear hw))
              go_ret
              exact ⟨by rw [hY.out]; rfl, HB1.out⟩
            have q47 : ((c.toNat : Int) == 47) = false := q_no c 47 (by omega) h47
            by_cases h62 : c = 62
            · have q62 : ((c.toNat : Int) == 62) = true := by rw [h62]; rfl
              have hY := hideT (HY.out (by rw [h62]; rfl))
              clear HY HNo h62 h47
              go_wp2_with (first
                | (go_at_call 76; (try rw [hdr]); (try rw [hcat]); refine (hBg.out _).mono ?_; rintro e w1 ⟨rfl, hb1⟩; have HB1 := hideT (bel HB.out hb1); clear hb1)
                | (go_at_call 78; refine (hIB _).mono ?_; rintro e w2 ⟨rfl, hw⟩; rw [hw]; clear hw))
              go_ret
              exact ⟨by rw [hY.out]; rfl, HB1.out⟩
            have q62 : ((c.toNat : Int) == 62) = false := q_no c 62 (by omega) h62
            have HN := hideT (HNo.out (by simp [h47, h62]))
            clear HY HNo h62 h47
            go_wp2_with (first
              | (go_at_call 76; (try rw [hdr]); (try rw [hcat]); refine (hBg.out _).mono ?_; rintro e w1 ⟨rfl, hb1⟩; have HB1 := hideT (bel HB.out hb1); clear hb1)
              | (go_at_call 78; refine (hIB _).mono ?_; rintro e w2 ⟨rfl, hw⟩; rw [hw]; clear hw))
            go_roundw
            case rel => exact ⟨k + 1, by go_num, by omega, HN.out, HB1.out⟩
            case measure => simp [intOf]; omega
          · rw [hbl] at hIB HY
            have hY := hideT (HY.out rfl)
            clear HY HNo
            go_wp2_with (first
              | (go_at_call 76; (try rw [hdr]); (try rw [hcat]); refine (hBg.out _).mono ?_; rintro e w1 ⟨rfl, hb1⟩; have HB1 := hideT (bel HB.out hb1); clear hb1)
              | (go_at_call 78; refine (hIB _).mono ?_; rintro e w2 ⟨rfl, hw⟩; rw [hw]; clear hw))
            go_ret
            exact ⟨by rw [hY.out]; rfl, HB1.out⟩
    · have HN : Hid (Tk.ends n s = s.length) := by
        show _ = _
        have h1 := HE.out
        rw [List.drop_eq_nil_of_le (by omega)] at h1
        have : Tk.ends n [] = 0 := rfl
        omega
      clear HE
      go_wp2
      go_ret
      exact ⟨by rw [HN.out]; rfl, HB.out⟩
end Go.Proofs.YtiodaahncadodaaGreatDoor
/- Rows of the reference's tokens. -/
namespace Go.Proofs.YtiodaahncadodaaGreatDoor
open Go.RowKit
/-- A row of tokens, from block B on. -/
structure KS' (w : World) (B : Nat) (v : Value) (ps : List TV) : Prop where
  row : w.ownsRow B 48 5 v ps.length (tokCells ps)
  each : ∀ p ∈ ps, OwnsA w B p.2 p.1.attrs ∧ ApK p.2 v
def KS (w : World) (B : Nat) (v : Value) (ks : List Tk.Tok) : Prop := ∃ ps, ps.map (·.1) = ks ∧ KS' w B v ps
theorem KS.nil (w : World) (B : Nat) : KS w B (.slice none 0 0) [] := ⟨[], rfl, World.ownsRow_nil _ _ _ _, fun p h => by cases h⟩
theorem KS'.keep {w w' : World} {B : Nat} {v : Value} {ps : List TV} (h : KS' w B v ps) (hk : ∀ k, B ≤ k → k < w.heap.size → w'.heap[k]? = w.heap[k]?) : KS' w' B v ps :=
  ⟨row_keepK h.row (fun k e hl => hk k (World.ownsRow.lt h.row k e).1 hl), fun p hp => ⟨row_keepK (h.each p hp).1 (fun k e hl => hk k (World.ownsRow.lt (h.each p hp).1 k e).1 hl), (h.each p hp).2⟩⟩
theorem KS.keep {w w' : World} {B : Nat} {v : Value} {ks : List Tk.Tok} (h : KS w B v ks) (hk : ∀ k, B ≤ k → k < w.heap.size → w'.heap[k]? = w.heap[k]?) : KS w' B v ks := by
  obtain ⟨ps, h1, h2⟩ := h
  exact ⟨ps, h1, h2.keep hk⟩
theorem KS.below {w w' : World} {B : Nat} {v : Value} {ks : List Tk.Tok} (h : KS w B v ks) (hB : Below w.heap.size w w') : KS w' B v ks := h.keep (fun k _ hk => hB.block k hk)
theorem KS.kept {w w' : World} {B b : Nat} {v : Value} {ks : List Tk.Tok} (h : KS w B v ks) (hk : Kept b w w') (hb : b < B) : KS w' B v ks := h.keep (fun k h1 hl => hk.block k hl (by omega))
theorem KS.mono {w : World} {B B' : Nat} {v : Value} {ks : List Tk.Tok} (h : KS w B v ks) (hB : B' ≤ B) : KS w B' v ks := by
  obtain ⟨ps, h1, h2⟩ := h
  exact ⟨ps, h1, row_mono h2.row hB, fun p hp => ⟨OwnsPairs.mono (h2.each p hp).1 hB, (h2.each p hp).2⟩⟩
theorem KS.form {w : World} {B : Nat} {v : Value} {ks : List Tk.Tok} (h : KS w B v ks) : ∃ a c, v = .slice a ks.length c := by
  obtain ⟨ps, h1, h2⟩ := h
  have e : ps.length = ks.length := by rw [← h1, List.length_map]
  rcases h2.row.2 with ⟨rfl, hz⟩ | ⟨g, cap, cur, rfl, _⟩
  · exact ⟨none, 0, by rw [← e, hz]⟩
  · exact ⟨_, _, by rw [e]⟩
theorem KS.at_base {w : World} {B : Nat} {v : Value} {ks : List Tk.Tok} (h : KS w B v ks) {k : Nat} (hk : v.ownBlock = some k) : B ≤ k ∧ k < w.heap.size := by
  obtain ⟨ps, h1, h2⟩ := h
  exact World.ownsRow.lt h2.row k hk
/-- What a place of the row has. -/
theorem KS.at {w : World} {B : Nat} {a : Option Addr} {n c : Nat} {ks : List Tk.Tok} (h : KS w B (.slice a n c) ks) {j : Nat} {k : Tk.Tok} (hj : ks[j]? = some k) :
    ∃ g u, a = some ⟨g, 0, none⟩ ∧ B ≤ g ∧ g < w.heap.size ∧ n ≤ c ∧ w.cell? ⟨g, j * 5, none⟩ = some (.int .i64 k.kind) ∧ w.cell? ⟨g, j * 5 + 1, none⟩ = some (.string (str k.name)) ∧ w.cell? ⟨g, j * 5 + 2, none⟩ = some u ∧ w.cell? ⟨g, j * 5 + 3, none⟩ = some (.bool k.self) ∧ w.cell? ⟨g, j * 5 + 4, none⟩ = some (.string (str k.text)) ∧ OwnsA w B u k.attrs := by
  obtain ⟨ps, h1, h2⟩ := h
  have hjl : j < ks.length := (List.getElem?_eq_some_iff.1 hj).1
  have e : ps.length = ks.length := by rw [← h1, List.length_map]
  have hp : ps[j]? = some ps[j] := List.getElem?_eq_getElem (by omega)
  have hk : (ps[j]).1 = k := by
    have : (ps.map (·.1))[j]? = some k := by rw [h1]; exact hj
    rw [List.getElem?_map, hp] at this
    simpa using this
  have hr := h2.row
  rcases h2.row.2 with ⟨hs, hz⟩ | ⟨g, cap, cur, hs, hb, hg, hc, _⟩
  · omega
  · have hs2 : a = some ⟨g, 0, none⟩ ∧ n = ps.length ∧ c = cap := by
      simp only [Value.slice.injEq] at hs
      exact hs
    obtain ⟨rfl, rfl, rfl⟩ := hs2
    have hat := tokCells_at ps j _ hp
    rw [hk] at hat
    have hcell : ∀ i, i < 5 → w.cell? ⟨g, j * 5 + i, none⟩ = (tokCells ps)[j * 5 + i]? := fun i hi => World.ownsRow.cellAt (w := w) (base := B) (e := 48) (size := 5) (g := g) (cap := c) (n := ps.length) (xs := tokCells ps) hr (j * 5 + i) (by omega)
    have hm : ps[j] ∈ ps := List.getElem_mem (by omega)
    have ho := (h2.each _ hm).1
    rw [hk] at ho
    exact ⟨g, (ps[j]).2, rfl, hb, (Array.getElem?_eq_some_iff.1 hg).1, hc, (hcell 0 (by omega)).trans hat.1, (hcell 1 (by omega)).trans hat.2.1, (hcell 2 (by omega)).trans hat.2.2.1, (hcell 3 (by omega)).trans hat.2.2.2.1, (hcell 4 (by omega)).trans hat.2.2.2.2, ho⟩
theorem infoTokR : (Tryz.prog.info? 48).map (fun i => (i.zero, i.size, i.bytes)) = some (some (.agg kCells0), 5, 72) := by kernel_rfl
/-- One further token. -/
theorem run_append_tokR (w : World) (ty : TypeId) (B : Nat) (v : Value) (ks : List Tk.Tok) (h : KS w B v ks) (ad : Addr) (c : Nat) (k : Tk.Tok) (u : Value) (hx : ∀ (j : Nat) (x : Value), [.int .i64 k.kind, .string (str k.name), u, .bool k.self, .string (str k.text)][j]? = some x → w.cell? (ad.add j) = some x) (ho : OwnsA w B u k.attrs) (hap : ApK u v) (hlen : ks.length ≤ 10000000) (hB : B ≤ w.heap.size) :
    ∃ v' w', (Builtin.append_ #[44, 44] ty #[v, .slice (some ad) 1 c]).run Tryz.prog w = .ok v' w' ∧ KS w' B v' (ks ++ [k]) ∧ w.grownBy w' v.ownBlock := by
  obtain ⟨i0, hi, hz0, hz1, hz2⟩ := info_parts infoTokR
  obtain ⟨ps, h0, h⟩ := h
  have e : ps.length = ks.length := by rw [← h0, List.length_map]
  obtain ⟨v', w', h1, h2, h3, _, h5⟩ := run_append_own_at (P := Tryz.prog) w B 44 ty 48 i0 (.agg kCells0) 5 72 Tryz.underlying44 hi hz0 hz1 hz2 rfl (by decide) v _ _ h.row ad 1 c [.int .i64 k.kind, .string (str k.name), u, .bool k.self, .string (str k.text)] rfl hx (fun x hx => by
    have := OwnsPairs.slice ho
    simp at hx
    rcases hx with rfl | rfl | rfl | rfl | rfl
    · rfl
    · rfl
    · exact this
    · rfl
    · rfl) (by unfold maxLen; omega) (by omega) hB
  have hk : ∀ y q, OwnsA w B y q → ApK y v → OwnsA w' B y q ∧ ApK y v' := fun y q hy ha => ⟨row_keepK hy (fun k e hl => h3.block k hl (fun e2 => ha k e e2.symm)), fun k e1 e2 => by
    rcases h5 with e | e
    · exact ha k e1 (by rw [← e]; exact e2)
    · rw [e] at e2
      cases e2
      have := (World.ownsRow.lt hy _ e1).2
      omega⟩
  refine ⟨v', w', h1, ⟨ps ++ [(k, u)], by simp [h0], by rw [List.length_append, tokCells_snoc]; exact h2, fun p hp => ?_⟩, h3⟩
  rcases List.mem_append.1 hp with hp | hp
  · exact hk _ _ (h.each p hp).1 (h.each p hp).2
  · rw [List.mem_singleton] at hp
    subst hp
    exact hk _ _ ho hap
theorem wpList_append_tokR {w : World} {ops : Array Oper} {rest : List Oper} {o : Oper} {a : Act} {Q : Exit → Act → World → Prop} (hgd : o.guard = none) (s x : Operand)
    (ho : o.op = .call { callee := .builtin .append, args := #[s, x], argTypes := #[44, 44] }) (B : Nat) (v : Value) (ks : List Tk.Tok) (hs : a.eval s = v) (hown : KS w B v ks) (ad : Addr) (c : Nat) (hx : a.eval x = .slice (some ad) 1 c) (k : Tk.Tok) (u : Value) (hg : ∀ (j : Nat) (x : Value), [.int .i64 k.kind, .string (str k.name), u, .bool k.self, .string (str k.text)][j]? = some x → w.cell? (ad.add j) = some x) (hy : OwnsA w B u k.attrs) (hap : ApK u v) (hlen : ks.length ≤ 10000000) (hB : B ≤ w.heap.size)
    (h : ∀ v' w', KS w' B v' (ks ++ [k]) → w.grownBy w' v.ownBlock → wpList Tryz.prog ops Q rest (a.put o.dst v') w') : wpList Tryz.prog ops Q (o :: rest) a w :=
  wpList_plain hgd fun _ hK => by
    obtain ⟨v', w', hr, h2, h3⟩ := run_append_tokR w o.type B v ks hown ad c k u hg hy hap hlen hB
    unfold Oper.wp execOp
    simp only [ho, resolve, invoke, builtin, Sem.run_bind, Sem.run_pure, Result.andThen_ok, List.map_toArray, List.map_cons, List.map_nil, hs, hx, hr]
    exact hK _ _ (h v' w' h2 h3)
end Go.Proofs.YtiodaahncadodaaGreatDoor
/- The contract of the reference's Clean. -/
namespace Go.Proofs.YtiodaahncadodaaGreatDoor
open Go.RowKit
theorem cell_three_new (w : World) (x0 x1 x2 : Value) (t : TypeId) : ∀ (j : Nat) (u : Value), [x0, x1, x2][j]? = some u → (w.alloc (.cells #[x0, x1, x2] t)).cell? ((⟨w.heap.size, 0, none⟩ : Addr).add j) = some u := by
  intro j u hj
  have hh := heap_new w (.cells #[x0, x1, x2] t)
  rw [add_addr, Nat.zero_add, Lib.cell_of_heap hh]
  rcases j with _ | _ | _ | j
  · exact hj
  · exact hj
  · exact hj
  · simp at hj
theorem OwnsBytes.of3 {w : World} {B : Nat} {v : Value} {l : List UInt8} (ho : w.ownsRow B 5 1 v (l.length + 3) (cellsB l ++ [.int .u8 239, .int .u8 191, .int .u8 189])) : OwnsBytes w B v (l ++ [239, 191, 189]) := by
  unfold OwnsBytes
  rw [List.length_append, show cellsB (l ++ [239, 191, 189]) = cellsB l ++ [.int .u8 239, .int .u8 191, .int .u8 189] from by unfold cellsB; rw [List.map_append]; rfl]
  exact ho
theorem norm_at (S : List UInt8) (k : Nat) (h : k < S.length) : Tk.norm (S.drop k) = (if S[k] = 13 then (if (S.drop (k + 1)).head? = some 10 then [] else [10]) else if S[k] = 0 then [239, 191, 189] else [S[k]]) ++ Tk.norm (S.drop (k + 1)) := by
  rw [List.drop_eq_getElem_cons h, Tk.norm]
set_option maxHeartbeats 4000000 in
set_option maxRecDepth 100000 in
theorem RClean_any (l : List UInt8) (w : World) (hz : l.length ≤ 1000000) :
    Calls Tryz.prog 46 #[.string (str l)] w fun e w' => e = .returned (.string (str (Tk.clean l))) ∧ Below w.heap.size w w' := by
  obtain ⟨i0, hi, hz0, hz1, hz2⟩ := info_parts infoByte
  have hR := RRepair_any l w (by omega)
  have hrl := Utf.rep_len l
  have HC : Hid (Tk.clean l = Tk.norm (Utf.rep l)) := rfl
  generalize Utf.rep l = S at *
  have hsz := str_size S
  have hSl : S.length ≤ 3000000 := by omega
  clear hrl
  go_enter Tryz.func46, Tryz.ntmps46
  go_wp2_with (go_at_call 72; refine hR.mono ?_; rintro e w1 ⟨rfl, hb1⟩; have HB1 := hideT hb1; clear hb1)
  go_loopw [3, 4] (fun v i wr => ∃ (k : Nat) (acc : List UInt8), i = .int .i64 k ∧ k ≤ S.length ∧ acc.length ≤ 3 * k ∧ OwnsBytes wr w.heap.size v acc ∧ Hid (acc ++ Tk.norm (S.drop k) = Tk.norm S) ∧ Below w.heap.size w wr) (fun _ i _ => S.length - (intOf i).toNat)
  case atStart => exact ⟨0, [], rfl, Nat.zero_le _, Nat.zero_le _, OwnsBytes.nil _ _, rfl, HB1.out⟩
  case round =>
    obtain ⟨k, acc, rfl, hk, hal, hown, HE, hB⟩ := hrel
    have HB := hideT hB
    have hbs := hB.size
    clear hB hR
    by_cases hlt : k < S.length
    · obtain ⟨c, hc⟩ : ∃ c, S[k] = c := ⟨_, rfl⟩
      have hat := byte_at S k hlt c hc
      have HN := hideT (norm_at S k hlt)
      rw [hc] at HN
      clear hc
      by_cases h13 : c = 13
      · have q13 : ((c.toNat : Int) == 13) = true := by rw [h13]; rfl
        rw [if_pos h13] at HN
        clear h13
        by_cases hk1 : k + 1 < S.length
        · have hk1I : (k : Int) + 1 < (S.length : Int) := by omega
          obtain ⟨d, hd⟩ : ∃ d, S[k + 1] = d := ⟨_, rfl⟩
          have hat2 := byte_at S (k + 1) hk1 d hd
          have hhd : (S.drop (k + 1)).head? = some d := by rw [List.drop_eq_getElem_cons hk1, hd]; rfl
          rw [hhd] at HN
          clear hd hhd
          by_cases h10 : d = 10
          · have q10 : ((d.toNat : Int) == 10) = true := by rw [h10]; rfl
            have HX : Hid (acc ++ Tk.norm (S.drop (k + 1)) = Tk.norm S) := by
              show _ = _
              rw [← HE.out, HN.out, if_pos (by rw [h10]), List.nil_append]
            clear h10 HN HE
            go_wp2
            go_roundw
            case rel => exact ⟨k + 1, acc, by go_num, by omega, by omega, hown, HX.out, HB.out⟩
            case measure => simp [intOf]; omega
          · have q10 : ((d.toNat : Int) == 10) = false := q_no d 10 (by omega) h10
            have HX : Hid ((acc ++ [10]) ++ Tk.norm (S.drop (k + 1)) = Tk.norm S) := by
              show _ = _
              rw [← HE.out, HN.out, if_neg (by simpa using h10), List.append_assoc]
            clear h10 HN HE
            go_wp2_with (at_builtin; refine wpList_append_own _ rfl _ _ 78 rfl w.heap.size 5 i0 (.int .u8 0) 1 1 Tryz.underlying78 hi hz0 hz1 hz2 rfl (by decide) _ _ _ rfl (World.ownsRow.alloc hown _) ⟨wr.heap.size, 0, none⟩ 1 1 [.int .u8 10] rfl rfl (cell_one_new _ _ _) (fun x hx => by simp at hx; subst hx; rfl) (by unfold maxLen; omega) (by omega) (by simp; omega) ?_; intro v' w3 hown' hgrow3 hnil3)
            go_roundw
            case rel => exact ⟨k + 1, acc ++ [10], by go_num, by omega, by rw [List.length_append, List.length_singleton]; omega, OwnsBytes.of (c := 10) rfl rfl hown', HX.out, (HB.out.alloc hbs _).grown hgrow3 (by simp; omega) (fun q hq => (World.ownsRow.lt hown q hq).1)⟩
            case measure => simp [intOf]; omega
        · have hk1I : ¬ (k : Int) + 1 < (S.length : Int) := by omega
          have HX : Hid ((acc ++ [10]) ++ Tk.norm (S.drop (k + 1)) = Tk.norm S) := by
            show _ = _
            rw [← HE.out, HN.out, List.drop_eq_nil_of_le (by omega), if_neg (by simp), List.append_assoc]
          clear HN HE
          go_wp2_with (at_builtin; refine wpList_append_own _ rfl _ _ 78 rfl w.heap.size 5 i0 (.int .u8 0) 1 1 Tryz.underlying78 hi hz0 hz1 hz2 rfl (by decide) _ _ _ rfl (World.ownsRow.alloc hown _) ⟨wr.heap.size, 0, none⟩ 1 1 [.int .u8 10] rfl rfl (cell_one_new _ _ _) (fun x hx => by simp at hx; subst hx; rfl) (by unfold maxLen; omega) (by omega) (by simp; omega) ?_; intro v' w3 hown' hgrow3 hnil3)
          go_roundw
          case rel => exact ⟨k + 1, acc ++ [10], by go_num, by omega, by rw [List.length_append, List.length_singleton]; omega, OwnsBytes.of (c := 10) rfl rfl hown', HX.out, (HB.out.alloc hbs _).grown hgrow3 (by simp; omega) (fun q hq => (World.ownsRow.lt hown q hq).1)⟩
          case measure => simp [intOf]; omega
      have q13 : ((c.toNat : Int) == 13) = false := q_no c 13 (by omega) h13
      rw [if_neg h13] at HN
      clear h13
      by_cases h0 : c = 0
      · have q0 : ((c.toNat : Int) == 0) = true := by rw [h0]; rfl
        have HX : Hid ((acc ++ [239, 191, 189]) ++ Tk.norm (S.drop (k + 1)) = Tk.norm S) := by
          show _ = _
          rw [← HE.out, HN.out, if_pos h0, List.append_assoc]
        clear h0 HN HE
        go_wp2_with (at_builtin; refine wpList_append_own _ rfl _ _ 78 rfl w.heap.size 5 i0 (.int .u8 0) 1 1 Tryz.underlying78 hi hz0 hz1 hz2 rfl (by decide) _ _ _ rfl (World.ownsRow.alloc hown _) ⟨wr.heap.size, 0, none⟩ 3 3 [.int .u8 239, .int .u8 191, .int .u8 189] rfl rfl (cell_three_new _ _ _ _ _) (fun x hx => by simp at hx; rcases hx with rfl | rfl | rfl <;> rfl) (by unfold maxLen; omega) (by omega) (by simp; omega) ?_; intro v' w3 hown' hgrow3 hnil3)
        go_roundw
        case rel => exact ⟨k + 1, acc ++ [239, 191, 189], by go_num, by omega, by simp only [List.length_append, List.length_cons, List.length_nil]; omega, OwnsBytes.of3 hown', HX.out, (HB.out.alloc hbs _).grown hgrow3 (by simp; omega) (fun q hq => (World.ownsRow.lt hown q hq).1)⟩
        case measure => simp [intOf]; omega
      · have q0 : ((c.toNat : Int) == 0) = false := q_no c 0 (by omega) h0
        have HX : Hid ((acc ++ [c]) ++ Tk.norm (S.drop (k + 1)) = Tk.norm S) := by
          show _ = _
          rw [← HE.out, HN.out, if_neg h0, List.append_assoc]
        clear h0 HN HE
        go_wp2_with (at_builtin; refine wpList_append_own _ rfl _ _ 78 rfl w.heap.size 5 i0 (.int .u8 0) 1 1 Tryz.underlying78 hi hz0 hz1 hz2 rfl (by decide) _ _ _ rfl (World.ownsRow.alloc hown _) ⟨wr.heap.size, 0, none⟩ 1 1 [.int .u8 c.toNat] rfl rfl (cell_one_new _ _ _) (fun x hx => by simp at hx; subst hx; rfl) (by unfold maxLen; omega) (by omega) (by simp; omega) ?_; intro v' w3 hown' hgrow3 hnil3)
        go_roundw
        case rel => exact ⟨k + 1, acc ++ [c], by go_num, by omega, by rw [List.length_append, List.length_singleton]; omega, OwnsBytes.of (c := c) rfl rfl hown', HX.out, (HB.out.alloc hbs _).grown hgrow3 (by simp; omega) (fun q hq => (World.ownsRow.lt hown q hq).1)⟩
        case measure => simp [intOf]; omega
    · have hcv := conv_owned hown
      have HX : Hid (acc = Tk.clean l) := by
        show acc = _
        rw [HC.out, ← HE.out, List.drop_eq_nil_of_le (by omega)]
        exact (List.append_nil acc).symm
      clear hown HE
      go_wp2
      go_ret
      exact ⟨by rw [← HX.out]; rfl, HB.out⟩
end Go.Proofs.YtiodaahncadodaaGreatDoor
