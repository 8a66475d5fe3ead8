/- Texts laid as one. -/
import Derived.Test.YtiodaahncadodaaGreatDoorKTkCM
import Derived.Test.YtiodaahncadodaaGreatDoorKTkN
import Derived.Test.YtiodaahncadodaaGreatDoorKRfRt
import Derived.Test.YtiodaahncadodaaGreatDoorKAscii
import Derived.Test.YtiodaahncadodaaGreatDoorKTkSV
import Derived.Test.YtiodaahncadodaaGreatDoorKTkIJ
/- The contracts of the reference's small functions of layer 12: isTag, blanks, find, begins, has. -/
set_option linter.unusedVariables false
set_option linter.unusedSimpArgs false
namespace Go.Proofs.YtiodaahncadodaaGreatDoor
open Go.RowKit
theorem RIsBlank_c (c : UInt8) (w : World) :
    Calls Tryz.prog 78 #[.int .u8 c.toNat] w fun e w' => e = .returned (.bool (Asc.isBlank c)) ∧ w' = w := by
  have h := RIsBlank_n c.toNat w
  rw [blankN_byte] at h
  exact h
set_option maxHeartbeats 400000 in
theorem RisTag_any (l : List UInt8) (w : World) :
    Calls Tryz.prog 73 #[.string (str l)] w fun e w' => e = .returned (.bool (Tk.isTag l)) ∧ w' = w := by
  rcases l with _ | ⟨c, _ | ⟨d, t⟩⟩
  · have hsz : (str []).size = 0 := str_size []
    go_enter Tryz.func73, Tryz.ntmps73
    go_wp2
    go_ret
    exact ⟨rfl, rfl⟩
  · have hsz : (str [c]).size = 1 := str_size [c]
    have HX : Hid (Tk.isTag [c] = false) := by show _ = _; simp [Tk.isTag]
    go_enter Tryz.func73, Tryz.ntmps73
    go_wp2
    go_ret
    exact ⟨ret_bool HX.out.symm, rfl⟩
  · have hsz : (str (c :: d :: t)).size = t.length + 2 := str_size _
    have h0 : ∀ h, (str (c :: d :: t))[0]'h = c := fun _ => rfl
    have h1 : ∀ h, (str (c :: d :: t))[1]'h = d := fun _ => rfl
    by_cases hc : c = 60
    · subst hc
      have HX : Hid (Tk.isTag (60 :: d :: t) = (Tk.letB d || d == 47 || d == 33 || d == 63)) := rfl
      have hL : ∀ w, Calls Tryz.prog 74 #[.int .u8 d.toNat] w fun e w' => e = .returned (.bool (Tk.letB d)) ∧ w' = w := RIsLetter_z d
      have q60 : (((60 : UInt8).toNat : Int) == 60) = true := rfl
      cases hl : Tk.letB d
      · rw [hl] at hL HX
        by_cases h47 : d = 47
        · have q47 : ((d.toNat : Int) == 47) = true := by rw [h47]; rfl
          have HY : Hid (Tk.isTag (60 :: d :: t) = true) := by show _ = _; rw [HX.out, h47]; rfl
          clear HX h47 hl
          go_enter Tryz.func73, Tryz.ntmps73
          go_wp2_with (go_at_call 74; refine (hL _).mono ?_; rintro e w1 ⟨rfl, hw⟩; rw [hw]; clear hw)
          go_ret
          exact ⟨ret_bool HY.out.symm, rfl⟩
        · have q47 : ((d.toNat : Int) == 47) = false := (beq_byte d 47 (by omega)).trans (beq_eq_false_iff_ne.2 h47)
          by_cases h33 : d = 33
          · have q33 : ((d.toNat : Int) == 33) = true := by rw [h33]; rfl
            have HY : Hid (Tk.isTag (60 :: d :: t) = true) := by show _ = _; rw [HX.out, h33]; rfl
            clear HX h47 h33 hl
            go_enter Tryz.func73, Tryz.ntmps73
            go_wp2_with (go_at_call 74; refine (hL _).mono ?_; rintro e w1 ⟨rfl, hw⟩; rw [hw]; clear hw)
            go_ret
            exact ⟨ret_bool HY.out.symm, rfl⟩
          · have q33 : ((d.toNat : Int) == 33) = false := (beq_byte d 33 (by omega)).trans (beq_eq_false_iff_ne.2 h33)
            have HY : Hid (Tk.isTag (60 :: d :: t) = ((d.toNat : Int) == 63)) := by
              show _ = _
              refine Eq.trans ?_ (beq_byte d 63 (by omega)).symm
              rw [HX.out, beq_eq_false_iff_ne.2 h47, beq_eq_false_iff_ne.2 h33]
              rfl
            clear HX h47 h33 hl
            go_enter Tryz.func73, Tryz.ntmps73
            go_wp2_with (go_at_call 74; refine (hL _).mono ?_; rintro e w1 ⟨rfl, hw⟩; rw [hw]; clear hw)
            go_ret
            exact ⟨ret_bool HY.out.symm, rfl⟩
      · rw [hl] at hL HX
        have HY : Hid (Tk.isTag (60 :: d :: t) = true) := HX.out
        clear HX hl
        go_enter Tryz.func73, Tryz.ntmps73
        go_wp2_with (go_at_call 74; refine (hL _).mono ?_; rintro e w1 ⟨rfl, hw⟩; rw [hw]; clear hw)
        go_ret
        exact ⟨ret_bool HY.out.symm, rfl⟩
    · have q60 : ((c.toNat : Int) == 60) = false := (beq_byte c 60 (by omega)).trans (beq_eq_false_iff_ne.2 hc)
      have n60 : ((c.toNat : Int) != 60) = true := by unfold bne; rw [q60]; rfl
      have HX : Hid (Tk.isTag (c :: d :: t) = false) := by
        show _ = _
        unfold Tk.isTag
        split
        · rename_i e; cases e; exact absurd rfl hc
        · rfl
      clear hc
      go_enter Tryz.func73, Tryz.ntmps73
      go_wp2
      go_ret
      exact ⟨ret_bool HX.out.symm, rfl⟩
theorem tw_next (p : UInt8 → Bool) (l : List UInt8) (k : Nat) (h : k < l.length) (hb : p l[k] = true) : ((l.drop k).takeWhile p).length = 1 + ((l.drop (k + 1)).takeWhile p).length := by
  rw [List.drop_eq_getElem_cons h, List.takeWhile_cons, hb, if_pos rfl, List.length_cons, Nat.add_comm]
theorem tw_here (p : UInt8 → Bool) (l : List UInt8) (k : Nat) (h : k < l.length) (hb : p l[k] = false) : ((l.drop k).takeWhile p).length = 0 := by
  rw [List.drop_eq_getElem_cons h, List.takeWhile_cons, hb]
  rfl
set_option maxHeartbeats 400000 in
theorem Rblanks_any (l : List UInt8) (w : World) (hz : l.length ≤ 1000000000) :
    Calls Tryz.prog 137 #[.string (str l)] w fun e w' => e = .returned (.int .i64 (l.takeWhile Asc.isBlank).length) ∧ w' = w := by
  have hsz := str_size l
  go_enter Tryz.func137, Tryz.ntmps137
  go_wp2
  go_loopw [3] (fun i wr => ∃ k : Nat, k ≤ l.length ∧ i = .int .i64 k ∧ Hid ((l.takeWhile Asc.isBlank).length = k + ((l.drop k).takeWhile Asc.isBlank).length) ∧ wr = w) (fun i _ => l.length - (intOf i).toNat)
  case atStart => exact ⟨0, Nat.zero_le _, rfl, (by show _ = _; rw [List.drop_zero, Nat.zero_add]), rfl⟩
  case round =>
    obtain ⟨k, hk, rfl, HA, rfl⟩ := hrel
    by_cases hlt : k < l.length
    · have hat : ∀ h : k < (str l).size, (str l)[k]'h = l[k] := fun _ => rfl
      have hI := RIsBlank_c l[k]
      cases hb : Asc.isBlank l[k]
      · have HN : Hid ((l.takeWhile Asc.isBlank).length = k) := by
          show _ = _
          rw [HA.out, tw_here _ l k hlt hb]
          rfl
        rw [hb] at hI
        clear hb HA
        go_wp2_with (go_at_call 78; refine (hI _).mono ?_; rintro e w1 ⟨rfl, hw⟩; rw [hw]; clear hw)
        go_ret
        exact ⟨by rw [HN.out]; rfl, rfl⟩
      · have HN : Hid ((l.takeWhile Asc.isBlank).length = k + 1 + ((l.drop (k + 1)).takeWhile Asc.isBlank).length) := by
          show _ = _
          rw [HA.out, tw_next _ l k hlt hb]
          omega
        rw [hb] at hI
        clear hb HA
        go_wp2_with (go_at_call 78; refine (hI _).mono ?_; rintro e w1 ⟨rfl, hw⟩; rw [hw]; clear hw)
        go_roundw
        case rel => exact ⟨k + 1, by omega, by go_num, HN, by trivial⟩
        case measure => simp [intOf]; omega
    · have HN : Hid ((l.takeWhile Asc.isBlank).length = k) := by
        show _ = _
        rw [HA.out, List.drop_eq_nil_of_le (by omega)]
        rfl
      clear HA
      go_wp2
      go_ret
      exact ⟨by rw [HN.out]; rfl, rfl⟩
theorem fd_next (m l : List UInt8) (k : Nat) (h : k < l.length) (hb : m.isPrefixOf (l.drop k) = false) : Tk.fd m (l.drop k) = 1 + Tk.fd m (l.drop (k + 1)) := by
  rw [List.drop_eq_getElem_cons h] at hb ⊢
  rw [Tk.fd, hb]
  simp [Nat.add_comm]
theorem fd_here (m l : List UInt8) (k : Nat) (h : k < l.length) (hb : m.isPrefixOf (l.drop k) = true) : Tk.fd m (l.drop k) = 0 := by
  rw [List.drop_eq_getElem_cons h] at hb ⊢
  rw [Tk.fd, hb]
  rfl
theorem fd_short (m : List UInt8) : ∀ l : List UInt8, l.length < m.length → Tk.fd m l = l.length
  | [], _ => rfl
  | c :: t, h => by
    have hp : m.isPrefixOf (c :: t) = false := by
      rw [Bool.eq_false_iff]
      intro e
      have := (List.isPrefixOf_iff_prefix.1 e).length_le
      omega
    rw [Tk.fd, hp, fd_short m t (by rw [List.length_cons] at h; omega)]
    rfl
theorem pre_take (m l : List UInt8) (k : Nat) : (((l.take (k + m.length)).drop k) = m) ↔ m.isPrefixOf (l.drop k) = true := by
  have e : (l.take (k + m.length)).drop k = (l.drop k).take m.length := by
    rw [List.drop_take, Nat.add_sub_cancel_left]
  rw [e, List.isPrefixOf_iff_prefix]
  constructor
  · intro h
    rw [← h]
    exact List.take_prefix _ _
  · rintro ⟨r, hr⟩
    rw [← hr, List.take_left]
theorem str_midR (l : List UInt8) (f k : Nat) : (str l).extract f k = str ((l.take k).drop f) := by
  apply str_eq
  rw [data_cut, str_data]
set_option maxHeartbeats 800000 in
theorem Rfind_any (l m : List UInt8) (w : World) (hz : l.length ≤ 1000000000) (hm1 : 1 ≤ m.length) (hm2 : m.length ≤ 1000) :
    Calls Tryz.prog 77 #[.string (str l), .string (str m)] w fun e w' => e = .returned (.int .i64 (Tk.fd m l)) ∧ w' = w := by
  have hsz := str_size l
  have hsm := str_size m
  go_enter Tryz.func77, Tryz.ntmps77
  go_wp2
  go_loopw [5] (fun i wr => ∃ k : Nat, k ≤ l.length ∧ i = .int .i64 k ∧ Hid (Tk.fd m l = k + Tk.fd m (l.drop k)) ∧ wr = w) (fun i _ => l.length - (intOf i).toNat)
  case atStart => exact ⟨0, Nat.zero_le _, rfl, (by show _ = _; rw [List.drop_zero, Nat.zero_add]), rfl⟩
  case round =>
    obtain ⟨k, hk, rfl, HA, rfl⟩ := hrel
    by_cases hlt : k + m.length ≤ l.length
    · have hle : (k : Int) ≤ (l.length : Int) - (m.length : Int) := by omega
      have hcut := str_midR l k (k + m.length)
      have hkl : k < l.length := by omega
      by_cases hp : m.isPrefixOf (l.drop k) = true
      · have q := str_beq_yes ((pre_take m l k).2 hp)
        have HN : Hid (Tk.fd m l = k) := by
          show _ = _
          rw [HA.out, fd_here m l k hkl hp]
          rfl
        clear HA hp
        generalize (l.take (k + m.length)).drop k = u at *
        go_wp2
        go_ret
        exact ⟨by rw [HN.out]; rfl, rfl⟩
      · have q := str_beq_no (fun e => hp ((pre_take m l k).1 e))
        have HN : Hid (Tk.fd m l = k + 1 + Tk.fd m (l.drop (k + 1))) := by
          show _ = _
          rw [HA.out, fd_next m l k hkl (eq_false_of_ne_true hp)]
          omega
        clear HA hp
        generalize (l.take (k + m.length)).drop k = u at *
        go_wp2
        go_roundw
        case rel => exact ⟨k + 1, by omega, by go_num, HN, by trivial⟩
        case measure => simp [intOf]; omega
    · have hle : ¬ (k : Int) ≤ (l.length : Int) - (m.length : Int) := by omega
      have HN : Hid (Tk.fd m l = l.length) := by
        show _ = _
        rw [HA.out, fd_short m _ (by rw [List.length_drop]; omega), List.length_drop]
        omega
      clear HA
      go_wp2
      go_ret
      exact ⟨by rw [HN.out]; rfl, rfl⟩
set_option maxHeartbeats 400000 in
theorem Rbegins_any (l m : List UInt8) (w : World) (hz : l.length ≤ 1000000000) (hm : m.length ≤ 1000000000) :
    Calls Tryz.prog 76 #[.string (str l), .string (str m)] w fun e w' => e = .returned (.bool (Tk.begins m l)) ∧ Below w.heap.size w w' := by
  have hsz := str_size l
  have hsm := str_size m
  have HV : Hid (Tk.begins m l = (decide (m.length ≤ l.length) && Asc.lower (l.take m.length) == m)) := rfl
  by_cases h : m.length ≤ l.length
  · have hI : (m.length : Int) ≤ (l.length : Int) := by omega
    have he : (str l).extract 0 m.length = str (l.take m.length) := str_to l _
    have hL := RLower_any (str (l.take m.length)) w (by rw [str_size, List.length_take]; omega)
    rw [str_data] at hL
    by_cases hq : Asc.lower (l.take m.length) = m
    · have q := str_beq_yes hq
      have HX : Hid (Tk.begins m l = true) := by show _ = _; rw [HV.out, decide_eq_true h, hq]; simp
      clear HV hq
      generalize Asc.lower (l.take m.length) = x at *
      go_enter Tryz.func76, Tryz.ntmps76
      go_wp2_with (go_at_call 107; (try rw [he]); refine hL.mono ?_; rintro e w1 ⟨rfl, hw⟩)
      go_ret
      exact ⟨ret_bool HX.out.symm, hw⟩
    · have q := str_beq_no hq
      have HX : Hid (Tk.begins m l = false) := by show _ = _; rw [HV.out, decide_eq_true h, beq_eq_false_iff_ne.2 hq]; rfl
      clear HV hq
      generalize Asc.lower (l.take m.length) = x at *
      go_enter Tryz.func76, Tryz.ntmps76
      go_wp2_with (go_at_call 107; (try rw [he]); refine hL.mono ?_; rintro e w1 ⟨rfl, hw⟩)
      go_ret
      exact ⟨ret_bool HX.out.symm, hw⟩
  · have hI : ¬ (m.length : Int) ≤ (l.length : Int) := by omega
    have HX : Hid (Tk.begins m l = false) := by show _ = _; rw [HV.out, decide_eq_false h]; rfl
    clear HV
    go_enter Tryz.func76, Tryz.ntmps76
    go_wp2
    go_ret
    exact ⟨ret_bool HX.out.symm, Below.refl _ _⟩
set_option maxHeartbeats 400000 in
theorem Rhas_any (ats : List Pr) (v : Value) (q : List UInt8) (w : World) (hv : ReadsPairs w v ats) (hl : ats.length ≤ 1000000) :
    Calls Tryz.prog 109 #[v, .string (str q)] w fun e w' => e = .returned (.bool (Tk.has ats q)) ∧ w' = w := by
  obtain ⟨a, c, rfl⟩ := hv.form
  have HV := hideT hv
  clear hv
  go_enter Tryz.func109, Tryz.ntmps109
  go_wp2
  go_loopw [5] (fun i wr => ∃ j : Nat, i = .int .i64 j ∧ j ≤ ats.length ∧ Hid (Tk.has (ats.take j) q = false) ∧ wr = w) (fun i _ => ats.length - (intOf i).toNat)
  case atStart => exact ⟨0, rfl, Nat.zero_le _, rfl, rfl⟩
  case round =>
    obtain ⟨j, rfl, hj, HE, rfl⟩ := hrel
    by_cases hjl : j < ats.length
    · have hat : ats[j]? = some ats[j] := List.getElem?_eq_getElem hjl
      obtain ⟨b, o, rfl, hc, hbl, h1, h2⟩ := HV.out.at hat
      cases hq : (ats[j].1 == q)
      · have HN : Hid (Tk.has (ats.take (j + 1)) q = false) := by
          show _ = _
          rw [has_take ats q j hjl, HE.out, hq]
          rfl
        have qq := str_beq_no (beq_eq_false_iff_ne.1 hq)
        clear hat hq HE
        generalize ats[j] = p at *
        go_wp2
        go_roundw
        case rel => exact ⟨j + 1, by go_num, by omega, HN, by trivial⟩
        case measure => simp [intOf]; omega
      · have HN : Hid (Tk.has ats q = true) := has_here ats q j hjl hq
        have qq := str_beq_yes (beq_iff_eq.1 hq)
        clear hat hq HE
        generalize ats[j] = p at *
        go_wp2
        go_ret
        exact ⟨ret_bool HN.out.symm, rfl⟩
    · have HN : Hid (Tk.has ats q = false) := by
        have h := HE.out
        rwa [List.take_of_length_le (by omega)] at h
      go_wp2
      go_ret
      exact ⟨ret_bool HN.out.symm, rfl⟩
end Go.Proofs.YtiodaahncadodaaGreatDoor
/- The contracts of the reference's Same, and of the law's ours and theirs. -/
namespace Go.Proofs.YtiodaahncadodaaGreatDoor
open Go.RowKit
theorem alloc_size12 (w : World) (o : Obj) : (w.alloc o).heap.size = w.heap.size + 1 := by simp
/-- The reference's token at a block. -/
def RAt12 (w : World) (b : Nat) (cs : Array Value) : Prop := w.heap[b]? = some (.cells cs 48 (0, 0))
theorem sizeR12 : (Tryz.prog.info? 48).map (·.size) = some 5 := by kernel_rfl
theorem zeroT12 : (Tryz.prog.info? 48).map (fun i => (i.zero, i.size)) = some (some (.agg kCells0), 5) := by kernel_rfl
theorem RAt12.lt {w : World} {b : Nat} {cs : Array Value} (h : RAt12 w b cs) : b < w.heap.size := (Array.getElem?_eq_some_iff.1 h).1
theorem RAt12.step {w w' : World} {b : Nat} {cs : Array Value} (h : RAt12 w b cs) (hb : Below w.heap.size w w') : RAt12 w' b cs := (hb.block _ h.lt).trans h
theorem RAt12.kept {w w' : World} {b c : Nat} {cs : Array Value} (h : RAt12 w b cs) (hk : Kept c w w') (hb : b ≠ c) : RAt12 w' b cs := hk.heap h hb
theorem RAt12.belowB {w w' : World} {b B : Nat} {cs : Array Value} (h : RAt12 w b cs) (hb : Below B w w') (hB : b < B) : RAt12 w' b cs := (hb.block _ hB).trans h
theorem load_R {w : World} {b : Nat} {x0 x1 x2 x3 x4 : Value} (h : RAt12 w b #[x0, x1, x2, x3, x4]) : (loadVar 48 ⟨b, 0, none⟩).run Tryz.prog w = .ok (.agg #[x0, x1, x2, x3, x4]) w :=
  run_loadVar_row _ _ _ _ _ _ _ h Tryz.underlying48 rfl sizeR12
theorem loadAt_R {w : World} {b : Nat} {x0 x1 x2 x3 x4 : Value} (h : RAt12 w b #[x0, x1, x2, x3, x4]) : (Instr.loadAt 48 (.pointer (some ⟨b, 0, none⟩))).run Tryz.prog w = .ok (.agg #[x0, x1, x2, x3, x4]) w := by
  simp only [Instr.loadAt, Instr.sureAddr, Sem.run_bind, Sem.run_pure, Result.andThen]
  exact load_R h
theorem ret_R2 {fn : Func} {p q : Tmp} {Q : Ending → World → Prop} {a : Act} {w : World} {b : Nat} {x0 x1 x2 x3 x4 x : Value} (hr : fn.results = #[.cell p 48, .tmp q]) (hd : a.defers = []) (hp : a.tmps.getD p undef = .pointer (some ⟨b, 0, none⟩)) (hx : a.tmps.getD q undef = x) (h : RAt12 w b #[x0, x1, x2, x3, x4]) (hQ : Q (.returned (.tuple #[.agg #[x0, x1, x2, x3, x4], x])) w) :
    bodyPost Tryz.prog fn Q .ret a w := by
  refine bodyPost_ret (v := .tuple #[.agg #[x0, x1, x2, x3, x4], x]) ?_ hd hQ
  rw [results_two hr _ _ _ _ _ hp (load_R h), hx]
theorem storeAt_R {w : World} {b : Nat} {cs : Array Value} (hc : cs.size = 5) {k : Int} {n x : ByteArray} {s : Bool} {ad : Option Addr} {ln cp : Nat} (h : RAt12 w b cs) : (Instr.storeAt 48 (.pointer (some ⟨b, 0, none⟩)) (.agg #[.int .i64 k, .string n, .slice ad ln cp, .bool s, .string x])).run Tryz.prog w = .ok () (w.setRow b #[.int .i64 k, .string n, .slice ad ln cp, .bool s, .string x]) := by
  simp only [Instr.storeAt, Instr.sureAddr, Sem.run_bind, Sem.run_pure, Result.andThen]
  exact run_storeVar_row _ _ _ _ _ _ h sizeR12 (by first | exact hc | simp [hc]) (by simp [Value.oneCell'])
theorem wpList_store_R {ops : Array Oper} {rest : List Oper} {o : Oper} {a : Act} {w : World} {Q : Exit → Act → World → Prop} (p q : Operand) (ho : o.op = .store 48 p q) (hg : o.guard = none) (b : Nat) (cs : Array Value) (hc : cs.size = 5) (k : Int) (n x : ByteArray) (s : Bool) (ad : Option Addr) (ln cp : Nat) (hx : a.eval p = .pointer (some ⟨b, 0, none⟩)) (hy : a.eval q = .agg #[.int .i64 k, .string n, .slice ad ln cp, .bool s, .string x]) (h : RAt12 w b cs)
    (hn : wpList Tryz.prog ops Q rest (a.put o.dst undef) (w.setRow b #[.int .i64 k, .string n, .slice ad ln cp, .bool s, .string x])) : wpList Tryz.prog ops Q (o :: rest) a w := by
  refine wpList_plain hg fun K hK => ?_
  unfold Oper.wp
  have e : (execOp a.eval o).run Tryz.prog w = .ok .skip (w.setRow b #[.int .i64 k, .string n, .slice ad ln cp, .bool s, .string x]) := by
    unfold execOp
    rw [ho]
    simp only [hx, hy, Sem.run_bind, storeAt_R hc h, Result.andThen, Sem.run_pure]
  rw [e, Oper.upon_skip]
  exact hK _ _ hn
theorem wpList_load_R {ops : Array Oper} {rest : List Oper} {o : Oper} {a : Act} {w : World} {Q : Exit → Act → World → Prop} (p : Operand) (ho : o.op = .load 48 p) (hg : o.guard = none) (b : Nat) (x0 x1 x2 x3 x4 : Value) (hx : a.eval p = .pointer (some ⟨b, 0, none⟩)) (h : RAt12 w b #[x0, x1, x2, x3, x4])
    (hn : wpList Tryz.prog ops Q rest (a.put o.dst (.agg #[x0, x1, x2, x3, x4])) w) : wpList Tryz.prog ops Q (o :: rest) a w := by
  refine wpList_plain hg fun K hK => ?_
  unfold Oper.wp
  have e : (execOp a.eval o).run Tryz.prog w = .ok (.value (.agg #[x0, x1, x2, x3, x4])) w := by
    unfold execOp
    rw [ho]
    simp only [hx, Sem.run_bind, loadAt_R h, Result.andThen, Sem.run_pure]
  rw [e, Oper.upon_value]
  exact hK _ _ hn
theorem setRow_R {w : World} {b : Nat} {cs ds : Array Value} (h : RAt12 w b cs) : RAt12 (w.setRow b ds) b ds := by
  unfold RAt12 at *
  simp [World.setRow, Array.getElem?_modify, h]
end Go.Proofs.YtiodaahncadodaaGreatDoor
