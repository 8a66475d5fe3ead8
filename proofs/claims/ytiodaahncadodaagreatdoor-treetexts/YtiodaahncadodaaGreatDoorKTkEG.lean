/- Texts laid as one. -/
import Derived.Test.YtiodaahncadodaaGreatDoorKTkCM
/- A token in memory; the contract of a reader's tag. -/
set_option linter.unusedVariables false
set_option linter.unusedSimpArgs false
namespace Go.Proofs.YtiodaahncadodaaGreatDoor
open Go.RowKit
abbrev kCells (k : Int) (n : List UInt8) (v : Value) (s : Bool) (x : List UInt8) : Array Value := #[.int .i64 k, .string (str n), v, .bool s, .string (str x)]
abbrev kCells0 : Array Value := #[.int .i64 0, .string ByteArray.empty, .slice none 0 0, .bool false, .string ByteArray.empty]
def KAt (w : World) (b : Nat) (cs : Array Value) : Prop := w.heap[b]? = some (.cells cs 56 (0, 0))
theorem sizeK : (Tryz.prog.info? 56).map (·.size) = some 5 := by kernel_rfl
theorem zeroK : (Tryz.prog.info? 56).map (fun i => (i.zero, i.size)) = some (some (.agg kCells0), 5) := by kernel_rfl
theorem KAt.lt {w : World} {b : Nat} {cs : Array Value} (h : KAt w b cs) : b < w.heap.size := (Array.getElem?_eq_some_iff.1 h).1
theorem load_K {w : World} {b : Nat} {x0 x1 x2 x3 x4 : Value} (h : KAt w b #[x0, x1, x2, x3, x4]) : (loadVar 56 ⟨b, 0, none⟩).run Tryz.prog w = .ok (.agg #[x0, x1, x2, x3, x4]) w :=
  run_loadVar_row _ _ _ _ _ _ _ h Tryz.underlying56 rfl sizeK
theorem loadAt_K {w : World} {b : Nat} {x0 x1 x2 x3 x4 : Value} (h : KAt w b #[x0, x1, x2, x3, x4]) : (Instr.loadAt 56 (.pointer (some ⟨b, 0, none⟩))).run Tryz.prog w = .ok (.agg #[x0, x1, x2, x3, x4]) w := by
  simp only [Instr.loadAt, Instr.sureAddr, Sem.run_bind, Sem.run_pure, Result.andThen]
  exact load_K h
theorem ret_K {fn : Func} {p : Tmp} {Q : Ending → World → Prop} {a : Act} {w : World} {b : Nat} {x0 x1 x2 x3 x4 : Value} (hr : fn.results = #[.cell p 56]) (hd : a.defers = []) (hp : a.tmps.getD p undef = .pointer (some ⟨b, 0, none⟩)) (h : KAt w b #[x0, x1, x2, x3, x4]) (hQ : Q (.returned (.agg #[x0, x1, x2, x3, x4])) w) :
    bodyPost Tryz.prog fn Q .ret a w := by
  refine bodyPost_ret (v := .agg #[x0, x1, x2, x3, x4]) ?_ hd hQ
  rw [results_cell hr, hp]
  simp [asAddr, Result.andThen, load_K h]
theorem storeAt_K {w : World} {b : Nat} {cs : Array Value} (hc : cs.size = 5) {k : Int} {n x : ByteArray} {s : Bool} {ad : Option Addr} {ln cp : Nat} (h : KAt w b cs) : (Instr.storeAt 56 (.pointer (some ⟨b, 0, none⟩)) (.agg #[.int .i64 k, .string n, .slice ad ln cp, .bool s, .string x])).run Tryz.prog w = .ok () (w.setRow b #[.int .i64 k, .string n, .slice ad ln cp, .bool s, .string x]) := by
  simp only [Instr.storeAt, Instr.sureAddr, Sem.run_bind, Sem.run_pure, Result.andThen]
  exact run_storeVar_row _ _ _ _ _ _ h sizeK (by first | exact hc | simp [hc]) (by simp [Value.oneCell'])
theorem wpList_store_K {ops : Array Oper} {rest : List Oper} {o : Oper} {a : Act} {w : World} {Q : Exit → Act → World → Prop} (p q : Operand) (ho : o.op = .store 56 p q) (hg : o.guard = none) (b : Nat) (cs : Array Value) (hc : cs.size = 5) (k : Int) (n x : ByteArray) (s : Bool) (ad : Option Addr) (ln cp : Nat) (hx : a.eval p = .pointer (some ⟨b, 0, none⟩)) (hy : a.eval q = .agg #[.int .i64 k, .string n, .slice ad ln cp, .bool s, .string x]) (h : KAt w b cs)
    (hn : wpList Tryz.prog ops Q rest (a.put o.dst undef) (w.setRow b #[.int .i64 k, .string n, .slice ad ln cp, .bool s, .string x])) : wpList Tryz.prog ops Q (o :: rest) a w := by
  refine wpList_plain hg fun K hK => ?_
  unfold Oper.wp
  have e : (execOp a.eval o).run Tryz.prog w = .ok .skip (w.setRow b #[.int .i64 k, .string n, .slice ad ln cp, .bool s, .string x]) := by
    unfold execOp
    rw [ho]
    simp only [hx, hy, Sem.run_bind, storeAt_K hc h, Result.andThen, Sem.run_pure]
  rw [e, Oper.upon_skip]
  exact hK _ _ hn
theorem wpList_load_K {ops : Array Oper} {rest : List Oper} {o : Oper} {a : Act} {w : World} {Q : Exit → Act → World → Prop} (p : Operand) (ho : o.op = .load 56 p) (hg : o.guard = none) (b : Nat) (x0 x1 x2 x3 x4 : Value) (hx : a.eval p = .pointer (some ⟨b, 0, none⟩)) (h : KAt w b #[x0, x1, x2, x3, x4])
    (hn : wpList Tryz.prog ops Q rest (a.put o.dst (.agg #[x0, x1, x2, x3, x4])) w) : wpList Tryz.prog ops Q (o :: rest) a w := by
  refine wpList_plain hg fun K hK => ?_
  unfold Oper.wp
  have e : (execOp a.eval o).run Tryz.prog w = .ok (.value (.agg #[x0, x1, x2, x3, x4])) w := by
    unfold execOp
    rw [ho]
    simp only [hx, Sem.run_bind, loadAt_K h, Result.andThen, Sem.run_pure]
  rw [e, Oper.upon_value]
  exact hK _ _ hn
theorem setRow_K {w : World} {b : Nat} {cs ds : Array Value} (h : KAt w b cs) : KAt (w.setRow b ds) b ds := by
  unfold KAt at *
  simp [World.setRow, Array.getElem?_modify, h]
theorem KAt.kept {w w' : World} {b c : Nat} {cs : Array Value} (h : KAt w b cs) (hk : Kept c w w') (hb : b ≠ c) : KAt w' b cs := hk.heap h hb
theorem KAt.step {w w' : World} {b : Nat} {cs : Array Value} (h : KAt w b cs) (hb : Below w.heap.size w w') : KAt w' b cs := (hb.block _ h.lt).trans h
theorem KAt.belowB {w w' : World} {b B : Nat} {cs : Array Value} (h : KAt w b cs) (hb : Below B w w') (hB : b < B) : KAt w' b cs := (hb.block _ hB).trans h
theorem Kept.belowB {b B : Nat} {w W W' : World} (h : Kept b w W) (h2 : Below B W W') (hB : w.heap.size ≤ B) : Kept b w W' :=
  ⟨h2.os.trans h.os, h2.tape.trans h.tape, h2.output.trans h.output, Nat.le_trans h.size h2.size, fun k hk hb => (h2.block k (by omega)).trans (h.block k hk hb)⟩
theorem Tr.belowB {b B : Nat} {l a : List UInt8} {w w' : World} (h : Tr b l a w) (hb : Below B w w') (hB : b < B) : Tr b l a w' :=
  ⟨(hb.block b hB).trans h.at_, h.len, h.lo1, h.lo2, h.env.belowB hb (Nat.lt_trans h.lo1 hB) (Nat.lt_trans h.lo2 hB)⟩
/-- A token as a value. -/
abbrev tokV (k : Tk.Tok) (u : Value) : Value := .agg #[.int .i64 k.kind, .string (str k.name), u, .bool k.self, .string (str k.text)]
/-- How much a reader has left. -/
def leftT (b : Nat) (w : World) : Nat := match w.cell? ⟨b, 0, none⟩ with
  | some (.string s) => s.size
  | _ => 0
theorem Tr.left {b : Nat} {l a : List UInt8} {w : World} (h : Tr b l a w) : leftT b w = l.length := by
  unfold leftT
  rw [h.c0]
  exact str_size l
/-- What tag answers, and leaves. -/
def tagP (l : List UInt8) : Tk.Tok × List UInt8 := match Tk.tag l with
  | none => (Tk.zero, [])
  | some x => x
/-- What a reader's method that gives a token has done. -/
def TokPost (b : Nat) (a : List UInt8) (w : World) (x : Tk.Tok × List UInt8) (e : Ending) (w' : World) : Prop :=
  ∃ ad ln cp, e = .returned (tokV x.1 (.slice ad ln cp)) ∧ OwnsA w' w.heap.size (.slice ad ln cp) x.1.attrs ∧ Tr b x.2 a w' ∧ Kept b w w'
end Go.Proofs.YtiodaahncadodaaGreatDoor
/- The contract of a reader's tag. -/
namespace Go.Proofs.YtiodaahncadodaaGreatDoor
open Go.RowKit
/-- What a round of tag begins with: T the token under way, R the result. -/
structure TagAt (b : Nat) (l a n : List UInt8) (w : World) (R T : Nat) (wr : World) (r : List UInt8) (ats : List Pr) (ad : Option Addr) (ln cp : Nat) : Prop where
  tr : Tr b r a wr
  tok : KAt wr T #[.int .i64 1, .string (str n), .slice ad ln cp, .bool false, .string ByteArray.empty]
  res : KAt wr R kCells0
  own : OwnsA wr (T + 1) (.slice ad ln cp) ats
  len : ats.length ≤ 64
  kept : Kept b w wr
  same : Hid (Tk.tg (l.dropWhile Tk.tn) [] false = Tk.tg r ats false)
  lt1 : b < w.heap.size
  lt2 : w.heap.size ≤ R
  lt3 : R < T
theorem TagAt.up {b : Nat} {l a n : List UInt8} {w : World} {R T : Nat} {wr wr' : World} {r : List UInt8} {ats : List Pr} {ad : Option Addr} {ln cp : Nat} (h : TagAt b l a n w R T wr r ats ad ln cp) (hb : Below wr.heap.size wr wr') : TagAt b l a n w R T wr' r ats ad ln cp :=
  ⟨h.tr.step hb, h.tok.step hb, h.res.step hb, OwnsPairs.below h.own hb, h.len, h.kept.trans (Kept.of hb), h.same, h.lt1, h.lt2, h.lt3⟩
/-- The reader went on. -/
theorem TagAt.on {b : Nat} {l a n : List UInt8} {w : World} {R T : Nat} {wr wr' : World} {r r' : List UInt8} {ats : List Pr} {ad : Option Addr} {ln cp : Nat} (h : TagAt b l a n w R T wr r ats ad ln cp) (hk : Kept b wr wr') (ht : Tr b r' a wr') :
    KAt wr' T #[.int .i64 1, .string (str n), .slice ad ln cp, .bool false, .string ByteArray.empty] ∧ KAt wr' R kCells0 ∧ OwnsA wr' (T + 1) (.slice ad ln cp) ats ∧ Kept b w wr' := by
  have h1 := h.lt1
  have h2 := h.lt2
  have h3 := h.lt3
  exact ⟨h.tok.kept hk (by omega), h.res.kept hk (by omega), OwnsPairs.kept h.own hk (by omega), h.kept.trans hk⟩
theorem OwnsPairs.mono {t : TypeId} {w : World} {B C : Nat} {v : Value} {ps : List Pr} (h : OwnsPairs t w C v ps) (hb : B ≤ C) : OwnsPairs t w B v ps := by
  refine ⟨h.1, ?_⟩
  rcases h.2 with h0 | ⟨g, cap, cur, hv, h1, hc⟩
  · exact .inl h0
  · exact .inr ⟨g, cap, cur, hv, Nat.le_trans hb h1, hc⟩
theorem end_cases (r : List UInt8) : (∃ t, r = [62] ++ t) ∨ (r = []) ∨ ∃ c t, r = c :: t ∧ [62].isPrefixOf r = false ∧ c ≠ 62 := by
  rcases one_cases 62 r with h | h
  · exact .inl h
  · cases r with
    | nil => exact .inr (.inl rfl)
    | cons c t => exact .inr (.inr ⟨c, t, rfl, h, not_one 62 t c h⟩)
theorem drop_gp (c : UInt8) (t : List UInt8) : ∀ l : List UInt8, l.dropWhile gp = c :: t → gp c = false
  | [], h => by cases h
  | x :: l, h => by
    cases hx : gp x
    · rw [List.dropWhile_cons, hx] at h
      cases h
      exact hx
    · rw [List.dropWhile_cons, hx] at h
      exact drop_gp c t l h
set_option maxHeartbeats 2000000 in
set_option maxRecDepth 100000 in
theorem tag_any {b : Nat} {l a : List UInt8} {w : World} (h : Tr b l a w) :
    Calls Tryz.prog 124 #[.pointer (some ⟨b, 0, none⟩)] w (TokPost b a w (tagP l)) := by
  have hz := (zero_of_info zeroK).1
  have hlen := h.len
  have hbw := h.lt
  have h0 := h.step ((Below.refl _ w).alloc (Nat.le_refl _) (.cells kCells0 56))
  have hk0 : Kept b w (w.alloc (.cells kCells0 56)) := Kept.of ((Below.refl _ w).alloc (Nat.le_refl _) _)
  have ha0 : KAt (w.alloc (.cells kCells0 56)) w.heap.size kCells0 := heap_new w _
  have HLo := fun W => Lower_any (str (l.takeWhile Tk.tn)) W (by rw [str_size]; have := tkw_le Tk.tn l; omega)
  rw [str_data] at HLo
  have HP : Hid (tagP l = match Tk.tg (l.dropWhile Tk.tn) [] false with | none => (Tk.zero, []) | some (ats, sl, r) => (⟨1, Asc.lower (l.takeWhile Tk.tn), ats, sl, []⟩, r)) := by
    show _ = _
    unfold tagP Tk.tag
    cases Tk.tg (l.dropWhile Tk.tn) [] false <;> rfl
  generalize Asc.lower (l.takeWhile Tk.tn) = n at HLo HP
  replace HLo := hideT HLo
  go_enter Tryz.func124, Tryz.ntmps124
  go_wp2_with fail
  generalize w.alloc (.cells kCells0 56) = W at *
  go_at_call 155
  refine (while_tn h0).mono ?_
  rintro e w1 ⟨rfl, h1, k1⟩
  have ha1 := ha0.kept k1 (by omega)
  have hk1 := hk0.trans k1
  clear h0 hk0 ha0 k1
  go_wp2_with fail
  go_at_call 154
  refine (HLo.out _).mono ?_
  rintro e w2 ⟨rfl, hb2⟩
  have h2 := h1.step hb2
  have ha2 := ha1.step hb2
  have hk2 := hk1.trans (Kept.of hb2)
  clear h1 ha1 hk1 hb2 HLo
  have hlt2 := ha2.lt
  have hb3 : Below w2.heap.size w2 (w2.alloc (.cells #[.int .i64 1, .string (str n), .slice none 0 0, .bool false, .string ByteArray.empty] 56)) := (Below.refl _ _).alloc (Nat.le_refl _) _
  have hI : TagAt b l a n w w.heap.size w2.heap.size (w2.alloc (.cells #[.int .i64 1, .string (str n), .slice none 0 0, .bool false, .string ByteArray.empty] 56)) (l.dropWhile Tk.tn) [] none 0 0 :=
    ⟨h2.step hb3, heap_new w2 _, ha2.step hb3, OwnsPairs.nil _ _ _, by simp, hk2.trans (Kept.of hb3), rfl, hbw, Nat.le_refl _, hlt2⟩
  go_wp2_with fail
  generalize (w2.alloc (.cells #[.int .i64 1, .string (str n), .slice none 0 0, .bool false, .string ByteArray.empty] 56)) = W3 at *
  generalize hT : w2.heap.size = T at *
  have hRT := hI.lt3
  clear h2 ha2 hk2 hb3
  go_loopw [] (fun wr => ∃ r ats ad ln cp, TagAt b l a n w w.heap.size T wr r ats ad ln cp) (fun wr => leftT b wr)
  case atStart => exact ⟨_, _, _, _, _, hI⟩
  case round =>
    clear hI
    obtain ⟨r, ats, ad, ln, cp, hA⟩ := hrel
    go_wp2_with fail
    go_at_call 155
    refine (while_gap hA.tr).mono ?_
    rintro e w4 ⟨rfl, h4, k4⟩
    obtain ⟨t4, r4, o4, hk4⟩ := hA.on k4 h4
    have hlA := hA.len
    have HS : Hid (Tk.tg (l.dropWhile Tk.tn) [] false = Tk.tg (r.dropWhile gp) ats (lastS false (r.takeWhile gp))) := by
      show _ = _
      rw [hA.same.out, tg_gaps]
    have hsz : (r.takeWhile gp).length ≤ 1000000 := by have := tkw_le gp r; have := hA.tr.len; omega
    have hml := hA.tr.left
    have hdl := Tk.dropWhile_le gp r
    clear k4 hA
    go_wp2_with fail
    go_at_call 88
    rcases end_cases (r.dropWhile gp) with ⟨t, ht⟩ | hnil | ⟨c, t, ht, hp, hc⟩
    · rw [ht] at h4 HS
      have HT : Hid (tagP l = (⟨1, n, ats, lastS false (r.takeWhile gp), []⟩, t)) := by
        show _ = _
        rw [HP.out, HS.out]
        rfl
      refine (took_yes [62] t rfl h4).mono ?_
      rintro e w5 ⟨rfl, h5, k5⟩
      have t5 := t4.kept k5 (by omega)
      have r5 := r4.kept k5 (by omega)
      have o5 := OwnsPairs.kept o4 k5 (by omega)
      have hk5 := hk4.trans k5
      have hHS := HasSuffix_l (r.takeWhile gp) w5 (by omega)
      generalize lastS false (r.takeWhile gp) = sl at hHS HT
      clear h4 t4 r4 o4 hk4 k5 HS HP
      have c3 : w5.cell? ⟨T, 3, none⟩ = some (.bool false) := Lib.cell_of_heap t5 3
      have f3 : w5.frozen? ⟨T, 3, none⟩ = false := Lib.frozen_of_heap t5 3
      have k6 : Kept T w5 (w5.setCell ⟨T, 3, none⟩ (.bool sl)) := Kept.set T 3 w5 _
      have t6 : KAt (w5.setCell ⟨T, 3, none⟩ (.bool sl)) T #[.int .i64 1, .string (str n), .slice ad ln cp, .bool sl, .string ByteArray.empty] := Go.Joins.block_setCell t5 _
      have r6 := r5.kept k6 (by omega)
      have h6 := h5.other k6 (by omega) (Nat.le_of_lt t5.lt)
      have o6 : OwnsA (w5.setCell ⟨T, 3, none⟩ (.bool sl)) (T + 1) (.slice ad ln cp) ats := OwnsPairs.kept o5 k6 (by omega)
      have hk6 := hk5.more k6 (by omega)
      go_wp2_with (first
        | (go_at_call 157; refine hHS.mono ?_; rintro e w7 ⟨rfl, hw⟩; rw [hw]; clear hw)
        | (refine wpList_load_K _ rfl rfl T _ _ _ _ _ rfl t6 ?_)
        | (refine wpList_store_K _ _ rfl rfl w.heap.size _ rfl 1 (str n) ByteArray.empty sl ad ln cp rfl rfl r6 ?_))
      refine ret_K rfl rfl rfl (setRow_K r6) ?_
      unfold TokPost
      rw [HT.out]
      have k7 := kept_setRow w.heap.size (w5.setCell ⟨T, 3, none⟩ (.bool sl)) #[.int .i64 1, .string (str n), .slice ad ln cp, .bool sl, .string ByteArray.empty]
      exact ⟨ad, ln, cp, rfl, (OwnsPairs.kept o6 k7 (by omega)).mono (by omega), h6.other k7 hbw (Nat.le_of_lt r6.lt), hk6.more k7 (Nat.le_refl _)⟩
    · rw [hnil] at h4 HS
      have HT : Hid (tagP l = (Tk.zero, [])) := by
        show _ = _
        rw [HP.out, HS.out]
        rfl
      refine (took_no [62] rfl h4).mono ?_
      rintro e w5 ⟨rfl, h5, k5⟩
      have r5 := r4.kept k5 (by omega)
      have hk5 := hk4.trans k5
      have c0 := h5.c0
      have hne : ((str ([] : List UInt8)).toList.isEmpty) = true := by rw [str_list]; rfl
      clear h4 t4 r4 o4 hk4 k5 HS HP
      go_wp2_with (refine wpList_store_K _ _ rfl rfl w.heap.size _ rfl 0 ByteArray.empty ByteArray.empty false none 0 0 rfl rfl r5 ?_)
      refine ret_K rfl rfl rfl (setRow_K r5) ?_
      unfold TokPost
      rw [HT.out]
      have k7 := kept_setRow w.heap.size w5 kCells0
      exact ⟨none, 0, 0, rfl, OwnsPairs.nil _ _ _, h5.other k7 hbw (Nat.le_of_lt r5.lt), hk5.more k7 (Nat.le_refl _)⟩
    · have hgc := drop_gp c t r ht
      rw [ht] at h4 HS hp hdl
      have HT : Hid (Tk.tg (l.dropWhile Tk.tn) [] false = Tk.tg (attrP (c :: t)).2 (Tk.add ats (attrP (c :: t)).1) false) := by
        show _ = _
        rw [HS.out, tg_step c t ats _ hgc hc]
      refine (took_no [62] hp h4).mono ?_
      rintro e w5 ⟨rfl, h5, k5⟩
      have t5 := t4.kept k5 (by omega)
      have r5 := r4.kept k5 (by omega)
      have o5 := OwnsPairs.kept o4 k5 (by omega)
      have hk5 := hk4.trans k5
      have c0 := h5.c0
      have hne : ((str (c :: t)).toList.isEmpty) = false := by rw [str_list]; rfl
      clear h4 t4 r4 o4 hk4 k5 HS HP hp hgc hc
      have hal := attrP_lt c t
      have hadl := add_len ats (attrP (c :: t)).1 hlA
      have HAt := hideT (fun W (h : Tr b (c :: t) a W) => attr_any h)
      generalize attrP (c :: t) = q at *
      obtain ⟨⟨an, av⟩, rest⟩ := q
      simp only at hal hadl HAt HT
      go_wp2_with fail
      have h5' : Tr b (c :: t) a w5.drew := h5.step (Below.refl _ _).drew
      have t5' : KAt w5.drew T #[.int .i64 1, .string (str n), .slice ad ln cp, .bool false, .string ByteArray.empty] := t5
      have r5' : KAt w5.drew w.heap.size kCells0 := r5
      have o5' : OwnsA w5.drew (T + 1) (.slice ad ln cp) ats := o5
      have hk5' : Kept b w w5.drew := hk5.drew
      have c2 : w5.drew.cell? ⟨T, 2, none⟩ = some (.slice ad ln cp) := Lib.cell_of_heap t5' 2
      clear h5 t5 r5 o5 hk5
      go_region_with (first
        | (go_at_call 159; refine (HAt.out _ h5').mono ?_; rintro e w6 ⟨rfl, h6, k6⟩; have t6 := t5'.kept k6 (by omega); have r6 := r5'.kept k6 (by omega); have o6 := OwnsPairs.kept o5' k6 (by omega); have hk6 := hk5'.trans k6; have c62 : w6.cell? ⟨T, 2, none⟩ = some (.slice ad ln cp) := Lib.cell_of_heap t6 2)
        | (go_at_call 158; refine (add_any ats _ an av (T + 1) _ o6 (by have := t6.lt; omega) hlA).mono ?_; rintro e w7 ⟨u7, rfl, o7, b7⟩; obtain ⟨ad7, cp7, rfl⟩ := o7.reads.form; have t7 := t6.belowB b7 (by omega); have r7 := r6.belowB b7 (by omega); have h7 := h6.belowB b7 (by omega); have hk7 := hk6.belowB b7 (by omega); have f7 : w7.frozen? ⟨T, 2, none⟩ = false := Lib.frozen_of_heap t7 2; have c7 : w7.cell? ⟨T, 2, none⟩ = some (.slice ad ln cp) := Lib.cell_of_heap t7 2))
      all_goals
        (try go_wp2)
        have k8 : Kept T w7 (w7.setCell ⟨T, 2, none⟩ (.slice ad7 (Tk.add ats (an, av)).length cp7)) := Kept.set T 2 w7 _
        have h8 := h7.other k8 (by omega) (Nat.le_of_lt t7.lt)
        refine ⟨⟨rest, Tk.add ats (an, av), ad7, _, cp7, h8, Go.Joins.block_setCell t7 _, r7.kept k8 (by omega), OwnsPairs.kept o7 k8 (by omega), hadl, hk7.more k8 (by omega), HT, hbw, Nat.le_refl _, hRT⟩, ?_⟩
        rw [h8.left, hml]
        rw [List.length_cons] at hdl
        omega
end Go.Proofs.YtiodaahncadodaaGreatDoor
/- The contracts of a reader's start and end. -/
namespace Go.Proofs.YtiodaahncadodaaGreatDoor
open Go.RowKit
/-- The name that is ahead behind a start tag. -/
def aheadP (k : Tk.Tok) (a : List UInt8) : List UInt8 := if Tk.isRaw k.name = true then k.name else a
theorem take_one {b : Nat} {c : UInt8} {l a : List UInt8} (W : World) (h : Tr b (c :: l) a W) :
    Calls Tryz.prog 120 #[.pointer (some ⟨b, 0, none⟩), .int .i64 1] W fun e w' => e = .returned (.string (str [c])) ∧ Tr b l a w' ∧ Kept b W w' := take_any 1 h (by simp)
theorem take_two {b : Nat} {c d : UInt8} {l a : List UInt8} (W : World) (h : Tr b (c :: d :: l) a W) :
    Calls Tryz.prog 120 #[.pointer (some ⟨b, 0, none⟩), .int .i64 2] W fun e w' => e = .returned (.string (str [c, d])) ∧ Tr b l a w' ∧ Kept b W w' := take_any 2 h (by simp)
set_option maxHeartbeats 1000000 in
set_option maxRecDepth 100000 in
theorem start_any {b : Nat} {l a : List UInt8} {w : World} (h : Tr b (60 :: l) a w) :
    Calls Tryz.prog 86 #[.pointer (some ⟨b, 0, none⟩)] w (TokPost b (aheadP (tagP l).1 a) w (tagP l)) := by
  have hz := (zero_of_info zeroK).1
  have hbw := h.lt
  have h0 := h.step ((Below.refl _ w).alloc (Nat.le_refl _) (.cells kCells0 56))
  have hk0 : Kept b w (w.alloc (.cells kCells0 56)) := Kept.of ((Below.refl _ w).alloc (Nat.le_refl _) _)
  have ha0 : KAt (w.alloc (.cells kCells0 56)) w.heap.size kCells0 := heap_new w _
  have HTag := hideT (fun W (h : Tr b l a W) => tag_any h)
  generalize tagP l = q at *
  obtain ⟨⟨kk, kn, ka, ks, kx⟩, r⟩ := q
  go_enter Tryz.func86, Tryz.ntmps86
  go_wp2_with fail
  generalize w.alloc (.cells kCells0 56) = W at *
  go_at_call 120
  refine (take_one _ h0).mono ?_
  rintro e w1 ⟨rfl, h1, k1⟩
  have ha1 := ha0.kept k1 (by omega)
  have hk1 := hk0.trans k1
  clear h0 hk0 ha0 k1
  go_wp2_with fail
  go_at_call 124
  refine (HTag.out _ h1).mono ?_
  rintro e w2 ⟨ad, ln, cp, rfl, o2, h2, k2⟩
  have ha2 := ha1.kept k2 (by omega)
  have hk2 := hk1.trans k2
  have o2' := OwnsPairs.mono (B := w.heap.size + 1) o2 ha1.lt
  clear h1 ha1 k2 HTag o2 hk1
  simp only at h2 o2'
  have hlt2 := ha2.lt
  have hb3 : Below w2.heap.size w2 (w2.alloc (.cells (kCells kk kn (.slice ad ln cp) ks kx) 56)) := (Below.refl _ _).alloc (Nat.le_refl _) _
  have t3 : KAt (w2.alloc (.cells (kCells kk kn (.slice ad ln cp) ks kx) 56)) w2.heap.size (kCells kk kn (.slice ad ln cp) ks kx) := heap_new w2 _
  have h3 := h2.step hb3
  have r3 := ha2.step hb3
  have o3 := OwnsPairs.below o2' hb3
  have hk3 := hk2.trans (Kept.of hb3)
  have hlt3 := hk2.size
  clear h2 ha2 hk2 o2' hb3
  go_wp2_with fail
  generalize (w2.alloc (.cells (kCells kk kn (.slice ad ln cp) ks kx) 56)) = W3 at *
  generalize w2.heap.size = T at *
  have hH := hasOwn_any kn W3
  go_at_call 125
  refine hH.mono ?_
  rintro e w4 ⟨rfl, hw⟩
  rw [hw]
  clear hw hH
  have f1 := h3.free 1
  have c1 := h3.c1
  cases hx : Tk.isRaw kn
  · have HA : Hid (aheadP ⟨kk, kn, ka, ks, kx⟩ a = a) := by
      show _ = _
      unfold aheadP
      rw [hx]
      rfl
    clear hx
    go_wp2_with (first
      | (refine wpList_load_K _ rfl rfl T _ _ _ _ _ rfl t3 ?_)
      | (refine wpList_store_K _ _ rfl rfl w.heap.size _ rfl kk (str kn) (str kx) ks ad ln cp rfl rfl r3 ?_))
    refine ret_K rfl rfl rfl (setRow_K r3) ?_
    unfold TokPost
    rw [HA.out]
    have k7 := kept_setRow w.heap.size W3 (kCells kk kn (.slice ad ln cp) ks kx)
    exact ⟨ad, ln, cp, rfl, (OwnsPairs.kept o3 k7 (by omega)).mono (by omega), h3.other k7 hbw (Nat.le_of_lt r3.lt), hk3.more k7 (Nat.le_refl _)⟩
  · have HA : Hid (aheadP ⟨kk, kn, ka, ks, kx⟩ a = kn) := by
      show _ = _
      unfold aheadP
      rw [hx]
      rfl
    clear hx
    have n1 : W3.cell? ⟨T, 1, none⟩ = some (.string (str kn)) := Lib.cell_of_heap t3 1
    have k5 : Kept b W3 (W3.setCell ⟨b, 1, none⟩ (.string (str kn))) := Kept.set b 1 W3 _
    have h5 := h3.setA kn
    have t5 := t3.kept k5 (by omega)
    have r5 := r3.kept k5 (by omega)
    have o5 := OwnsPairs.kept o3 k5 (by omega)
    have hk5 := hk3.trans k5
    clear h3 r3 o3 hk3
    go_wp2_with (first
      | (refine wpList_load_K _ rfl rfl T _ _ _ _ _ rfl t5 ?_)
      | (refine wpList_store_K _ _ rfl rfl w.heap.size _ rfl kk (str kn) (str kx) ks ad ln cp rfl rfl r5 ?_))
    refine ret_K rfl rfl rfl (setRow_K r5) ?_
    unfold TokPost
    rw [HA.out]
    have k7 := kept_setRow w.heap.size (W3.setCell ⟨b, 1, none⟩ (.string (str kn))) (kCells kk kn (.slice ad ln cp) ks kx)
    exact ⟨ad, ln, cp, rfl, (OwnsPairs.kept o5 k7 (by omega)).mono (by omega), h5.other k7 hbw (Nat.le_of_lt r5.lt), hk5.more k7 (Nat.le_refl _)⟩
theorem tagP_kind (l : List UInt8) : tagP l = (Tk.zero, []) ∨ (tagP l).1.kind = 1 := by
  unfold tagP Tk.tag
  cases Tk.tg (l.dropWhile Tk.tn) [] false with
  | none => exact .inl rfl
  | some x => exact .inr rfl
/-- What end answers, and leaves. -/
def endP (x : Tk.Tok × List UInt8) : Tk.Tok × List UInt8 := if x.1.kind = 0 then (Tk.zero, []) else (⟨2, x.1.name, [], false, []⟩, x.2)
set_option maxHeartbeats 1000000 in
set_option maxRecDepth 100000 in
theorem end_any {b : Nat} {l a : List UInt8} {w : World} (h : Tr b (60 :: 47 :: l) a w) :
    Calls Tryz.prog 87 #[.pointer (some ⟨b, 0, none⟩)] w (TokPost b a w (endP (tagP l))) := by
  have hz := (zero_of_info zeroK).1
  have hbw := h.lt
  have h0 := h.step ((Below.refl _ w).alloc (Nat.le_refl _) (.cells kCells0 56))
  have hk0 : Kept b w (w.alloc (.cells kCells0 56)) := Kept.of ((Below.refl _ w).alloc (Nat.le_refl _) _)
  have ha0 : KAt (w.alloc (.cells kCells0 56)) w.heap.size kCells0 := heap_new w _
  have HTag := hideT (fun W (h : Tr b l a W) => tag_any h)
  have hkd := tagP_kind l
  generalize tagP l = q at *
  obtain ⟨⟨kk, kn, ka, ks, kx⟩, r⟩ := q
  go_enter Tryz.func87, Tryz.ntmps87
  go_wp2_with fail
  generalize w.alloc (.cells kCells0 56) = W at *
  go_at_call 120
  refine (take_two _ h0).mono ?_
  rintro e w1 ⟨rfl, h1, k1⟩
  have ha1 := ha0.kept k1 (by omega)
  have hk1 := hk0.trans k1
  clear h0 hk0 ha0 k1
  go_wp2_with fail
  go_at_call 124
  refine (HTag.out _ h1).mono ?_
  rintro e w2 ⟨ad, ln, cp, rfl, o2, h2, k2⟩
  have ha2 := ha1.kept k2 (by omega)
  have hk2 := hk1.trans k2
  clear h1 ha1 k2 HTag o2 hk1
  simp only at h2
  have hlt2 := ha2.lt
  have hb3 : Below w2.heap.size w2 (w2.alloc (.cells (kCells kk kn (.slice ad ln cp) ks kx) 56)) := (Below.refl _ _).alloc (Nat.le_refl _) _
  have t3 : KAt (w2.alloc (.cells (kCells kk kn (.slice ad ln cp) ks kx) 56)) w2.heap.size (kCells kk kn (.slice ad ln cp) ks kx) := heap_new w2 _
  have h3 := h2.step hb3
  have r3 := ha2.step hb3
  have hk3 := hk2.trans (Kept.of hb3)
  clear h2 ha2 hk2 hb3
  rcases hkd with hq | hq
  · have e1 : kk = 0 := congrArg (·.1.kind) hq
    have e2 : r = [] := congrArg (·.2) hq
    subst e1 e2
    clear hq
    have n0 : (w2.alloc (.cells (kCells ((0 : Nat) : Int) kn (.slice ad ln cp) ks kx) 56)).cell? ⟨w2.heap.size, 0, none⟩ = some (.int .i64 0) := Lib.cell_of_heap t3 0
    go_wp2_with (refine wpList_store_K _ _ rfl rfl w.heap.size _ rfl 0 ByteArray.empty ByteArray.empty false none 0 0 rfl rfl r3 ?_)
    refine ret_K rfl rfl rfl (setRow_K r3) ?_
    have k7 := kept_setRow w.heap.size (w2.alloc (.cells (kCells ((0 : Nat) : Int) kn (.slice ad ln cp) ks kx) 56)) kCells0
    unfold TokPost
    rw [show endP (⟨0, kn, ka, ks, kx⟩, []) = (Tk.zero, []) from if_pos rfl]
    exact ⟨none, 0, 0, rfl, OwnsPairs.nil _ _ _, h3.other k7 hbw (Nat.le_of_lt r3.lt), hk3.more k7 (Nat.le_refl _)⟩
  · have hq : kk = 1 := hq
    subst hq
    have n0 : (w2.alloc (.cells (kCells ((1 : Nat) : Int) kn (.slice ad ln cp) ks kx) 56)).cell? ⟨w2.heap.size, 0, none⟩ = some (.int .i64 1) := Lib.cell_of_heap t3 0
    have n1 : (w2.alloc (.cells (kCells ((1 : Nat) : Int) kn (.slice ad ln cp) ks kx) 56)).cell? ⟨w2.heap.size, 1, none⟩ = some (.string (str kn)) := Lib.cell_of_heap t3 1
    go_wp2_with (refine wpList_store_K _ _ rfl rfl w.heap.size _ rfl 2 (str kn) ByteArray.empty false none 0 0 rfl rfl r3 ?_)
    refine ret_K rfl rfl rfl (setRow_K r3) ?_
    have k7 := kept_setRow w.heap.size (w2.alloc (.cells (kCells ((1 : Nat) : Int) kn (.slice ad ln cp) ks kx) 56)) (kCells 2 kn (.slice none 0 0) false [])
    unfold TokPost
    rw [show endP (⟨1, kn, ka, ks, kx⟩, r) = (⟨2, kn, [], false, []⟩, r) from if_neg (by show ¬ 1 = 0; omega)]
    exact ⟨none, 0, 0, rfl, OwnsPairs.nil _ _ _, h3.other k7 hbw (Nat.le_of_lt r3.lt), hk3.more k7 (Nat.le_refl _)⟩
end Go.Proofs.YtiodaahncadodaaGreatDoor
