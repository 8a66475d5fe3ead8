/- The walk of JoinFollows: whatever URL and texts come in, the law answers true. -/
import Derived.Test.YtnmkhbelmdokmaaGreatDoorKFollow
import Derived.Deep.Cut
namespace Go.Proofs.YtnmkhbelmdokmaaGreatDoor.joinFollows
open Go.RowKit
structure B1 (w W : World) (u : Url.U) : Prop where
  at_ : UAt W w.heap.size u
  bel : Below w.heap.size w W
theorem B1.step {w W W' : World} {u : Url.U} (h : B1 w W u) (hb : Below W.heap.size W W') : B1 w W' u := ⟨h.at_.below hb, Go.Proofs.YtnmkhbelmdokmaaGreatDoor.bel h.bel hb⟩
set_option maxHeartbeats 8000000 in
set_option maxRecDepth 100000 in
theorem walk_main (b : Url.U) (a : Option Addr) (c : Nat) (ls : List (List UInt8)) (w : World) (fb : Fits b) (hlen : ls.length ≤ 9223372036854775807) (hv : ReadsTexts w (.slice a ls.length c) ls) (hE : Env w) :
    Calls Tryz.prog 7 #[uVal b, .slice a ls.length c] w fun e w' => e = .returned (.bool true) ∧ Below w.heap.size w w' := by
  have hzu := (zero_of_info zeroURL).1
  have hgd := guardU
  have hB : B1 w (w.alloc (.cells (uCells b) 25)) b := ⟨heap_alloc_last _ _, (Below.refl _ w).alloc (Nat.le_refl _) _⟩
  unfold uVal at hzu
  unfold uCells at hzu hB
  have HV : Hid _ := hv
  clear hv
  cases h1 : farU b
  case true =>
    unfold uVal uCells
    go_enter Tryz.func7, Tryz.ntmps7
    go_upto_region 1 with fail
    generalize w.alloc (.cells #[.string (str b.sch), .string (str b.host), .int .i64 b.port, .string (str b.path), .string (str b.query), .string (str b.frag), .bool b.hq, .bool b.hf] 25) = w0 at hB ⊢
    go_wp2_with (first
      | ((with_reducible show wpList _ _ _ ({ dst := _, op := Op.load 25 (Operand.tmp 2), type := _, pos := _, after := _, guard := _ } :: _) _ _); refine wpList_load_Ug _ rfl (by rfl) (w.heap.size) b rfl hB.at_ ?_)
      | (go_at_call 18; refine (far_any _ _ (by assumption)).mono ?_; rintro e w1 ⟨rfl, hb1⟩; replace hB := hB.step hb1; clear hb1)
      | (go_at_call 20; refine (alive5_any _ (hE.below hB.bel)).mono ?_; rintro e w1 ⟨rfl, hb1⟩; replace hB := hB.step hb1; clear hb1))
    go_ret
    exact ⟨rfl, hB.bel⟩
  have hfair : Fair b := ⟨fb, Nat.le_trans (far_no h1).2 (by decide)⟩
  have HF : Hid _ := hfair
  clear hfair
  by_cases hn : (20 : Int) < (ls.length : Int)
  · unfold uVal uCells
    go_enter Tryz.func7, Tryz.ntmps7
    go_upto_region 1 with fail
    generalize w.alloc (.cells #[.string (str b.sch), .string (str b.host), .int .i64 b.port, .string (str b.path), .string (str b.query), .string (str b.frag), .bool b.hq, .bool b.hf] 25) = w0 at hB ⊢
    go_wp2_with (first
      | ((with_reducible show wpList _ _ _ ({ dst := _, op := Op.load 25 (Operand.tmp 2), type := _, pos := _, after := _, guard := _ } :: _) _ _); refine wpList_load_Ug _ rfl (by rfl) (w.heap.size) b rfl hB.at_ ?_)
      | (go_at_call 18; refine (far_any _ _ (by assumption)).mono ?_; rintro e w1 ⟨rfl, hb1⟩; replace hB := hB.step hb1; clear hb1)
      | (go_at_call 20; refine (alive5_any _ (hE.below hB.bel)).mono ?_; rintro e w1 ⟨rfl, hb1⟩; replace hB := hB.step hb1; clear hb1))
    go_ret
    exact ⟨rfl, hB.bel⟩
  have hn20 : ls.length ≤ 20 := by omega
  have HFIN : Hid ((∀ l ∈ ls, l.length ≤ 2200) → (∀ W : World, Env W → Below w.heap.size w W → Calls Tryz.prog 28 #[uVal b, .slice a ls.length c] W fun e w' => e = .returned (.tuple #[uVal (Url.follow b ls).2, .int .i64 (Url.follow b ls).1]) ∧ Below W.heap.size W w') ∧ (∀ W : World, Below w.heap.size w W → Calls Tryz.prog 29 #[uVal b, .slice a ls.length c] W fun e w' => e = .returned (.tuple #[uVal (Url.follow b ls).2, .int .i64 (Url.follow b ls).1]) ∧ Below W.heap.size W w')) :=
    fun hl => ⟨fun W h hb => Follow_any b _ ls W h HF.out (ReadsTexts.below HV.out hb) hn20 hl, fun W hb => RFollow_any b _ ls W HF.out (ReadsTexts.below HV.out hb) hn20 hl⟩
  unfold uVal uCells
  go_enter Tryz.func7, Tryz.ntmps7
  go_upto_region 1 with fail
  generalize w.alloc (.cells #[.string (str b.sch), .string (str b.host), .int .i64 b.port, .string (str b.path), .string (str b.query), .string (str b.frag), .bool b.hq, .bool b.hf] 25) = w0 at hB ⊢
  go_upto_region 4 with (first
    | ((with_reducible show wpList _ _ _ ({ dst := _, op := Op.load 25 (Operand.tmp 2), type := _, pos := _, after := _, guard := _ } :: _) _ _); refine wpList_load_Ug _ rfl (by rfl) (w.heap.size) b rfl hB.at_ ?_)
    | (go_at_call 18; refine (far_any _ _ (by assumption)).mono ?_; rintro e w1 ⟨rfl, hb1⟩; replace hB := hB.step hb1; clear hb1))
  rename World => w3
  go_loopw [21] (fun i wr => ∃ k : Nat, k ≤ ls.length ∧ i = .int .i64 (k : Int) ∧ Hid (∀ l ∈ ls.take k, l.length ≤ 2200) ∧ wr = w3) (fun i _ => ls.length - (intOf i).toNat)
  case atStart => exact ⟨0, Nat.zero_le _, rfl, (show ∀ l ∈ ls.take 0, l.length ≤ 2200 from fun l hl => by rw [List.take_zero] at hl; cases hl), rfl⟩
  case round =>
    obtain ⟨k, hk, rfl, HA, rfl⟩ := hrel
    by_cases hlt : k < ls.length
    · obtain ⟨t, ht⟩ : ∃ t, ls[k]? = some t := ⟨_, List.getElem?_eq_getElem hlt⟩
      obtain ⟨bt, ot, rfl, hcc, hbl, h2⟩ := ReadsTexts.at HV.out ht
      have g1 := (hB.bel.cell (p := ⟨bt, ot + k, none⟩) hbl).trans h2
      clear h2
      cases hq : longU t
      · have HN : Hid (∀ l ∈ ls.take (k + 1), l.length ≤ 2200) := by
          intro l hl
          have hh : t.length ≤ 2200 := by have := of_decide_eq_false hq; omega
          obtain ⟨hk2, he⟩ := List.getElem?_eq_some_iff.1 ht
          rw [← List.take_append_getElem hk2, List.mem_append, he, List.mem_singleton] at hl
          rcases hl with hl | rfl
          · exact HA.out l hl
          · exact hh
        clear ht
        go_wp2_with (go_at_call 19; refine (long5_any _ _).mono ?_; rintro e w1 ⟨rfl, hw1⟩; rw [hw1]; clear hw1)
        go_roundw
        case rel => exact ⟨k + 1, by omega, by go_num, HN, by trivial⟩
        case measure => simp [intOf]; omega
      · clear ht
        go_wp2_with (first
          | (go_at_call 19; refine (long5_any _ _).mono ?_; rintro e w1 ⟨rfl, hw1⟩; rw [hw1]; clear hw1)
          | (go_at_call 20; refine (alive5_any _ (hE.below hB.bel)).mono ?_; rintro e w1 ⟨rfl, hb1⟩; replace hB := hB.step hb1; clear hb1))
        go_ret
        exact ⟨rfl, hB.bel⟩
    · have hall : ∀ l ∈ ls, l.length ≤ 2200 := by
        have := HA.out
        rw [List.take_of_length_le (by omega)] at this
        exact this
      obtain ⟨jc, rc⟩ := HFIN.out hall
      clear hall HA
      generalize (Url.follow b ls).2 = x at *
      generalize (Url.follow b ls).1 = pe at *
      have heq : ∀ W : World, (binOp .eql 25 (.agg (uCells x)) (.agg (uCells x))).run Tryz.prog W = .ok (.bool true) W := fun W => by
        have := eql_U x x W
        rw [Url.same_self] at this
        exact this
      go_wp2_with (first
        | ((with_reducible show wpList _ _ _ ({ dst := _, op := Op.load 25 (Operand.tmp 2), type := _, pos := _, after := _, guard := _ } :: _) _ _); refine wpList_load_Ug _ rfl (by rfl) (w.heap.size) b rfl hB.at_ ?_)
        | (go_at_call 28; refine (jc _ (hE.below hB.bel) hB.bel).mono ?_; rintro e w5 ⟨rfl, hb1⟩; replace hB := hB.step hb1; clear hb1)
        | ((with_reducible show wpList _ _ _ ({ dst := _, op := Op.store 25 (Operand.tmp 7) _, type := _, pos := _, after := _, guard := _ } :: _) _ _); refine wpList_store_U _ _ rfl rfl _ x Url.zero rfl rfl (heap_alloc_last _ _) ?_; have hVb7 := setRow_U (v := x) (u := Url.zero) (heap_alloc_last w5 (.cells #[.string (str Url.zero.sch), .string (str Url.zero.host), .int .i64 Url.zero.port, .string (str Url.zero.path), .string (str Url.zero.query), .string (str Url.zero.frag), .bool Url.zero.hq, .bool Url.zero.hf] 25)); have hs := below_setRow ((Below.refl _ w5).alloc (Nat.le_refl _) (.cells #[.string (str Url.zero.sch), .string (str Url.zero.host), .int .i64 Url.zero.port, .string (str Url.zero.path), .string (str Url.zero.query), .string (str Url.zero.frag), .bool Url.zero.hq, .bool Url.zero.hf] 25)) (Nat.le_refl _) (uCells x); replace hB := hB.step hs; generalize World.setRow (World.alloc w5 (.cells #[.string (str Url.zero.sch), .string (str Url.zero.host), .int .i64 Url.zero.port, .string (str Url.zero.path), .string (str Url.zero.query), .string (str Url.zero.frag), .bool Url.zero.hq, .bool Url.zero.hf] 25)) (World.heap w5).size (uCells x) = w6 at hVb7 hB ⊢; generalize (World.heap w5).size = b7 at hVb7 ⊢; clear hs)
        | (go_at_call 29; refine (rc _ hB.bel).mono ?_; rintro e w8 ⟨rfl, hb1⟩; replace hVb7 := hVb7.below hb1; replace hB := hB.step hb1; clear hb1)
        | ((with_reducible show wpList _ _ _ ({ dst := _, op := Op.store 25 (Operand.tmp 9) _, type := _, pos := _, after := _, guard := _ } :: _) _ _); refine wpList_store_U _ _ rfl rfl _ x Url.zero rfl rfl (heap_alloc_last _ _) ?_; have hVb9 := setRow_U (v := x) (u := Url.zero) (heap_alloc_last w8 (.cells #[.string (str Url.zero.sch), .string (str Url.zero.host), .int .i64 Url.zero.port, .string (str Url.zero.path), .string (str Url.zero.query), .string (str Url.zero.frag), .bool Url.zero.hq, .bool Url.zero.hf] 25)); have hs := below_setRow ((Below.refl _ w8).alloc (Nat.le_refl _) (.cells #[.string (str Url.zero.sch), .string (str Url.zero.host), .int .i64 Url.zero.port, .string (str Url.zero.path), .string (str Url.zero.query), .string (str Url.zero.frag), .bool Url.zero.hq, .bool Url.zero.hf] 25)) (Nat.le_refl _) (uCells x); replace hVb7 := hVb7.below hs; replace hB := hB.step hs; generalize World.setRow (World.alloc w8 (.cells #[.string (str Url.zero.sch), .string (str Url.zero.host), .int .i64 Url.zero.port, .string (str Url.zero.path), .string (str Url.zero.query), .string (str Url.zero.frag), .bool Url.zero.hq, .bool Url.zero.hf] 25)) (World.heap w8).size (uCells x) = w9 at hVb9 hVb7 hB ⊢; generalize (World.heap w8).size = b9 at hVb9 ⊢; clear hs)
        | ((with_reducible show wpList _ _ _ ({ dst := _, op := Op.load 25 (Operand.tmp 7), type := _, pos := _, after := _, guard := _ } :: _) _ _); refine wpList_load_Ug _ rfl (by rfl) (b7) x rfl hVb7 ?_)
        | ((with_reducible show wpList _ _ _ ({ dst := _, op := Op.load 25 (Operand.tmp 9), type := _, pos := _, after := _, guard := _ } :: _) _ _); refine wpList_load_Ug _ rfl (by rfl) (b9) x rfl hVb9 ?_)
        | ((with_reducible show wpList _ _ _ ({ dst := _, op := Op.binOp BinOp.eql 25 _ _ _, type := _, pos := _, after := _, guard := _ } :: _) _ _); unfold uVal)
        | (go_at_call 20; refine (alive5_any _ (hE.below hB.bel)).mono ?_; rintro e w1 ⟨rfl, hb1⟩; replace hB := hB.step hb1; clear hb1))
      go_ret
      exact ⟨rfl, hB.bel⟩
theorem walk (b : Url.U) (a : Option Addr) (len cap : Nat) (ls : List (List UInt8)) (w : World) (fb : Fits b) (h1 : ArgTexts w a len cap ls) (hE : Env w) :
    Calls Tryz.prog 7 #[uVal b, .slice a len cap] w fun e w' => e = .returned (.bool true) ∧ Below w.heap.size w w' := by
  obtain ⟨rfl, _, hm, hr, _⟩ := h1
  exact walk_main b a cap ls w fb hm hr hE
end Go.Proofs.YtnmkhbelmdokmaaGreatDoor.joinFollows
