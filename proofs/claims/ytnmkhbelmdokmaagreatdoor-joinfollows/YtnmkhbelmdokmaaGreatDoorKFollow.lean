/- Texts laid as one. -/
import Derived.Test.YtnmkhbelmdokmaaGreatDoorKJoinR
import Derived.Test.YtnmkhbelmdokmaaGreatDoorKGround
import Derived.SliceStrings
import Derived.SizedLaws
/- Contracts of package join's Follow. -/
namespace Url
/-- Links one behind the other. -/
def follow (b : U) : List (List UInt8) → Int × U
  | [] => (0, b)
  | l :: r => if (join b l).1 = 0 then follow (join b l).2 r else ((join b l).1, zero)
theorem join_ok {b : U} {l : List UInt8} (h : (join b l).1 = 0) : Good (join b l).2 := by
  cases hm : may b
  · rw [join_bad l hm] at h
    cases h
  · rcases join_either b (may_good hm) _ l (Nat.le_refl _) with h2 | h2
    · exact absurd h h2.1
    · exact h2.2
theorem follow_next {b : U} {ls : List (List UInt8)} {k : Nat} {t : List UInt8} (ht : ls[k]? = some t) : follow b (ls.drop k) = if (join b t).1 = 0 then follow (join b t).2 (ls.drop (k + 1)) else ((join b t).1, zero) := by
  obtain ⟨hk, he⟩ := List.getElem?_eq_some_iff.1 ht
  rw [List.drop_eq_getElem_cons hk, he]
  rfl
end Url
namespace Go.Proofs.YtnmkhbelmdokmaaGreatDoor
open Go.RowKit
theorem TU.set {c : Nat} {w W : World} {u : Url.U} (h : TU c w W u) (v : Url.U) : TU c w (W.setRow c (uCells v)) v := ⟨setRow_U h.at_, (setRow_other (by omega) _).trans h.res, below_setRow h.bel (Nat.le_refl _) _⟩
def Fair (u : Url.U) : Prop := Fits u ∧ (Url.str u).length ≤ 1000000
theorem fair_join {b : Url.U} {l : List UInt8} (h : (Url.join b l).1 = 0) : Fair (Url.join b l).2 := ⟨(good_fits (Url.join_ok h)).1, Nat.le_trans (Url.join_ok h).len (by decide)⟩
set_option maxHeartbeats 8000000 in
set_option maxRecDepth 100000 in
theorem Follow_any (b : Url.U) (v : Value) (ls : List (List UInt8)) (w : World) (hE : Env w) (hf : Fair b) (hv : ReadsTexts w v ls) (hn : ls.length ≤ 20) (hl : ∀ l ∈ ls, l.length ≤ 2200) :
    Calls Tryz.prog 28 #[uVal b, v] w fun e w' => e = .returned (.tuple #[uVal (Url.follow b ls).2, .int .i64 (Url.follow b ls).1]) ∧ Below w.heap.size w w' := by
  obtain ⟨a, c, rfl⟩ := hv.form
  have HV : Hid _ := hv
  have HL : Hid _ := hl
  have HF : Hid _ := hf
  clear hv hl hf
  have hzu := (zero_of_info zeroURL).1
  have hT : TU w.heap.size w ((w.alloc (.cells (uCells b) 25)).alloc (.cells (uCells Url.zero) 25)) b :=
    ⟨UAt.below (heap_alloc_last _ _) ((Below.refl _ _).alloc (Nat.le_refl _) _), alloc_two _ _ _, ((Below.refl _ w).alloc (Nat.le_refl _) _).alloc (by simp) _⟩
  obtain ⟨res, hres⟩ : ∃ res, Url.follow b ls = res := ⟨_, rfl⟩
  have HR : Hid (Url.follow b (ls.drop 0) = res) := by rw [List.drop_zero]; exact hres
  rw [hres]
  clear hres
  unfold uVal at hzu
  unfold uVal
  unfold uCells at hzu hT ⊢
  go_enter Tryz.func28, Tryz.ntmps28
  go_upto_region 1 with fail
  generalize (w.alloc (.cells #[.string (str b.sch), .string (str b.host), .int .i64 b.port, .string (str b.path), .string (str b.query), .string (str b.frag), .bool b.hq, .bool b.hf] 25)).alloc (.cells #[.string (str Url.zero.sch), .string (str Url.zero.host), .int .i64 Url.zero.port, .string (str Url.zero.path), .string (str Url.zero.query), .string (str Url.zero.frag), .bool Url.zero.hq, .bool Url.zero.hf] 25) = w0 at hT ⊢
  go_wp2_with fail
  go_loopw [12] (fun i wr => ∃ (k : Nat) (cur : Url.U), k ≤ ls.length ∧ i = .int .i64 (k : Int) ∧ TU w.heap.size w wr cur ∧ Hid (Fair cur) ∧ Hid (Url.follow cur (ls.drop k) = res)) (fun i _ => ls.length - (intOf i).toNat)
  case atStart => exact ⟨0, b, Nat.zero_le _, rfl, hT, HF, HR⟩
  case round =>
    clear hT HR
    obtain ⟨k, cur, hk, rfl, hT, HF2, HR2⟩ := hrel
    by_cases hlt : k < ls.length
    · obtain ⟨t, ht⟩ : ∃ t, ls[k]? = some t := ⟨_, List.getElem?_eq_getElem hlt⟩
      obtain ⟨bt, ot, rfl, hcc, hbl, h1⟩ := ReadsTexts.at HV.out ht
      have g1 := (hT.bel.cell (p := ⟨bt, ot + k, none⟩) hbl).trans h1
      have htl := HL.out t (List.mem_of_getElem? ht)
      have hfn := Url.follow_next (b := cur) ht
      rw [HR2.out] at hfn
      clear h1 ht HR2
      have jc : ∀ W : World, Env W → Calls Tryz.prog 21 #[uVal cur, .string (str t)] W fun e w' => e = .returned (.tuple #[uVal (Url.join cur t).2, .int .i64 (Url.join cur t).1]) ∧ Below W.heap.size W w' := fun W h => JJoin_any cur HF2.out.1 (by have := HF2.out.2; omega) _ t W (Nat.le_refl _) h (by omega)
      by_cases he : (Url.join cur t).1 = 0
      · have HF3 : Hid (Fair (Url.join cur t).2) := fair_join he
        rw [if_pos he] at hfn
        have HR3 : Hid _ := hfn.symm
        rw [he] at jc
        clear hfn he
        generalize (Url.join cur t).2 = x at *
        go_wp2_with (first
          | ((with_reducible show wpList _ _ _ ({ dst := _, op := Op.load 25 (Operand.tmp 2), type := _, pos := _, after := _, guard := _ } :: _) _ _); refine wpList_load_Ug _ rfl (by rfl) (w.heap.size) cur rfl hT.at_ ?_)
          | (go_at_call 21; refine (jc _ (hE.below hT.bel)).mono ?_; rintro e w5 ⟨rfl, hb1⟩; replace hT := hT.step hb1; clear hb1)
          | ((with_reducible show wpList _ _ _ ({ dst := _, op := Op.store 25 (Operand.tmp 8) _, type := _, pos := _, after := _, guard := _ } :: _) _ _); refine wpList_store_U _ _ rfl rfl _ x Url.zero rfl rfl (heap_alloc_last _ _) ?_; have hVb8 := setRow_U (v := x) (u := Url.zero) (heap_alloc_last w5 (.cells #[.string (str Url.zero.sch), .string (str Url.zero.host), .int .i64 Url.zero.port, .string (str Url.zero.path), .string (str Url.zero.query), .string (str Url.zero.frag), .bool Url.zero.hq, .bool Url.zero.hf] 25)); have hs0 := below_setRow ((Below.refl _ w5).alloc (Nat.le_refl _) (.cells #[.string (str Url.zero.sch), .string (str Url.zero.host), .int .i64 Url.zero.port, .string (str Url.zero.path), .string (str Url.zero.query), .string (str Url.zero.frag), .bool Url.zero.hq, .bool Url.zero.hf] 25)) (Nat.le_refl _) (uCells x); have hlb8 := hT.res.lt; replace hT := hT.step hs0; generalize World.setRow (World.alloc w5 (.cells #[.string (str Url.zero.sch), .string (str Url.zero.host), .int .i64 Url.zero.port, .string (str Url.zero.path), .string (str Url.zero.query), .string (str Url.zero.frag), .bool Url.zero.hq, .bool Url.zero.hf] 25)) (World.heap w5).size (uCells x) = w6 at hVb8 hT ⊢; generalize (World.heap w5).size = b8 at hVb8 hlb8 ⊢; clear hs0)
          | ((with_reducible show wpList _ _ _ ({ dst := _, op := Op.load 25 (Operand.tmp 8), type := _, pos := _, after := _, guard := _ } :: _) _ _); refine wpList_load_Ug _ rfl (by rfl) (b8) x rfl hVb8 ?_)
          | ((with_reducible show wpList _ _ _ ({ dst := _, op := Op.store 25 (Operand.tmp 2) _, type := _, pos := _, after := _, guard := _ } :: _) _ _); refine wpList_store_U _ _ rfl rfl w.heap.size x cur rfl rfl hT.at_ ?_; have hT2 := hT.set x; generalize World.setRow w6 w.heap.size (uCells x) = w7 at hT2 ⊢))
        go_roundw
        case rel => exact ⟨k + 1, x, by omega, by go_num, hT2, HF3, HR3⟩
        case measure => simp [intOf]; omega
      · rw [if_neg he] at hfn
        have HR3 : Hid _ := hfn
        have hne : ((Url.join cur t).1 != 0) = true := by rw [bne_iff_ne]; exact he
        clear hfn he
        generalize (Url.join cur t).2 = x at *
        generalize (Url.join cur t).1 = pe at *
        go_wp2_with (first
          | ((with_reducible show wpList _ _ _ ({ dst := _, op := Op.load 25 (Operand.tmp 2), type := _, pos := _, after := _, guard := _ } :: _) _ _); refine wpList_load_Ug _ rfl (by rfl) (w.heap.size) cur rfl hT.at_ ?_)
          | (go_at_call 21; refine (jc _ (hE.below hT.bel)).mono ?_; rintro e w5 ⟨rfl, hb1⟩; replace hT := hT.step hb1; clear hb1)
          | ((with_reducible show wpList _ _ _ ({ dst := _, op := Op.store 25 (Operand.tmp 8) _, type := _, pos := _, after := _, guard := _ } :: _) _ _); refine wpList_store_U _ _ rfl rfl _ x Url.zero rfl rfl (heap_alloc_last _ _) ?_; have hVb8 := setRow_U (v := x) (u := Url.zero) (heap_alloc_last w5 (.cells #[.string (str Url.zero.sch), .string (str Url.zero.host), .int .i64 Url.zero.port, .string (str Url.zero.path), .string (str Url.zero.query), .string (str Url.zero.frag), .bool Url.zero.hq, .bool Url.zero.hf] 25)); have hs0 := below_setRow ((Below.refl _ w5).alloc (Nat.le_refl _) (.cells #[.string (str Url.zero.sch), .string (str Url.zero.host), .int .i64 Url.zero.port, .string (str Url.zero.path), .string (str Url.zero.query), .string (str Url.zero.frag), .bool Url.zero.hq, .bool Url.zero.hf] 25)) (Nat.le_refl _) (uCells x); have hlb8 := hT.res.lt; replace hT := hT.step hs0; generalize World.setRow (World.alloc w5 (.cells #[.string (str Url.zero.sch), .string (str Url.zero.host), .int .i64 Url.zero.port, .string (str Url.zero.path), .string (str Url.zero.query), .string (str Url.zero.frag), .bool Url.zero.hq, .bool Url.zero.hf] 25)) (World.heap w5).size (uCells x) = w6 at hVb8 hT ⊢; generalize (World.heap w5).size = b8 at hVb8 hlb8 ⊢; clear hs0)
          | ((with_reducible show wpList _ _ _ ({ dst := _, op := Op.store 25 (Operand.tmp 4) _, type := _, pos := _, after := _, guard := _ } :: _) _ _); refine wpList_store_U _ _ rfl rfl (w.heap.size + 1) Url.zero Url.zero rfl rfl hT.res ?_))
        refine ret_U2 (u := Url.zero) rfl rfl rfl rfl (setRow_U hT.res) ⟨?_, below_setRow hT.bel (by omega) _⟩
        rw [HR3.out]
        rfl
    · have hk2 : k = ls.length := by omega
      have HR3 : Hid (res = (0, cur)) := by
        show _ = _
        rw [← HR2.out, List.drop_of_length_le (by omega)]
        rfl
      clear HR2
      go_wp2_with (first
        | ((with_reducible show wpList _ _ _ ({ dst := _, op := Op.load 25 (Operand.tmp 2), type := _, pos := _, after := _, guard := _ } :: _) _ _); refine wpList_load_Ug _ rfl (by rfl) (w.heap.size) cur rfl hT.at_ ?_)
        | ((with_reducible show wpList _ _ _ ({ dst := _, op := Op.store 25 (Operand.tmp 4) _, type := _, pos := _, after := _, guard := _ } :: _) _ _); refine wpList_store_U _ _ rfl rfl (w.heap.size + 1) cur Url.zero rfl rfl hT.res ?_))
      refine ret_U2 (u := cur) rfl rfl rfl rfl (setRow_U hT.res) ⟨?_, below_setRow hT.bel (by omega) _⟩
      rw [HR3.out]
      rfl
end Go.Proofs.YtnmkhbelmdokmaaGreatDoor
/- Contracts of the reference's Follow of layer 5. -/
namespace Go.Proofs.YtnmkhbelmdokmaaGreatDoor
open Go.RowKit
/-- The base, the result and the URL that goes on. -/
structure RU (w W : World) (b : Url.U) (d : Nat) (cur : Url.U) : Prop where
  tu : TU w.heap.size w W b
  at_ : UAt W d cur
  lt : w.heap.size + 1 < d
theorem RU.step {w W W' : World} {b cur : Url.U} {d : Nat} (h : RU w W b d cur) (hb : Below W.heap.size W W') : RU w W' b d cur := ⟨h.tu.step hb, h.at_.below hb, h.lt⟩
theorem RU.other {w W : World} {b cur : Url.U} {d e : Nat} (h : RU w W b d cur) (he : d < e) (v : Url.U) : RU w (W.setRow e (uCells v)) b d cur := ⟨h.tu.setRow (by have := h.lt; omega) v, (setRow_other (by omega) _).trans h.at_, h.lt⟩
theorem RU.set {w W : World} {b cur : Url.U} {d : Nat} (h : RU w W b d cur) (v : Url.U) : RU w (W.setRow d (uCells v)) b d v := ⟨h.tu.setRow h.lt v, setRow_U h.at_, h.lt⟩
set_option maxHeartbeats 8000000 in
set_option maxRecDepth 100000 in
theorem RFollow_any (b : Url.U) (v : Value) (ls : List (List UInt8)) (w : World) (hf : Fair b) (hv : ReadsTexts w v ls) (hn : ls.length ≤ 20) (hl : ∀ l ∈ ls, l.length ≤ 2200) :
    Calls Tryz.prog 29 #[uVal b, v] w fun e w' => e = .returned (.tuple #[uVal (Url.follow b ls).2, .int .i64 (Url.follow b ls).1]) ∧ Below w.heap.size w w' := by
  obtain ⟨a, c, rfl⟩ := hv.form
  have HV : Hid _ := hv
  have HL : Hid _ := hl
  have HF : Hid _ := hf
  clear hv hl hf
  have hzu := (zero_of_info zeroURL).1
  have hT : TU w.heap.size w ((w.alloc (.cells (uCells b) 25)).alloc (.cells (uCells Url.zero) 25)) b :=
    ⟨UAt.below (heap_alloc_last _ _) ((Below.refl _ _).alloc (Nat.le_refl _) _), alloc_two _ _ _, ((Below.refl _ w).alloc (Nat.le_refl _) _).alloc (by simp) _⟩
  obtain ⟨res, hres⟩ : ∃ res, Url.follow b ls = res := ⟨_, rfl⟩
  have HR : Hid (Url.follow b (ls.drop 0) = res) := by rw [List.drop_zero]; exact hres
  rw [hres]
  clear hres
  unfold uVal at hzu
  unfold uVal
  unfold uCells at hzu hT ⊢
  go_enter Tryz.func29, Tryz.ntmps29
  go_upto_region 1 with fail
  generalize (w.alloc (.cells #[.string (str b.sch), .string (str b.host), .int .i64 b.port, .string (str b.path), .string (str b.query), .string (str b.frag), .bool b.hq, .bool b.hf] 25)).alloc (.cells #[.string (str Url.zero.sch), .string (str Url.zero.host), .int .i64 Url.zero.port, .string (str Url.zero.path), .string (str Url.zero.query), .string (str Url.zero.frag), .bool Url.zero.hq, .bool Url.zero.hf] 25) = w0 at hT ⊢
  go_upto_region 2 with (first
    | ((with_reducible show wpList _ _ _ ({ dst := _, op := Op.load 25 (Operand.tmp 2), type := _, pos := _, after := _, guard := _ } :: _) _ _); refine wpList_load_Ug _ rfl (by rfl) (w.heap.size) b rfl hT.at_ ?_)
    | ((with_reducible show wpList _ _ _ ({ dst := _, op := Op.store 25 (Operand.tmp 6) _, type := _, pos := _, after := _, guard := _ } :: _) _ _); refine wpList_store_U _ _ rfl rfl _ b Url.zero rfl rfl (heap_alloc_last _ _) ?_; have hVb6 := setRow_U (v := b) (u := Url.zero) (heap_alloc_last w0 (.cells #[.string (str Url.zero.sch), .string (str Url.zero.host), .int .i64 Url.zero.port, .string (str Url.zero.path), .string (str Url.zero.query), .string (str Url.zero.frag), .bool Url.zero.hq, .bool Url.zero.hf] 25)); have hs0 := below_setRow ((Below.refl _ w0).alloc (Nat.le_refl _) (.cells #[.string (str Url.zero.sch), .string (str Url.zero.host), .int .i64 Url.zero.port, .string (str Url.zero.path), .string (str Url.zero.query), .string (str Url.zero.frag), .bool Url.zero.hq, .bool Url.zero.hf] 25)) (Nat.le_refl _) (uCells b); have hlb6 := hT.res.lt; replace hT := hT.step hs0; generalize World.setRow (World.alloc w0 (.cells #[.string (str Url.zero.sch), .string (str Url.zero.host), .int .i64 Url.zero.port, .string (str Url.zero.path), .string (str Url.zero.query), .string (str Url.zero.frag), .bool Url.zero.hq, .bool Url.zero.hf] 25)) (World.heap w0).size (uCells b) = w1 at hVb6 hT ⊢; generalize (World.heap w0).size = b6 at hVb6 hlb6 ⊢; clear hs0))
  have hU : RU w w1 b b6 b := ⟨hT, hVb6, hlb6⟩
  clear hT hVb6 hlb6
  go_wp2_with fail
  go_loopw [7] (fun i wr => ∃ (k : Nat) (cur : Url.U), k ≤ ls.length ∧ i = .int .i64 (k : Int) ∧ RU w wr b b6 cur ∧ Hid (Fair cur) ∧ Hid (Url.follow cur (ls.drop k) = res)) (fun i _ => ls.length - (intOf i).toNat)
  case atStart => exact ⟨0, b, Nat.zero_le _, rfl, hU, HF, HR⟩
  case round =>
    clear hU HR
    obtain ⟨k, cur, hk, rfl, hU, HF2, HR2⟩ := hrel
    by_cases hlt : k < ls.length
    · obtain ⟨t, ht⟩ : ∃ t, ls[k]? = some t := ⟨_, List.getElem?_eq_getElem hlt⟩
      obtain ⟨bt, ot, rfl, hcc, hbl, h1⟩ := ReadsTexts.at HV.out ht
      have H1 : Hid _ := h1
      have htl := HL.out t (List.mem_of_getElem? ht)
      have hfn := Url.follow_next (b := cur) ht
      rw [HR2.out] at hfn
      clear h1 ht HR2
      have jc : ∀ W : World, Calls Tryz.prog 22 #[uVal cur, .string (str t)] W fun e w' => e = .returned (.tuple #[uVal (Url.join cur t).2, .int .i64 (Url.join cur t).1]) ∧ Below W.heap.size W w' := fun W => RJoin5_any cur HF2.out.1 HF2.out.2 _ t W (Nat.le_refl _) (by omega)
      have hkl : (k : Int) < (ls.length : Int) := by omega
      have hk0 : (0 : Int) ≤ (k : Int) := by omega
      by_cases he : (Url.join cur t).1 = 0
      · have HF3 : Hid (Fair (Url.join cur t).2) := fair_join he
        rw [if_pos he] at hfn
        have HR3 : Hid _ := hfn.symm
        rw [he] at jc
        clear hfn he
        generalize (Url.join cur t).2 = x at *
        go_upto_region 5 with fail
        go_cut [8, 9] from 11 to 30 (fun s8 s9 w' => ∃ b9, s8 = Value.pointer (some ⟨b9, 0, none⟩) ∧ s9 = Value.int .i64 0 ∧ UAt w' b9 x ∧ RU w w' b b6 cur ∧ b6 < b9)
        case first =>
          obtain ⟨S, hS1⟩ : ∃ S : World → Prop, ∀ W, S W ↔ RU w W b b6 cur := ⟨_, fun _ => Iff.rfl⟩
          refine wp_region_held_drew (S := S) (by kernel_rfl) ((hS1 _).2 (hU.step ((Below.refl _ _).drew))) (fun hS => ?_)
          generalize World.drew wr = wd at hS ⊢
          refine takeH 0 18 (uVal (cur)) rfl rfl (by kernel_rfl) (by kernel_rfl) (by kernel_rfl) (fun _ _ _ h => h) (hy_load_U (Operand.tmp 6) rfl (by kernel_rfl) (b6) (cur) (by kernel_rfl) (fun W h => ((hS1 W).1 h).at_)) hS ?_
          simp only [Act.put, List.setIfInBounds_toArray, List.set_cons_zero, List.set_cons_succ]
          refine takeH 1 19 (.slice (some ⟨bt, ot, none⟩) ls.length c) rfl rfl (by kernel_rfl) (by kernel_rfl) (by kernel_rfl) (fun _ _ _ h => h) (Or.inl ⟨by kernel_rfl, fun W _ => by go_simp⟩) hS ?_
          simp only [Act.put, List.setIfInBounds_toArray, List.set_cons_zero, List.set_cons_succ]
          refine takeH 2 20 (.int .i64 (k : Int)) rfl rfl (by kernel_rfl) (by kernel_rfl) (by kernel_rfl) (fun _ _ _ h => h) (Or.inl ⟨by kernel_rfl, fun W _ => by go_simp⟩) hS ?_
          simp only [Act.put, List.setIfInBounds_toArray, List.set_cons_zero, List.set_cons_succ]
          refine takeH 3 21 (.pointer (some ⟨bt, ot + k, none⟩)) rfl rfl (by kernel_rfl) (by kernel_rfl) (by kernel_rfl) (fun _ _ _ h => h) (Or.inl ⟨by kernel_rfl, fun W _ => by go_simp⟩) hS ?_
          simp only [Act.put, List.setIfInBounds_toArray, List.set_cons_zero, List.set_cons_succ]
          refine takeH 4 22 (.string (str t)) rfl rfl (by kernel_rfl) (by kernel_rfl) (by kernel_rfl) (fun _ _ _ h => h) (Or.inl ⟨by kernel_rfl, fun W h => by have hcx : W.cell? ⟨bt, ot + k, none⟩ = some (.string (str t)) := (((hS1 W).1 h).tu.bel.cell (p := ⟨bt, ot + k, none⟩) hbl).trans H1.out; go_simp⟩) hS ?_
          simp only [Act.put, List.setIfInBounds_toArray, List.set_cons_zero, List.set_cons_succ]
          refine wpAnyH_ready (rs := [5, 9]) (by kernel_rfl) (by simp) ?_
          refine AllReadyH.cons rfl (fun K hK => ?_) (AllReadyH.cons rfl (fun K hK => ?_) AllReadyH.nil)
          · go_simp
            refine (jc _).mono ?_
            rintro e x1 ⟨rfl, hx1⟩
            refine hK.out _ _ ((hS1 _).2 (((hS1 _).1 hS).step hx1)) (fun hS => ?_)
            clear hK K
            refine takeH 6 17 (.tuple #[uVal x, .int .i64 0]) rfl rfl (by kernel_rfl) (by kernel_rfl) (by kernel_rfl) (fun _ _ _ h => h) (Or.inl ⟨by kernel_rfl, fun W _ => by go_simp⟩) hS ?_
            simp only [Act.put, List.setIfInBounds_toArray, List.set_cons_zero, List.set_cons_succ]
            refine takeH 7 24 (uVal x) rfl rfl (by kernel_rfl) (by kernel_rfl) (by kernel_rfl) (fun _ _ _ h => h) (Or.inl ⟨by kernel_rfl, fun W _ => by go_simp⟩) hS ?_
            simp only [Act.put, List.setIfInBounds_toArray, List.set_cons_zero, List.set_cons_succ]
            refine takeH 8 25 (.int .i64 0) rfl rfl (by kernel_rfl) (by kernel_rfl) (by kernel_rfl) (fun _ _ _ h => h) (Or.inl ⟨by kernel_rfl, fun W _ => by go_simp⟩) hS ?_
            simp only [Act.put, List.setIfInBounds_toArray, List.set_cons_zero, List.set_cons_succ]
            refine wpAnyH_ready (rs := [9]) (by kernel_rfl) (by simp) ?_
            refine AllReadyH.cons rfl (fun K hK => ?_) AllReadyH.nil
            go_simp
            have hZ : UAt (x1.alloc (.cells (uCells Url.zero) 25)) x1.heap.size Url.zero := heap_alloc_last _ _
            have hTz := ((hS1 _).1 hS).step (W' := x1.alloc (.cells (uCells Url.zero) 25)) ((Below.refl _ _).alloc (Nat.le_refl _) _)
            have hlt9 := ((hS1 _).1 hS).at_.lt
            unfold uCells at hZ hTz
            refine hK.out _ _ ((hS1 _).2 hTz) (fun hS => ?_)
            clear hK K
            generalize x1.alloc (.cells #[.string (str Url.zero.sch), .string (str Url.zero.host), .int .i64 Url.zero.port, .string (str Url.zero.path), .string (str Url.zero.query), .string (str Url.zero.frag), .bool Url.zero.hq, .bool Url.zero.hf] 25) = x3 at hZ hTz hS ⊢
            generalize x1.heap.size = b9 at hZ hlt9 ⊢
            refine anyH_store_U 10 (by kernel_rfl) rfl rfl (Operand.tmp 8) (Operand.tmp 24) rfl rfl b9 x Url.zero (by kernel_rfl) (by kernel_rfl) (hZ) ((hS1 _).2 (((hS1 _).1 hS).other hlt9 x)) (fun hS => ?_)
            refine takeH 11 9 (.int .i64 0) rfl rfl (by kernel_rfl) (by kernel_rfl) (by kernel_rfl) (fun _ _ _ h => h) (Or.inl ⟨by kernel_rfl, fun W _ => by go_simp⟩) hS ?_
            simp only [Act.put, List.setIfInBounds_toArray, List.set_cons_zero, List.set_cons_succ]
            refine wpAnyH_done (by kernel_rfl) ?_ _
            go_wp2
            go_meet
            case rel => exact ⟨b9, rfl, rfl, setRow_U (hZ), (hS1 _).1 hS, hlt9⟩
          · go_simp
            have hZ : UAt (wd.alloc (.cells (uCells Url.zero) 25)) wd.heap.size Url.zero := heap_alloc_last _ _
            have hTz := ((hS1 _).1 hS).step (W' := wd.alloc (.cells (uCells Url.zero) 25)) ((Below.refl _ _).alloc (Nat.le_refl _) _)
            have hlt9 := ((hS1 _).1 hS).at_.lt
            unfold uCells at hZ hTz
            refine hK.out _ _ ((hS1 _).2 hTz) (fun hS => ?_)
            clear hK K
            generalize wd.alloc (.cells #[.string (str Url.zero.sch), .string (str Url.zero.host), .int .i64 Url.zero.port, .string (str Url.zero.path), .string (str Url.zero.query), .string (str Url.zero.frag), .bool Url.zero.hq, .bool Url.zero.hf] 25) = x5 at hZ hTz hS ⊢
            generalize wd.heap.size = b9 at hZ hlt9 ⊢
            refine wpAnyH_ready (rs := [5]) (by kernel_rfl) (by simp) ?_
            refine AllReadyH.cons rfl (fun K hK => ?_) AllReadyH.nil
            go_simp
            refine (jc _).mono ?_
            rintro e x6 ⟨rfl, hx6⟩
            refine hK.out _ _ ((hS1 _).2 (((hS1 _).1 hS).step hx6)) (fun hS => ?_)
            clear hK K
            refine takeH 6 17 (.tuple #[uVal x, .int .i64 0]) rfl rfl (by kernel_rfl) (by kernel_rfl) (by kernel_rfl) (fun _ _ _ h => h) (Or.inl ⟨by kernel_rfl, fun W _ => by go_simp⟩) hS ?_
            simp only [Act.put, List.setIfInBounds_toArray, List.set_cons_zero, List.set_cons_succ]
            refine takeH 7 24 (uVal x) rfl rfl (by kernel_rfl) (by kernel_rfl) (by kernel_rfl) (fun _ _ _ h => h) (Or.inl ⟨by kernel_rfl, fun W _ => by go_simp⟩) hS ?_
            simp only [Act.put, List.setIfInBounds_toArray, List.set_cons_zero, List.set_cons_succ]
            refine takeH 8 25 (.int .i64 0) rfl rfl (by kernel_rfl) (by kernel_rfl) (by kernel_rfl) (fun _ _ _ h => h) (Or.inl ⟨by kernel_rfl, fun W _ => by go_simp⟩) hS ?_
            simp only [Act.put, List.setIfInBounds_toArray, List.set_cons_zero, List.set_cons_succ]
            refine anyH_store_U 10 (by kernel_rfl) rfl rfl (Operand.tmp 8) (Operand.tmp 24) rfl rfl b9 x Url.zero (by kernel_rfl) (by kernel_rfl) (hZ.below hx6) ((hS1 _).2 (((hS1 _).1 hS).other hlt9 x)) (fun hS => ?_)
            refine takeH 11 9 (.int .i64 0) rfl rfl (by kernel_rfl) (by kernel_rfl) (by kernel_rfl) (fun _ _ _ h => h) (Or.inl ⟨by kernel_rfl, fun W _ => by go_simp⟩) hS ?_
            simp only [Act.put, List.setIfInBounds_toArray, List.set_cons_zero, List.set_cons_succ]
            refine wpAnyH_done (by kernel_rfl) ?_ _
            go_wp2
            go_meet
            case rel => exact ⟨b9, rfl, rfl, setRow_U (hZ.below hx6), (hS1 _).1 hS, hlt9⟩
        case rest =>
          obtain ⟨b9, rfl, rfl, hV, hU2, hlt9⟩ := hcut
          clear hU
          go_wp2_with (first
            | ((with_reducible show wpList _ _ _ ({ dst := _, op := Op.load 25 (Operand.tmp 8), type := _, pos := _, after := _, guard := _ } :: _) _ _); refine wpList_load_Ug _ rfl (by rfl) (b9) x rfl hV ?_)
            | ((with_reducible show wpList _ _ _ ({ dst := _, op := Op.store 25 (Operand.tmp 6) _, type := _, pos := _, after := _, guard := _ } :: _) _ _); refine wpList_store_U _ _ rfl rfl b6 x cur rfl rfl hU2.at_ ?_; have hU3 := hU2.set x; generalize World.setRow wc b6 (uCells x) = w7 at hU3 ⊢))
          go_roundw
          case rel => exact ⟨k + 1, x, by omega, by go_num, hU3, HF3, HR3⟩
          case measure => simp [intOf]; omega
      · rw [if_neg he] at hfn
        have HR3 : Hid _ := hfn
        have hne : ((Url.join cur t).1 != 0) = true := by rw [bne_iff_ne]; exact he
        clear hfn he
        generalize (Url.join cur t).2 = x at *
        generalize (Url.join cur t).1 = pe at *
        go_upto_region 5 with fail
        go_cut [8, 9] from 11 to 30 (fun s8 s9 w' => ∃ b9, s8 = Value.pointer (some ⟨b9, 0, none⟩) ∧ s9 = Value.int .i64 pe ∧ UAt w' b9 x ∧ RU w w' b b6 cur ∧ b6 < b9)
        case first =>
          obtain ⟨S, hS1⟩ : ∃ S : World → Prop, ∀ W, S W ↔ RU w W b b6 cur := ⟨_, fun _ => Iff.rfl⟩
          refine wp_region_held_drew (S := S) (by kernel_rfl) ((hS1 _).2 (hU.step ((Below.refl _ _).drew))) (fun hS => ?_)
          generalize World.drew wr = wd at hS ⊢
          refine takeH 0 18 (uVal (cur)) rfl rfl (by kernel_rfl) (by kernel_rfl) (by kernel_rfl) (fun _ _ _ h => h) (hy_load_U (Operand.tmp 6) rfl (by kernel_rfl) (b6) (cur) (by kernel_rfl) (fun W h => ((hS1 W).1 h).at_)) hS ?_
          simp only [Act.put, List.setIfInBounds_toArray, List.set_cons_zero, List.set_cons_succ]
          refine takeH 1 19 (.slice (some ⟨bt, ot, none⟩) ls.length c) rfl rfl (by kernel_rfl) (by kernel_rfl) (by kernel_rfl) (fun _ _ _ h => h) (Or.inl ⟨by kernel_rfl, fun W _ => by go_simp⟩) hS ?_
          simp only [Act.put, List.setIfInBounds_toArray, List.set_cons_zero, List.set_cons_succ]
          refine takeH 2 20 (.int .i64 (k : Int)) rfl rfl (by kernel_rfl) (by kernel_rfl) (by kernel_rfl) (fun _ _ _ h => h) (Or.inl ⟨by kernel_rfl, fun W _ => by go_simp⟩) hS ?_
          simp only [Act.put, List.setIfInBounds_toArray, List.set_cons_zero, List.set_cons_succ]
          refine takeH 3 21 (.pointer (some ⟨bt, ot + k, none⟩)) rfl rfl (by kernel_rfl) (by kernel_rfl) (by kernel_rfl) (fun _ _ _ h => h) (Or.inl ⟨by kernel_rfl, fun W _ => by go_simp⟩) hS ?_
          simp only [Act.put, List.setIfInBounds_toArray, List.set_cons_zero, List.set_cons_succ]
          refine takeH 4 22 (.string (str t)) rfl rfl (by kernel_rfl) (by kernel_rfl) (by kernel_rfl) (fun _ _ _ h => h) (Or.inl ⟨by kernel_rfl, fun W h => by have hcx : W.cell? ⟨bt, ot + k, none⟩ = some (.string (str t)) := (((hS1 W).1 h).tu.bel.cell (p := ⟨bt, ot + k, none⟩) hbl).trans H1.out; go_simp⟩) hS ?_
          simp only [Act.put, List.setIfInBounds_toArray, List.set_cons_zero, List.set_cons_succ]
          refine wpAnyH_ready (rs := [5, 9]) (by kernel_rfl) (by simp) ?_
          refine AllReadyH.cons rfl (fun K hK => ?_) (AllReadyH.cons rfl (fun K hK => ?_) AllReadyH.nil)
          · go_simp
            refine (jc _).mono ?_
            rintro e x1 ⟨rfl, hx1⟩
            refine hK.out _ _ ((hS1 _).2 (((hS1 _).1 hS).step hx1)) (fun hS => ?_)
            clear hK K
            refine takeH 6 17 (.tuple #[uVal x, .int .i64 pe]) rfl rfl (by kernel_rfl) (by kernel_rfl) (by kernel_rfl) (fun _ _ _ h => h) (Or.inl ⟨by kernel_rfl, fun W _ => by go_simp⟩) hS ?_
            simp only [Act.put, List.setIfInBounds_toArray, List.set_cons_zero, List.set_cons_succ]
            refine takeH 7 24 (uVal x) rfl rfl (by kernel_rfl) (by kernel_rfl) (by kernel_rfl) (fun _ _ _ h => h) (Or.inl ⟨by kernel_rfl, fun W _ => by go_simp⟩) hS ?_
            simp only [Act.put, List.setIfInBounds_toArray, List.set_cons_zero, List.set_cons_succ]
            refine takeH 8 25 (.int .i64 pe) rfl rfl (by kernel_rfl) (by kernel_rfl) (by kernel_rfl) (fun _ _ _ h => h) (Or.inl ⟨by kernel_rfl, fun W _ => by go_simp⟩) hS ?_
            simp only [Act.put, List.setIfInBounds_toArray, List.set_cons_zero, List.set_cons_succ]
            refine wpAnyH_ready (rs := [9]) (by kernel_rfl) (by simp) ?_
            refine AllReadyH.cons rfl (fun K hK => ?_) AllReadyH.nil
            go_simp
            have hZ : UAt (x1.alloc (.cells (uCells Url.zero) 25)) x1.heap.size Url.zero := heap_alloc_last _ _
            have hTz := ((hS1 _).1 hS).step (W' := x1.alloc (.cells (uCells Url.zero) 25)) ((Below.refl _ _).alloc (Nat.le_refl _) _)
            have hlt9 := ((hS1 _).1 hS).at_.lt
            unfold uCells at hZ hTz
            refine hK.out _ _ ((hS1 _).2 hTz) (fun hS => ?_)
            clear hK K
            generalize x1.alloc (.cells #[.string (str Url.zero.sch), .string (str Url.zero.host), .int .i64 Url.zero.port, .string (str Url.zero.path), .string (str Url.zero.query), .string (str Url.zero.frag), .bool Url.zero.hq, .bool Url.zero.hf] 25) = x3 at hZ hTz hS ⊢
            generalize x1.heap.size = b9 at hZ hlt9 ⊢
            refine anyH_store_U 10 (by kernel_rfl) rfl rfl (Operand.tmp 8) (Operand.tmp 24) rfl rfl b9 x Url.zero (by kernel_rfl) (by kernel_rfl) (hZ) ((hS1 _).2 (((hS1 _).1 hS).other hlt9 x)) (fun hS => ?_)
            refine takeH 11 9 (.int .i64 pe) rfl rfl (by kernel_rfl) (by kernel_rfl) (by kernel_rfl) (fun _ _ _ h => h) (Or.inl ⟨by kernel_rfl, fun W _ => by go_simp⟩) hS ?_
            simp only [Act.put, List.setIfInBounds_toArray, List.set_cons_zero, List.set_cons_succ]
            refine wpAnyH_done (by kernel_rfl) ?_ _
            go_wp2
            go_meet
            case rel => exact ⟨b9, rfl, rfl, setRow_U (hZ), (hS1 _).1 hS, hlt9⟩
          · go_simp
            have hZ : UAt (wd.alloc (.cells (uCells Url.zero) 25)) wd.heap.size Url.zero := heap_alloc_last _ _
            have hTz := ((hS1 _).1 hS).step (W' := wd.alloc (.cells (uCells Url.zero) 25)) ((Below.refl _ _).alloc (Nat.le_refl _) _)
            have hlt9 := ((hS1 _).1 hS).at_.lt
            unfold uCells at hZ hTz
            refine hK.out _ _ ((hS1 _).2 hTz) (fun hS => ?_)
            clear hK K
            generalize wd.alloc (.cells #[.string (str Url.zero.sch), .string (str Url.zero.host), .int .i64 Url.zero.port, .string (str Url.zero.path), .string (str Url.zero.query), .string (str Url.zero.frag), .bool Url.zero.hq, .bool Url.zero.hf] 25) = x5 at hZ hTz hS ⊢
            generalize wd.heap.size = b9 at hZ hlt9 ⊢
            refine wpAnyH_ready (rs := [5]) (by kernel_rfl) (by simp) ?_
            refine AllReadyH.cons rfl (fun K hK => ?_) AllReadyH.nil
            go_simp
            refine (jc _).mono ?_
            rintro e x6 ⟨rfl, hx6⟩
            refine hK.out _ _ ((hS1 _).2 (((hS1 _).1 hS).step hx6)) (fun hS => ?_)
            clear hK K
            refine takeH 6 17 (.tuple #[uVal x, .int .i64 pe]) rfl rfl (by kernel_rfl) (by kernel_rfl) (by kernel_rfl) (fun _ _ _ h => h) (Or.inl ⟨by kernel_rfl, fun W _ => by go_simp⟩) hS ?_
            simp only [Act.put, List.setIfInBounds_toArray, List.set_cons_zero, List.set_cons_succ]
            refine takeH 7 24 (uVal x) rfl rfl (by kernel_rfl) (by kernel_rfl) (by kernel_rfl) (fun _ _ _ h => h) (Or.inl ⟨by kernel_rfl, fun W _ => by go_simp⟩) hS ?_
            simp only [Act.put, List.setIfInBounds_toArray, List.set_cons_zero, List.set_cons_succ]
            refine takeH 8 25 (.int .i64 pe) rfl rfl (by kernel_rfl) (by kernel_rfl) (by kernel_rfl) (fun _ _ _ h => h) (Or.inl ⟨by kernel_rfl, fun W _ => by go_simp⟩) hS ?_
            simp only [Act.put, List.setIfInBounds_toArray, List.set_cons_zero, List.set_cons_succ]
            refine anyH_store_U 10 (by kernel_rfl) rfl rfl (Operand.tmp 8) (Operand.tmp 24) rfl rfl b9 x Url.zero (by kernel_rfl) (by kernel_rfl) (hZ.below hx6) ((hS1 _).2 (((hS1 _).1 hS).other hlt9 x)) (fun hS => ?_)
            refine takeH 11 9 (.int .i64 pe) rfl rfl (by kernel_rfl) (by kernel_rfl) (by kernel_rfl) (fun _ _ _ h => h) (Or.inl ⟨by kernel_rfl, fun W _ => by go_simp⟩) hS ?_
            simp only [Act.put, List.setIfInBounds_toArray, List.set_cons_zero, List.set_cons_succ]
            refine wpAnyH_done (by kernel_rfl) ?_ _
            go_wp2
            go_meet
            case rel => exact ⟨b9, rfl, rfl, setRow_U (hZ.below hx6), (hS1 _).1 hS, hlt9⟩
        case rest =>
          obtain ⟨b9, rfl, rfl, hV, hU2, hlt9⟩ := hcut
          go_wp2_with (first
            | ((with_reducible show wpList _ _ _ ({ dst := _, op := Op.store 25 (Operand.tmp 4) _, type := _, pos := _, after := _, guard := _ } :: _) _ _); refine wpList_store_U _ _ rfl rfl (w.heap.size + 1) Url.zero Url.zero rfl rfl hU2.tu.res ?_))
          refine ret_U2 (u := Url.zero) rfl rfl rfl rfl (setRow_U hU2.tu.res) ⟨?_, below_setRow hU2.tu.bel (by omega) _⟩
          rw [HR3.out]
          rfl
    · have hk2 : k = ls.length := by omega
      have HR3 : Hid (res = (0, cur)) := by
        show _ = _
        rw [← HR2.out, List.drop_of_length_le (by omega)]
        rfl
      clear HR2
      go_wp2_with (first
        | ((with_reducible show wpList _ _ _ ({ dst := _, op := Op.load 25 (Operand.tmp 6), type := _, pos := _, after := _, guard := _ } :: _) _ _); refine wpList_load_Ug _ rfl (by rfl) (b6) cur rfl hU.at_ ?_)
        | ((with_reducible show wpList _ _ _ ({ dst := _, op := Op.store 25 (Operand.tmp 4) _, type := _, pos := _, after := _, guard := _ } :: _) _ _); refine wpList_store_U _ _ rfl rfl (w.heap.size + 1) cur Url.zero rfl rfl hU.tu.res ?_))
      refine ret_U2 (u := cur) rfl rfl rfl rfl (setRow_U hU.tu.res) ⟨?_, below_setRow hU.tu.bel (by omega) _⟩
      rw [HR3.out]
      rfl
end Go.Proofs.YtnmkhbelmdokmaaGreatDoor
/- What a law's walk is told of a slice of texts that came in (over Base). -/
namespace Go.Proofs.YtnmkhbelmdokmaaGreatDoor
open Go.RowKit Go.ChangeShapes
theorem reach_str {s : ByteArray} (h : s.data.toList.length ≤ reachBytes) : s.size ≤ 140737488351232 := by
  rw [size_data]
  exact h
/-- A slice of texts that came in: it reads as these texts, within the form's reach. -/
def ArgTexts (w : World) (a : Option Addr) (len cap : Nat) (ts : List (List UInt8)) : Prop :=
  len = ts.length ∧ len ≤ cap ∧ len ≤ maxLen ∧ ReadsTexts w (.slice a len cap) ts ∧ ∀ t ∈ ts, t.length ≤ 140737488351232
theorem weights_strs {H : Type} (P : Program) (e : TypeId) (ss : List ByteArray) (s : ByteArray) (h : s ∈ ss) : s.data.toList.length ∈ DataW.weightsAll (H := H) P e (Go.ChangeShapes.strs ss) := by
  induction ss with
  | nil => cases h
  | cons x r ih =>
    unfold Go.ChangeShapes.strs at *
    rw [List.map_cons, DataW.weightsAll, List.mem_append]
    rcases List.mem_cons.1 h with rfl | h
    · left
      simp [DataW.weights]
    · exact .inr (ih h)
theorem arg_texts {H : Type} {enc : TypeId × Value → H} {W : World} {a : Option Addr} {len cap : Nat} {d : DataW H} {ps : List MemPlace} {base : Nat} {sp : Nat → Bool} {held : Bool}
    (h : DataW.Trod enc Tryz.prog W base sp held 39 (.slice a len cap) d ps) (hw : ∀ n ∈ d.weights Tryz.prog 39, n ≤ reachBytes) : ∃ ts, ArgTexts W a len cap ts := by
  obtain ⟨fuel, hf⟩ := h
  rcases open_strings Tryz.underlying39 Tryz.underlying9 (by kernel_rfl) hf with ⟨hcs, _⟩ | ⟨x, l, c, ss, hcs, _, hl, hm, hz, hx, hcell, _⟩
  · simp [Value.cells] at hcs
    obtain ⟨rfl, rfl, rfl⟩ := hcs
    exact ⟨[], rfl, Nat.le_refl _, Nat.zero_le _, .inl ⟨_, _, rfl, rfl⟩, by simp⟩
  · simp [Value.cells] at hcs
    obtain ⟨rfl, rfl, rfl⟩ := hcs
    have hlen : len ≤ ss.length := by rw [hz]; split <;> omega
    have htl : ((ss.take len).map (·.data.toList)).length = len := by rw [List.length_map, List.length_take]; omega
    refine ⟨(ss.take len).map (·.data.toList), htl.symm, hl, by omega, ?_, ?_⟩
    · by_cases h0 : len = 0
      · subst h0
        exact .inl ⟨_, _, rfl, rfl⟩
      · obtain ⟨b, off, spot⟩ := x
        have hspot : spot = none := by simpa [Addr.add] using World.cell?_spot (hcell 0 (by omega))
        subst hspot
        refine .inr ⟨b, off, cap, by rw [htl], by rw [htl]; exact hl, fun j t hj => ?_⟩
        rw [List.getElem?_map] at hj
        have hjl : j < len := by
          rcases Nat.lt_or_ge j len with h | h
          · exact h
          · rw [List.getElem?_eq_none (by rw [List.length_take]; omega)] at hj
            cases hj
        rw [List.getElem?_take, if_pos hjl, List.getElem?_eq_getElem (show j < ss.length by omega)] at hj
        simp only [Option.map_some, Option.some.injEq] at hj
        subst hj
        have := hcell j (by omega)
        rw [Go.WideShapes.add_plain] at this
        rw [this, strV_data, List.getD_eq_getElem?_getD, List.getElem?_eq_getElem (show j < ss.length by omega)]
        rfl
    · intro t ht
      obtain ⟨s, hs, rfl⟩ := List.mem_map.1 ht
      have hd : d = .slice (Go.ChangeShapes.strs (ss.take len)) (Go.ChangeShapes.strs (ss.drop len)) := congrArg Prod.fst hx
      subst hd
      apply hw
      simp only [DataW.weights, Tryz.underlying39, List.mem_cons, List.mem_append]
      exact .inr (.inl (weights_strs _ _ _ _ hs))
end Go.Proofs.YtnmkhbelmdokmaaGreatDoor
