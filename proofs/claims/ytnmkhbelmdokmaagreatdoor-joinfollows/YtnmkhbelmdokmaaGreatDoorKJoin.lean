/- Texts laid as one. -/
import Derived.Test.YtnmkhbelmdokmaaGreatDoorKUrlB
import Derived.Test.YtnmkhbelmdokmaaGreatDoorKMath
import Derived.Test.YtnmkhbelmdokmaaGreatDoorKRefE
import Derived.Deep.CutBlock
import Derived.Test.YtnmkhbelmdokmaaGreatDoorKRefD
/- Contracts of package join's small functions: slashes ahead, signs of a scheme, a scheme cut off, the last slash. -/
namespace Go.Proofs.YtnmkhbelmdokmaaGreatDoor
open Go.RowKit
theorem contains_slash : ([47, 92] : List UInt8).contains = Url.slash := by
  funext c
  rw [Bool.eq_iff_iff]
  simp [Url.slash]
set_option maxHeartbeats 1000000 in
theorem slashesAhead_any (l : List UInt8) (w : World) (hz : l.length ≤ 1000000000) :
    Calls Tryz.prog 47 #[.string (str l)] w fun e w' => e = .returned (.int .i64 (Url.nsl l : Nat)) ∧ Below w.heap.size w w' := by
  have call : ∀ W : World, Calls Tryz.prog 78 #[.string (str l), .string ⟨#[47, 92]⟩] W fun r w' => r = .returned (.string (str (Url.unsl l))) ∧ Below W.heap.size W w' := by
    intro W
    have := TrimLeft_any l [47, 92] W (by decide) (by decide) (by decide)
    rw [contains_slash] at this
    exact this
  have hle := Url.unsl_le l
  have HN : Hid (Url.nsl l = l.length - (Url.unsl l).length) := rfl
  generalize Url.unsl l = r at call hle HN
  generalize Url.nsl l = n at HN ⊢
  have hs1 := str_size l
  have hs2 := str_size r
  go_enter Tryz.func47, Tryz.ntmps47
  go_wp2_with (go_at_call 78; refine (call _).mono ?_; rintro e w1 ⟨rfl, hb1⟩)
  go_ret
  refine ⟨?_, hb1⟩
  show Ending.returned (.int .i64 ((l.length : Int) - (r.length : Int))) = _
  rw [HN.out]
  congr 2
  omega
theorem at_last (l : List UInt8) (k : Nat) (h : k < l.length) (h0 : k < (str (l.take (k + 1))).size) : (str (l.take (k + 1)))[k]'h0 = l[k] := by
  have e : (str (l.take (k + 1)))[k]'h0 = (l.take (k + 1))[k]'(by rw [← str_size]; exact h0) := rfl
  rw [e, List.getElem_take]
theorem rev_next (l : List UInt8) (k : Nat) (h : k < l.length) (cs : List UInt8) (hx : cs.contains l[k] = true) : ((l.take (k + 1)).reverse.dropWhile cs.contains).reverse = ((l.take k).reverse.dropWhile cs.contains).reverse := by
  rw [← List.take_append_getElem h, List.reverse_append]
  show ((l[k] :: (l.take k).reverse).dropWhile cs.contains).reverse = _
  rw [List.dropWhile_cons_of_pos hx]
theorem rev_stop (l : List UInt8) (k : Nat) (h : k < l.length) (cs : List UInt8) (hx : cs.contains l[k] = false) : ((l.take (k + 1)).reverse.dropWhile cs.contains).reverse = l.take (k + 1) := by
  have e : (l.take (k + 1)).reverse = l[k] :: (l.take k).reverse := by
    rw [← List.take_append_getElem h, List.reverse_append]
    rfl
  rw [e, List.dropWhile_cons_of_neg (by rw [hx]; decide), ← e, List.reverse_reverse]
set_option maxHeartbeats 1000000 in
theorem trimRightASCII_any (l cs : List UInt8) (b : Nat) (w : World) (hz : l.length ≤ 1000000000) (hb : w.heap[b]? = some (.cells (Lib.setCells cs) 101 (0, 0))) :
    Calls Tryz.prog 144 #[.string (str l), .pointer (some ⟨b, 0, none⟩)] w fun e w' => e = .returned (.string (str ((l.reverse.dropWhile cs.contains).reverse))) ∧ w' = w := by
  go_enter Tryz.func144, Tryz.ntmps144
  go_wp2
  go_loopw [0] (fun s wr => ∃ k : Nat, k ≤ l.length ∧ s = .string (str (l.take k)) ∧ Hid ((l.reverse.dropWhile cs.contains).reverse = ((l.take k).reverse.dropWhile cs.contains).reverse) ∧ wr = w) (fun s _ => match s with | .string x => x.size | _ => 0)
  case atStart => exact ⟨l.length, Nat.le_refl _, by rw [List.take_length], by rw [List.take_length]; rfl, rfl⟩
  case round =>
    obtain ⟨k, hk, rfl, HE, rfl⟩ := hrel
    cases k with
    | zero =>
      have hsz : (str (l.take 0)).size = 0 := by rw [str_size]; simp
      go_wp2
      go_ret
      exact ⟨by rw [HE.out]; rfl, rfl⟩
    | succ k =>
      have hlt : k < l.length := hk
      have hsz : (str (l.take (k + 1))).size = k + 1 := by rw [str_size, List.length_take]; omega
      have h0 : k < (str (l.take (k + 1))).size := by omega
      have hp : (0 : Int) < ((k + 1 : Nat) : Int) := by omega
      have hm : ((k + 1 : Nat) : Int) - 1 = (k : Int) := by omega
      have ha := at_last l k hlt h0
      have hext : (str (l.take (k + 1))).extract 0 k = str (l.take k) := by
        rw [str_to, List.take_take]
        congr 2
        omega
      cases hx : cs.contains l[k]
      · have hc := set_cell cs hb l[k]
        rw [hx] at hc
        have HN2 : Hid _ := rev_stop l k hlt cs hx
        clear hx
        generalize l[k] = x at ha hc
        go_wp2_with (go_at_call 122; refine (Tryz.asciiSet_contains b x _ _ hc).mono ?_; rintro e w1 ⟨rfl, hw1⟩; rw [hw1]; clear hw1)
        go_ret
        exact ⟨by rw [HE.out, HN2.out]; rfl, rfl⟩
      · have hc := set_cell cs hb l[k]
        rw [hx] at hc
        have HN2 : Hid _ := rev_next l k hlt cs hx
        clear hx
        generalize l[k] = x at ha hc
        go_wp2_with (go_at_call 122; refine (Tryz.asciiSet_contains b x _ _ hc).mono ?_; rintro e w1 ⟨rfl, hw1⟩; rw [hw1]; clear hw1)
        go_roundw
        case rel => exact ⟨k, by omega, rfl, HE.out.trans HN2.out, trivial⟩
        case measure => simp only [hsz, str_size, List.length_take]; omega
set_option maxHeartbeats 1000000 in
set_option maxRecDepth 100000 in
theorem Trim_any (l cs : List UInt8) (w : World) (h2 : 2 ≤ cs.length) (hl : cs.length ≤ 1000) (hc : ∀ c ∈ cs, c.toNat < 128) (hz : l.length ≤ 1000000000) (hn : l ≠ []) :
    Calls Tryz.prog 108 #[.string (str l), .string (str cs)] w fun e w' => e = .returned (.string (str (Url.trimmed cs l))) ∧ Below w.heap.size w w' := by
  have hsc := str_size cs
  have hemp : (str cs).toList.isEmpty = false := by
    rw [str_list]
    cases cs with
    | nil => simp at h2
    | cons => rfl
  have hn1 : ((cs.length : Int) == 1) = false := beq_eq_false_iff_ne.2 (by omega)
  have hzs := zeroSet
  have he : (str l).toList.isEmpty = false := by
    rw [str_list]
    cases l with
    | nil => exact absurd rfl hn
    | cons => rfl
  have HT : Hid (Url.trimmed cs l = ((l.reverse.dropWhile cs.contains).reverse).dropWhile cs.contains) := rfl
  have hb0 : Below w.heap.size w ((w.alloc (.cells (Array.replicate 256 (.bool false)) 101)).alloc (.cells (Array.replicate 256 (.bool false)) 101)) := ((Below.refl _ w).alloc (Nat.le_refl _) _).alloc (by simp) _
  go_enter Tryz.func108, Tryz.ntmps108
  go_wp2_with (first
    | (go_at_call 110; refine (Tryz.strings_makeASCIISet zeroSet (str cs) _ (by rw [str_size]; omega) (low_at cs hc)).mono ?_; rintro e w1 ⟨rfl, hw1⟩; rw [str_data] at hw1 ⊢; rw [hw1]; clear hw1)
    | (refine wpList_store_set _ _ rfl rfl _ _ cs (by simp) rfl rfl (alloc_two _ _ _) ?_)
    | (go_at_call 144; refine (trimRightASCII_any l cs _ _ hz (setRow_new (alloc_two _ _ _))).mono ?_; rintro e w2 ⟨rfl, rfl⟩)
    | (go_at_call 111; refine (trimLeftASCII_any _ cs _ _ (setRow_new (alloc_two _ _ _))).mono ?_; rintro e w3 ⟨rfl, rfl⟩))
  go_ret
  exact ⟨by rw [HT.out]; rfl, below_setRow (((Below.refl _ w).alloc (Nat.le_refl _) _).alloc (by simp) _) (by simp) _⟩
theorem str_first (c : UInt8) (t : List UInt8) : ∀ h : 0 < (str (c :: t)).size, (str (c :: t))[0]'h = c := fun _ => rfl
theorem IsLetter_str (c : UInt8) (w : World) : Calls Tryz.prog 88 #[.int .u8 c.toNat] w fun e w' => e = .returned (.bool (Url.isLet c)) ∧ w' = w := IsLetter_b c w
theorem signs_low : ∀ c ∈ Url.signs, c.toNat < 128 := by decide
set_option maxHeartbeats 1000000 in
set_option maxRecDepth 100000 in
theorem isScheme5_any (l : List UInt8) (w : World) (hz : l.length ≤ 1000000000) :
    Calls Tryz.prog 77 #[.string (str (Asc.lower l))] w fun e w' => e = .returned (.bool (Url.isScheme (Asc.lower l))) ∧ Below w.heap.size w w' := by
  have hal := Url.all_signs l
  have hll : (Asc.lower l).length ≤ 1000000000 := by rw [lower_len']; exact hz
  generalize Asc.lower l = s at hal hll ⊢
  cases s with
  | nil =>
    have he := empty_is (l := []) rfl
    go_enter Tryz.func77, Tryz.ntmps77
    go_wp2
    go_ret
    exact ⟨rfl, Below.refl _ _⟩
  | cons c t =>
    have he := empty_isnt (l := c :: t) (by simp)
    have hat := str_first c t
    have hsz : (str (c :: t)).size = t.length + 1 := str_size _
    have HS : Hid (Url.isScheme (c :: t) = ((c :: t).all Url.schB && Url.isLet c)) := rfl
    have trc : ∀ W : World, Calls Tryz.prog 108 #[.string (str (c :: t)), .string (str Url.signs)] W fun e w' => e = .returned (.string (str (Url.trimmed Url.signs (c :: t)))) ∧ Below W.heap.size W w' := fun W => Trim_any _ _ W (by decide) (by decide) signs_low hll (by simp)
    have hnil := Url.trimmed_nil Url.signs (c :: t)
    rw [hal] at hnil
    cases hl : Url.isLet c
    · have HS2 : Hid (Url.isScheme (c :: t) = false) := by
        show _ = _
        rw [HS.out, hl, Bool.and_false]
      clear hnil HS
      generalize Url.isScheme (c :: t) = b at HS2 ⊢
      go_enter Tryz.func77, Tryz.ntmps77
      go_wp2_with (go_at_call 88; refine (IsLetter_b c _).mono ?_; rintro e w1 ⟨rfl, hw1⟩; rw [hw1, hl]; clear hw1)
      go_ret
      exact ⟨by rw [HS2.out]; rfl, Below.refl _ _⟩
    · have HS2 : Hid (Url.isScheme (c :: t) = (c :: t).all Url.schB) := by
        show _ = _
        rw [HS.out, hl, Bool.and_true]
      clear HS
      generalize Url.isScheme (c :: t) = b at HS2 ⊢
      generalize (c :: t).all Url.schB = d at HS2 hnil
      generalize Url.trimmed Url.signs (c :: t) = r at trc hnil
      cases d
      · have he2 : (str r).toList.isEmpty = false := empty_isnt (fun h => by cases hnil.1 h)
        clear hnil
        go_enter Tryz.func77, Tryz.ntmps77
        go_wp2_with (first
          | (go_at_call 88; refine (IsLetter_b c _).mono ?_; rintro e w1 ⟨rfl, hw1⟩; rw [hw1, hl]; clear hw1)
          | (go_at_call 108; refine (trc _).mono ?_; rintro e w2 ⟨rfl, hb2⟩))
        go_ret
        exact ⟨by rw [HS2.out]; rfl, hb2⟩
      · have he2 : (str r).toList.isEmpty = true := empty_is (hnil.2 rfl)
        clear hnil
        go_enter Tryz.func77, Tryz.ntmps77
        go_wp2_with (first
          | (go_at_call 88; refine (IsLetter_b c _).mono ?_; rintro e w1 ⟨rfl, hw1⟩; rw [hw1, hl]; clear hw1)
          | (go_at_call 108; refine (trc _).mono ?_; rintro e w2 ⟨rfl, hb2⟩))
        go_ret
        exact ⟨by rw [HS2.out]; rfl, hb2⟩
def cutR (c : List UInt8) : Value := if Url.hasSch c = true then .tuple #[.string (str (Url.sch c)), .string (str (Url.schR c)), .bool true] else .tuple #[.string ⟨#[]⟩, .string ⟨#[]⟩, .bool false]
set_option maxHeartbeats 1000000 in
set_option maxRecDepth 100000 in
theorem cutScheme_any (c : List UInt8) (w : World) (hE : Env w) (hz : c.length ≤ 1000000000) :
    Calls Tryz.prog 46 #[.string (str c)] w fun e w' => e = .returned (cutR c) ∧ Below w.heap.size w w' := by
  have cutc : ∀ W : World, Env W → Calls Tryz.prog 63 #[.string (str c), .string ⟨#[58]⟩] W fun e w' => e = .returned (.tuple #[.string (str (Url.upto [58] c)), .string (str (Url.schR c)), .bool (Url.hasB 58 (Url.rest [58] c))]) ∧ Below W.heap.size W w' := fun W h => Cut_colon c W h.max hz
  have hul := Url.upto_len [58] c
  have lowc : ∀ W : World, Calls Tryz.prog 57 #[.string (str (Url.upto [58] c))] W fun e w' => e = .returned (.string (str (Asc.lower (Url.upto [58] c)))) ∧ Below W.heap.size W w' := fun W => Lower_str _ W (by omega)
  have isc : ∀ W : World, Calls Tryz.prog 77 #[.string (str (Asc.lower (Url.upto [58] c)))] W fun e w' => e = .returned (.bool (Url.isScheme (Asc.lower (Url.upto [58] c)))) ∧ Below W.heap.size W w' := fun W => isScheme5_any _ W (by omega)
  have HR : Hid (cutR c = if (Url.hasB 58 (Url.rest [58] c) && Url.isScheme (Asc.lower (Url.upto [58] c))) = true then .tuple #[.string (str (Asc.lower (Url.upto [58] c))), .string (str (Url.schR c)), .bool true] else .tuple #[.string ⟨#[]⟩, .string ⟨#[]⟩, .bool false]) := rfl
  generalize cutR c = v at HR ⊢
  generalize Asc.lower (Url.upto [58] c) = s at lowc isc HR
  generalize Url.upto [58] c = a at cutc lowc
  generalize Url.schR c = r at cutc HR
  generalize Url.hasB 58 (Url.rest [58] c) = h1 at cutc HR
  generalize Url.isScheme s = h2 at isc HR
  cases h1
  · replace HR : Hid _ := HR.out.trans (if_neg (by simp))
    go_enter Tryz.func46, Tryz.ntmps46
    go_wp2_with (first
      | (go_at_call 63; refine (cutc _ hE).mono ?_; rintro e w1 ⟨rfl, hb1⟩)
      | (go_at_call 57; refine (lowc _).mono ?_; rintro e w2 ⟨rfl, hb2⟩))
    go_ret3
    exact ⟨by rw [HR.out]; rfl, bel hb1 hb2⟩
  · cases h2
    · replace HR : Hid _ := HR.out.trans (if_neg (by simp))
      go_enter Tryz.func46, Tryz.ntmps46
      go_wp2_with (first
        | (go_at_call 63; refine (cutc _ hE).mono ?_; rintro e w1 ⟨rfl, hb1⟩)
        | (go_at_call 57; refine (lowc _).mono ?_; rintro e w2 ⟨rfl, hb2⟩)
        | (go_at_call 77; refine (isc _).mono ?_; rintro e w3 ⟨rfl, hb3⟩))
      go_ret3
      exact ⟨by rw [HR.out]; rfl, bel (bel hb1 hb2) hb3⟩
    · replace HR : Hid _ := HR.out.trans (if_pos rfl)
      go_enter Tryz.func46, Tryz.ntmps46
      go_wp2_with (first
        | (go_at_call 63; refine (cutc _ hE).mono ?_; rintro e w1 ⟨rfl, hb1⟩)
        | (go_at_call 57; refine (lowc _).mono ?_; rintro e w2 ⟨rfl, hb2⟩)
        | (go_at_call 77; refine (isc _).mono ?_; rintro e w3 ⟨rfl, hb3⟩))
      go_ret3
      exact ⟨by rw [HR.out]; rfl, bel (bel hb1 hb2) hb3⟩
set_option maxHeartbeats 1000000 in
theorem lastByte_any (p : List UInt8) (w : World) (hz : p.length ≤ 1000000000) :
    Calls Tryz.prog 113 #[.string (str p), .int .u8 47] w fun e w' => e = .returned (.int .i64 (((Url.dirOf p).length : Int) - 1)) ∧ w' = w := by
  have hsz := str_size p
  go_enter Tryz.func113, Tryz.ntmps113
  go_wp2
  go_loop [5] (fun i => ∃ k : Nat, k ≤ p.length ∧ i = .int .i64 ((k : Int) - 1) ∧ Hid (Url.dirOf p = Url.dirOf (p.take k))) (fun i => ((intOf i) + 1).toNat)
  case atStart => exact ⟨p.length, Nat.le_refl _, rfl, by rw [List.take_length]; rfl⟩
  case round =>
    obtain ⟨k, hk, rfl, HD⟩ := hrel
    cases k with
    | zero =>
      go_wp2
      go_ret
      exact ⟨by rw [HD.out]; rfl, rfl⟩
    | succ k =>
      have hlt : k < p.length := hk
      have e1 : ((k + 1 : Nat) : Int) - 1 = (k : Int) := by omega
      rw [e1]
      have hg : (str p)[k]'(by rw [str_size]; exact hlt) = p[k] := rfl
      by_cases hx : p[k] = 47
      · have hx2 : ((p[k].toNat : Int) == 47) = true := by rw [hx]; rfl
        have HD2 : Hid _ := HD.out.trans (Url.dirOf_hit p k hlt hx)
        have hl2 : (p.take (k + 1)).length = k + 1 := by rw [List.length_take]; omega
        clear hx
        go_wp2
        go_ret
        refine ⟨?_, rfl⟩
        rw [HD2.out, hl2, e1]
        rfl
      · have hx2 : ((p[k].toNat : Int) == 47) = false := beq_eq_false_iff_ne.2 (fun h => hx (UInt8.toNat_inj.1 (by show _ = 47; omega)))
        have HD2 : Hid _ := HD.out.trans (Url.dirOf_miss p k hlt hx)
        clear hx
        go_wp2
        go_round
        case rel => exact ⟨k, by omega, by go_num, HD2⟩
        case measure => simp [intOf]
theorem lastSlash_any (p : List UInt8) (w : World) (hz : p.length ≤ 1000000000) :
    Calls Tryz.prog 79 #[.string (str p), .int .u8 47] w fun e w' => e = .returned (.int .i64 (((Url.dirOf p).length : Int) - 1)) ∧ w' = w := by
  go_enter Tryz.func79, Tryz.ntmps79
  go_wp2_with (go_at_call 113; refine (lastByte_any p _ hz).mono ?_; rintro e w1 ⟨rfl, rfl⟩)
  go_ret
  exact ⟨rfl, rfl⟩
end Go.Proofs.YtnmkhbelmdokmaaGreatDoor
/- Contracts of package join's Key and kept. -/
namespace Go.Proofs.YtnmkhbelmdokmaaGreatDoor
open Go.RowKit
theorem bare_fits {u : Url.U} (h : Fits u) : Fits (Url.bare u) := ⟨h.1, h.2.1, h.2.2.1, h.2.2.2.1, Nat.zero_le _, h.2.2.2.2.2.1, h.2.2.2.2.2.2⟩
theorem good_fits {u : Url.U} (g : Url.Good u) : Fits u ∧ u.path.length ≤ 2048 ∧ u.sch.length ≤ 2048 := by
  have hl := g.len
  rw [Url.str_parts] at hl
  have hq : u.query.length ≤ 2048 := by
    cases h : u.hq
    · rw [g.noq h]; simp
    · have e : Url.queryP u = 63 :: u.query := by unfold Url.queryP; rw [h]; rfl
      rw [e] at hl
      simp only [List.length_append, List.length_cons] at hl
      omega
  have hf : u.frag.length ≤ 2048 := by
    cases h : u.hf
    · rw [g.nof h]; simp
    · have e : Url.fragP u = 35 :: u.frag := by unfold Url.fragP; rw [h]; rfl
      rw [e] at hl
      simp only [List.length_append, List.length_cons] at hl
      omega
  simp only [List.length_append, List.length_cons] at hl
  have hp := g.port
  exact ⟨⟨by omega, by omega, by omega, by omega, by omega, by omega, by omega⟩, by omega, by omega⟩
set_option maxHeartbeats 2000000 in
set_option maxRecDepth 100000 in
theorem Key_any (u : Url.U) (w : World) (hE : Env w) (hu : Fits u) :
    Calls Tryz.prog 23 #[uVal u] w fun e w' => e = .returned (.string (str (Url.key u))) ∧ Below w.heap.size w w' := by
  have hb0 : Below w.heap.size w (w.alloc (.cells (uCells u) 25)) := (Below.refl _ w).alloc (Nat.le_refl _) _
  have plc : ∀ W : World, Calls Tryz.prog 16 #[uVal u] W fun e w' => e = .returned (uVal (Url.bare u)) ∧ Below W.heap.size W w' := fun W => Bare_any u W
  have strc : ∀ W : World, Env W → Calls Tryz.prog 14 #[uVal (Url.bare u)] W fun e w' => e = .returned (.string (str (Url.key u))) ∧ Below W.heap.size W w' := fun W h => String_any (Url.bare u) W h (bare_fits hu)
  have hE0 := hE.below hb0
  unfold uVal uCells at plc
  unfold uCells at hb0 hE0
  unfold uVal uCells
  go_enter Tryz.func23, Tryz.ntmps23
  go_wp2_with (first
    | (go_at_call 16; refine (plc _).mono ?_; rintro e w1 ⟨rfl, hb1⟩)
    | (go_at_call 14; refine (strc _ (hE0.below hb1)).mono ?_; rintro e w2 ⟨rfl, hb2⟩))
  go_ret
  exact ⟨rfl, bel (bel hb0 hb1) hb2⟩
theorem TrimPrefix_str (a b : List UInt8) (w : World) : Calls Tryz.prog 51 #[.string (str (a ++ b)), .string (str a)] w fun e w' => e = .returned (.string (str b)) ∧ w' = w := by
  have := Tryz.strings_TrimPrefix (str (a ++ b)) (str a) w
  rw [str_data, str_data, Url.trim_front] at this
  exact this
theorem byte_eq {x m : UInt8} (h : x = m) : ((x.toNat : Int) == (m.toNat : Int)) = true := by rw [h]; exact beq_self_eq_true _
theorem byte_neq {x m : UInt8} (h : ¬ x = m) : ((x.toNat : Int) == (m.toNat : Int)) = false := beq_eq_false_iff_ne.2 (fun e => h (UInt8.toNat_inj.1 (by omega)))
theorem nsl_pos {x : UInt8} {t : List UInt8} (h : Url.slash x = true) : (0 : Int) < (Url.nsl (x :: t) : Nat) := by rw [Url.nsl_cons_yes h]; omega
theorem nsl_not {x : UInt8} {t : List UInt8} (h : Url.slash x = false) : ¬ (0 : Int) < (Url.nsl (x :: t) : Nat) := by rw [Url.nsl_cons_no h]; omega
set_option maxHeartbeats 4000000 in
set_option maxRecDepth 100000 in
theorem kept_nil (b : Url.U) (_d : Unit) (w : World) (hE : Env w) (g : Url.Good b) :
    Calls Tryz.prog 49 #[uVal b, .string (str ([]))] w fun e w' => e = .returned (.string (str (Url.stay b ([])))) ∧ Below w.heap.size w w' := by
  have hu := (good_fits g).1
  have hpl := (good_fits g).2.1
  have hb0 : Below w.heap.size w (w.alloc (.cells (uCells b) 25)) := (Below.refl _ w).alloc (Nat.le_refl _) _
  have hU0 : UAt (w.alloc (.cells (uCells b) 25)) w.heap.size b := heap_alloc_last _ _
  have hE0 := hE.below hb0
  have c3 : (w.alloc (.cells (uCells b) 25)).cell? ⟨w.heap.size, 3, none⟩ = some (.string (str b.path)) := hU0.cell 3
  have keyc : ∀ W : World, Env W → Calls Tryz.prog 23 #[uVal b] W fun e w' => e = .returned (.string (str (Url.key b))) ∧ Below W.heap.size W w' := fun W h => Key_any b W h hu
  have orgc : ∀ W : World, Env W → Calls Tryz.prog 17 #[uVal b] W fun e w' => e = .returned (.string (str (Url.origin b))) ∧ Below W.heap.size W w' := fun W h => Origin_any b W h hu
  have trc : ∀ W : World, Calls Tryz.prog 51 #[.string (str (Url.key b)), .string (str (Url.origin b))] W fun e w' => e = .returned (.string (str (b.path ++ Url.queryP b))) ∧ w' = W := fun W => by rw [Url.key_origin]; exact TrimPrefix_str _ _ W
  unfold uVal
  unfold uCells at hb0 hU0 hE0 c3 ⊢
  have he := empty_is (l := []) rfl
  go_enter Tryz.func49, Tryz.ntmps49
  go_upto_region 2 with fail
  generalize w.alloc (.cells #[.string (str b.sch), .string (str b.host), .int .i64 b.port, .string (str b.path), .string (str b.query), .string (str b.frag), .bool b.hq, .bool b.hf] 25) = w1 at hb0 hU0 hE0 c3 ⊢
  have hbd : Below w1.heap.size w1 w1.drew := (Below.refl _ w1).drew
  obtain ⟨S, hS1⟩ : ∃ S : World → Prop, ∀ W, S W ↔ (UAt W w.heap.size b ∧ Env W ∧ Below w.heap.size w W) := ⟨_, fun _ => Iff.rfl⟩
  refine wp_region_held_drew (S := S) (by kernel_rfl) ((hS1 _).2 ⟨hU0.below hbd, hE0.below hbd, bel hb0 hbd⟩) (fun hS => ?_)
  refine takeH 0 13 (uVal (b)) rfl rfl (by kernel_rfl) (by kernel_rfl) (by kernel_rfl) (fun _ _ _ h => h) (hy_load_U (Operand.tmp 2) rfl (by kernel_rfl) (w.heap.size) (b) (by kernel_rfl) (fun W h => ((hS1 W).1 h).1)) hS ?_
  simp only [Act.put, List.setIfInBounds_toArray, List.set_cons_zero, List.set_cons_succ]
  refine takeH 2 15 (uVal (b)) rfl rfl (by kernel_rfl) (by kernel_rfl) (by kernel_rfl) (fun _ _ _ h => h) (hy_load_U (Operand.tmp 2) rfl (by kernel_rfl) (w.heap.size) (b) (by kernel_rfl) (fun W h => ((hS1 W).1 h).1)) hS ?_
  simp only [Act.put, List.setIfInBounds_toArray, List.set_cons_zero, List.set_cons_succ]
  refine wpAnyH_ready (rs := [1]) (by kernel_rfl) (by simp) ?_
  refine AllReadyH.cons rfl (fun K hK => ?_) AllReadyH.nil
  go_simp
  refine (keyc _ ((hS1 _).1 hS).2.1).mono ?_
  rintro e x1 ⟨rfl, hx1⟩
  refine hK.out _ _ ((hS1 _).2 ⟨((hS1 _).1 hS).1.below hx1, ((hS1 _).1 hS).2.1.below hx1, bel ((hS1 _).1 hS).2.2 hx1⟩) (fun hS => ?_)
  clear hK K
  refine wpAnyH_ready (rs := [3]) (by kernel_rfl) (by simp) ?_
  refine AllReadyH.cons rfl (fun K hK => ?_) AllReadyH.nil
  go_simp
  refine (orgc _ ((hS1 _).1 hS).2.1).mono ?_
  rintro e x2 ⟨rfl, hx2⟩
  refine hK.out _ _ ((hS1 _).2 ⟨((hS1 _).1 hS).1.below hx2, ((hS1 _).1 hS).2.1.below hx2, bel ((hS1 _).1 hS).2.2 hx2⟩) (fun hS => ?_)
  clear hK K
  refine wpAnyH_ready (rs := [4]) (by kernel_rfl) (by simp) ?_
  refine AllReadyH.cons rfl (fun K hK => ?_) AllReadyH.nil
  go_simp
  refine (trc _).mono ?_
  rintro e x3 ⟨rfl, hx3⟩
  refine hK.out _ _ (by rw [hx3]; exact hS) (fun hS => ?_)
  clear hK K
  refine takeH 5 4 (.string (str (b.path ++ Url.queryP b))) rfl rfl (by kernel_rfl) (by kernel_rfl) (by kernel_rfl) (fun _ _ _ h => h) (Or.inl ⟨by kernel_rfl, fun W _ => by go_simp⟩) hS ?_
  simp only [Act.put, List.setIfInBounds_toArray, List.set_cons_zero, List.set_cons_succ]
  refine wpAnyH_done (by kernel_rfl) ?_ _
  have hfin := ((hS1 _).1 hS).2.2
  go_wp2
  go_ret
  exact ⟨rfl, hfin⟩
set_option maxHeartbeats 4000000 in
set_option maxRecDepth 100000 in
theorem kept_frag (b : Url.U) (r : List UInt8) (w : World) (hE : Env w) (g : Url.Good b) :
    Calls Tryz.prog 49 #[uVal b, .string (str (35 :: r))] w fun e w' => e = .returned (.string (str (Url.stay b (35 :: r)))) ∧ Below w.heap.size w w' := by
  have hu := (good_fits g).1
  have hpl := (good_fits g).2.1
  have hb0 : Below w.heap.size w (w.alloc (.cells (uCells b) 25)) := (Below.refl _ w).alloc (Nat.le_refl _) _
  have hU0 : UAt (w.alloc (.cells (uCells b) 25)) w.heap.size b := heap_alloc_last _ _
  have hE0 := hE.below hb0
  have c3 : (w.alloc (.cells (uCells b) 25)).cell? ⟨w.heap.size, 3, none⟩ = some (.string (str b.path)) := hU0.cell 3
  have keyc : ∀ W : World, Env W → Calls Tryz.prog 23 #[uVal b] W fun e w' => e = .returned (.string (str (Url.key b))) ∧ Below W.heap.size W w' := fun W h => Key_any b W h hu
  have orgc : ∀ W : World, Env W → Calls Tryz.prog 17 #[uVal b] W fun e w' => e = .returned (.string (str (Url.origin b))) ∧ Below W.heap.size W w' := fun W h => Origin_any b W h hu
  have trc : ∀ W : World, Calls Tryz.prog 51 #[.string (str (Url.key b)), .string (str (Url.origin b))] W fun e w' => e = .returned (.string (str (b.path ++ Url.queryP b))) ∧ w' = W := fun W => by rw [Url.key_origin]; exact TrimPrefix_str _ _ W
  unfold uVal
  unfold uCells at hb0 hU0 hE0 c3 ⊢
  have he := empty_isnt (l := 35 :: r) (by simp)
  have hat := str_first 35 r
  have hs1 : (str (35 :: r)).size = r.length + 1 := str_size _
  go_enter Tryz.func49, Tryz.ntmps49
  go_upto_region 2 with fail
  generalize w.alloc (.cells #[.string (str b.sch), .string (str b.host), .int .i64 b.port, .string (str b.path), .string (str b.query), .string (str b.frag), .bool b.hq, .bool b.hf] 25) = w1 at hb0 hU0 hE0 c3 ⊢
  have hbd : Below w1.heap.size w1 w1.drew := (Below.refl _ w1).drew
  obtain ⟨S, hS1⟩ : ∃ S : World → Prop, ∀ W, S W ↔ (UAt W w.heap.size b ∧ Env W ∧ Below w.heap.size w W) := ⟨_, fun _ => Iff.rfl⟩
  refine wp_region_held_drew (S := S) (by kernel_rfl) ((hS1 _).2 ⟨hU0.below hbd, hE0.below hbd, bel hb0 hbd⟩) (fun hS => ?_)
  refine takeH 0 13 (uVal (b)) rfl rfl (by kernel_rfl) (by kernel_rfl) (by kernel_rfl) (fun _ _ _ h => h) (hy_load_U (Operand.tmp 2) rfl (by kernel_rfl) (w.heap.size) (b) (by kernel_rfl) (fun W h => ((hS1 W).1 h).1)) hS ?_
  simp only [Act.put, List.setIfInBounds_toArray, List.set_cons_zero, List.set_cons_succ]
  refine takeH 2 15 (uVal (b)) rfl rfl (by kernel_rfl) (by kernel_rfl) (by kernel_rfl) (fun _ _ _ h => h) (hy_load_U (Operand.tmp 2) rfl (by kernel_rfl) (w.heap.size) (b) (by kernel_rfl) (fun W h => ((hS1 W).1 h).1)) hS ?_
  simp only [Act.put, List.setIfInBounds_toArray, List.set_cons_zero, List.set_cons_succ]
  refine wpAnyH_ready (rs := [1]) (by kernel_rfl) (by simp) ?_
  refine AllReadyH.cons rfl (fun K hK => ?_) AllReadyH.nil
  go_simp
  refine (keyc _ ((hS1 _).1 hS).2.1).mono ?_
  rintro e x1 ⟨rfl, hx1⟩
  refine hK.out _ _ ((hS1 _).2 ⟨((hS1 _).1 hS).1.below hx1, ((hS1 _).1 hS).2.1.below hx1, bel ((hS1 _).1 hS).2.2 hx1⟩) (fun hS => ?_)
  clear hK K
  refine wpAnyH_ready (rs := [3]) (by kernel_rfl) (by simp) ?_
  refine AllReadyH.cons rfl (fun K hK => ?_) AllReadyH.nil
  go_simp
  refine (orgc _ ((hS1 _).1 hS).2.1).mono ?_
  rintro e x2 ⟨rfl, hx2⟩
  refine hK.out _ _ ((hS1 _).2 ⟨((hS1 _).1 hS).1.below hx2, ((hS1 _).1 hS).2.1.below hx2, bel ((hS1 _).1 hS).2.2 hx2⟩) (fun hS => ?_)
  clear hK K
  refine wpAnyH_ready (rs := [4]) (by kernel_rfl) (by simp) ?_
  refine AllReadyH.cons rfl (fun K hK => ?_) AllReadyH.nil
  go_simp
  refine (trc _).mono ?_
  rintro e x3 ⟨rfl, hx3⟩
  refine hK.out _ _ (by rw [hx3]; exact hS) (fun hS => ?_)
  clear hK K
  refine takeH 5 4 (.string (str (b.path ++ Url.queryP b))) rfl rfl (by kernel_rfl) (by kernel_rfl) (by kernel_rfl) (fun _ _ _ h => h) (Or.inl ⟨by kernel_rfl, fun W _ => by go_simp⟩) hS ?_
  simp only [Act.put, List.setIfInBounds_toArray, List.set_cons_zero, List.set_cons_succ]
  refine wpAnyH_done (by kernel_rfl) ?_ _
  have hfin := ((hS1 _).1 hS).2.2
  go_wp2
  go_ret
  exact ⟨rfl, hfin⟩
set_option maxHeartbeats 4000000 in
set_option maxRecDepth 100000 in
theorem kept_query (b : Url.U) (r : List UInt8) (w : World) (hE : Env w) (g : Url.Good b) :
    Calls Tryz.prog 49 #[uVal b, .string (str (63 :: r))] w fun e w' => e = .returned (.string (str (Url.stay b (63 :: r)))) ∧ Below w.heap.size w w' := by
  have hu := (good_fits g).1
  have hpl := (good_fits g).2.1
  have hb0 : Below w.heap.size w (w.alloc (.cells (uCells b) 25)) := (Below.refl _ w).alloc (Nat.le_refl _) _
  have hU0 : UAt (w.alloc (.cells (uCells b) 25)) w.heap.size b := heap_alloc_last _ _
  have hE0 := hE.below hb0
  have c3 : (w.alloc (.cells (uCells b) 25)).cell? ⟨w.heap.size, 3, none⟩ = some (.string (str b.path)) := hU0.cell 3
  unfold uVal
  unfold uCells at hb0 hU0 hE0 c3 ⊢
  have he := empty_isnt (l := 63 :: r) (by simp)
  have hat := str_first 63 r
  have hs1 : (str (63 :: r)).size = r.length + 1 := str_size _
  go_enter Tryz.func49, Tryz.ntmps49
  go_wp2
  go_ret
  exact ⟨rfl, hb0⟩
set_option maxHeartbeats 4000000 in
set_option maxRecDepth 100000 in
theorem kept_slash (b : Url.U) (x : UInt8) (r : List UInt8) (w : World) (hE : Env w) (g : Url.Good b) (h35 : ¬ x = 35) (h63 : ¬ x = 63) (hx : Url.slash x = true) (hz : (x :: r).length ≤ 1000000) :
    Calls Tryz.prog 49 #[uVal b, .string (str (x :: r))] w fun e w' => e = .returned (.string (str (Url.stay b (x :: r)))) ∧ Below w.heap.size w w' := by
  have hu := (good_fits g).1
  have hpl := (good_fits g).2.1
  have hb0 : Below w.heap.size w (w.alloc (.cells (uCells b) 25)) := (Below.refl _ w).alloc (Nat.le_refl _) _
  have hU0 : UAt (w.alloc (.cells (uCells b) 25)) w.heap.size b := heap_alloc_last _ _
  have hE0 := hE.below hb0
  have c3 : (w.alloc (.cells (uCells b) 25)).cell? ⟨w.heap.size, 3, none⟩ = some (.string (str b.path)) := hU0.cell 3
  unfold uVal
  unfold uCells at hb0 hU0 hE0 c3 ⊢
  have he := empty_isnt (l := x :: r) (by simp)
  have hat := str_first x r
  have hs1 : (str (x :: r)).size = r.length + 1 := str_size _
  have n35 := byte_neq h35
  have n63 := byte_neq h63
  have e35 : ((35 : UInt8).toNat : Int) = 35 := rfl
  have e63 : ((63 : UInt8).toNat : Int) = 63 := rfl
  rw [e35] at n35
  rw [e63] at n63
  clear e35 e63
  have slc : ∀ W : World, Calls Tryz.prog 47 #[.string (str (x :: r))] W fun e w' => e = .returned (.int .i64 (Url.nsl (x :: r) : Nat)) ∧ Below W.heap.size W w' := fun W => slashesAhead_any _ W (by omega)
  have hps := nsl_pos (t := r) hx
  have HK : Hid (Url.stay b (x :: r) = []) := by
    show (if x = 35 then _ else if x = 63 then _ else if Url.slash x = true then ([] : List UInt8) else _) = []
    rw [if_neg h35, if_neg h63, if_pos hx]
  generalize Url.stay b (x :: r) = kp at HK ⊢
  generalize Url.nsl (x :: r) = n at slc hps
  clear h35 h63 hx
  go_enter Tryz.func49, Tryz.ntmps49
  go_wp2_with (go_at_call 47; refine (slc _).mono ?_; rintro e w1 ⟨rfl, hb1⟩)
  go_ret
  exact ⟨by rw [HK.out]; rfl, bel hb0 hb1⟩
set_option maxHeartbeats 4000000 in
set_option maxRecDepth 100000 in
theorem kept_else (b : Url.U) (x : UInt8) (r : List UInt8) (w : World) (hE : Env w) (g : Url.Good b) (h35 : ¬ x = 35) (h63 : ¬ x = 63) (hx : Url.slash x = false) (hz : (x :: r).length ≤ 1000000) :
    Calls Tryz.prog 49 #[uVal b, .string (str (x :: r))] w fun e w' => e = .returned (.string (str (Url.stay b (x :: r)))) ∧ Below w.heap.size w w' := by
  have hu := (good_fits g).1
  have hpl := (good_fits g).2.1
  have hb0 : Below w.heap.size w (w.alloc (.cells (uCells b) 25)) := (Below.refl _ w).alloc (Nat.le_refl _) _
  have hU0 : UAt (w.alloc (.cells (uCells b) 25)) w.heap.size b := heap_alloc_last _ _
  have hE0 := hE.below hb0
  have c3 : (w.alloc (.cells (uCells b) 25)).cell? ⟨w.heap.size, 3, none⟩ = some (.string (str b.path)) := hU0.cell 3
  unfold uVal
  unfold uCells at hb0 hU0 hE0 c3 ⊢
  have he := empty_isnt (l := x :: r) (by simp)
  have hat := str_first x r
  have hs1 : (str (x :: r)).size = r.length + 1 := str_size _
  have n35 := byte_neq h35
  have n63 := byte_neq h63
  have e35 : ((35 : UInt8).toNat : Int) = 35 := rfl
  have e63 : ((63 : UInt8).toNat : Int) = 63 := rfl
  rw [e35] at n35
  rw [e63] at n63
  clear e35 e63
  have slc : ∀ W : World, Calls Tryz.prog 47 #[.string (str (x :: r))] W fun e w' => e = .returned (.int .i64 (Url.nsl (x :: r) : Nat)) ∧ Below W.heap.size W w' := fun W => slashesAhead_any _ W (by omega)
  have hps := nsl_not (t := r) hx
  have HK : Hid (Url.stay b (x :: r) = Url.dirOf b.path) := by
    show (if x = 35 then _ else if x = 63 then _ else if Url.slash x = true then ([] : List UInt8) else Url.dirOf b.path) = _
    rw [if_neg h35, if_neg h63, if_neg (by rw [hx]; decide)]
  generalize Url.stay b (x :: r) = kp at HK ⊢
  generalize Url.nsl (x :: r) = n at slc hps
  clear h35 h63 hx
  obtain ⟨hd1, hd2⟩ := Url.dirOf_prefix b.path
  have lic : ∀ W : World, Calls Tryz.prog 79 #[.string (str b.path), .int .u8 47] W fun e w' => e = .returned (.int .i64 (((Url.dirOf b.path).length : Int) - 1)) ∧ w' = W := fun W => lastSlash_any _ W (by omega)
  obtain ⟨dl, hdl⟩ : ∃ dl, (Url.dirOf b.path).length = dl := ⟨_, rfl⟩
  rw [hdl] at hd1 hd2 lic
  have HD : Hid (List.take dl b.path = Url.dirOf b.path) := hd1
  have hwr : IntKind.i64.wrap (dl : Int) = (dl : Int) := by rw [IntKind.wrap_i64]; omega
  clear hd1 hdl
  go_enter Tryz.func49, Tryz.ntmps49
  go_upto_region 7 with (go_at_call 47; refine (slc _).mono ?_; rintro e w2 ⟨rfl, hbx⟩)
  have hU2 := UAt.below hU0 hbx
  have hE2 := hE0.below hbx
  have hb2 := bel hb0 hbx
  clear hU0 hE0 hb0 hbx c3
  have hbd : Below w2.heap.size w2 w2.drew := (Below.refl _ w2).drew
  obtain ⟨S, hS1⟩ : ∃ S : World → Prop, ∀ W, S W ↔ (UAt W w.heap.size b ∧ Env W ∧ Below w.heap.size w W) := ⟨_, fun _ => Iff.rfl⟩
  refine wp_region_held_drew (S := S) (by kernel_rfl) ((hS1 _).2 ⟨hU2.below hbd, hE2.below hbd, bel hb2 hbd⟩) (fun hS => ?_)
  refine takeH 0 28 (.pointer (some ⟨w.heap.size, 3, none⟩)) rfl rfl (by kernel_rfl) (by kernel_rfl) (by kernel_rfl) (fun _ _ _ h => h) (Or.inl ⟨by kernel_rfl, fun W _ => by go_simp⟩) hS ?_
  simp only [Act.put, List.setIfInBounds_toArray, List.set_cons_zero, List.set_cons_succ]
  refine takeH 1 29 (.string (str b.path)) rfl rfl (by kernel_rfl) (by kernel_rfl) (by kernel_rfl) (fun _ _ _ h => h) (Or.inl ⟨by kernel_rfl, fun W h => by have hc : W.cell? ⟨w.heap.size, 3, none⟩ = some (.string (str b.path)) := ((hS1 W).1 h).1.cell 3; go_simp⟩) hS ?_
  simp only [Act.put, List.setIfInBounds_toArray, List.set_cons_zero, List.set_cons_succ]
  refine takeH 2 30 (.pointer (some ⟨w.heap.size, 3, none⟩)) rfl rfl (by kernel_rfl) (by kernel_rfl) (by kernel_rfl) (fun _ _ _ h => h) (Or.inl ⟨by kernel_rfl, fun W _ => by go_simp⟩) hS ?_
  simp only [Act.put, List.setIfInBounds_toArray, List.set_cons_zero, List.set_cons_succ]
  refine takeH 3 31 (.string (str b.path)) rfl rfl (by kernel_rfl) (by kernel_rfl) (by kernel_rfl) (fun _ _ _ h => h) (Or.inl ⟨by kernel_rfl, fun W h => by have hc : W.cell? ⟨w.heap.size, 3, none⟩ = some (.string (str b.path)) := ((hS1 W).1 h).1.cell 3; go_simp⟩) hS ?_
  simp only [Act.put, List.setIfInBounds_toArray, List.set_cons_zero, List.set_cons_succ]
  refine wpAnyH_ready (rs := [4]) (by kernel_rfl) (by simp) ?_
  refine AllReadyH.cons rfl (fun K hK => ?_) AllReadyH.nil
  go_simp
  refine (lic _).mono ?_
  rintro e x1 ⟨rfl, hx1⟩
  refine hK.out _ _ (by rw [hx1]; exact hS) (fun hS => ?_)
  clear hK K
  refine takeH 5 33 (.int .i64 (dl : Int)) rfl rfl (by kernel_rfl) (by kernel_rfl) (by kernel_rfl) (fun _ _ _ h => h) (Or.inl ⟨by kernel_rfl, fun W _ => by go_simp⟩) hS ?_
  simp only [Act.put, List.setIfInBounds_toArray, List.set_cons_zero, List.set_cons_succ]
  refine takeH 6 34 (.string (str (Url.dirOf b.path))) rfl rfl (by kernel_rfl) (by kernel_rfl) (by kernel_rfl) (fun _ _ _ h => h) ((y_slice_to (l := b.path) (r := Url.dirOf b.path) (k := (dl : Int)) (Operand.tmp 29) (Operand.tmp 33) rfl rfl (by kernel_rfl) (by kernel_rfl) (by omega) (by omega) HD.out).yieldsIf) hS ?_
  simp only [Act.put, List.setIfInBounds_toArray, List.set_cons_zero, List.set_cons_succ]
  refine takeH 7 4 (.string (str (Url.dirOf b.path))) rfl rfl (by kernel_rfl) (by kernel_rfl) (by kernel_rfl) (fun _ _ _ h => h) (Or.inl ⟨by kernel_rfl, fun W _ => by go_simp⟩) hS ?_
  simp only [Act.put, List.setIfInBounds_toArray, List.set_cons_zero, List.set_cons_succ]
  refine wpAnyH_done (by kernel_rfl) ?_ _
  have hfin := ((hS1 _).1 hS).2.2
  go_wp2
  go_ret
  exact ⟨by rw [HK.out]; rfl, hfin⟩
theorem kept_any (b : Url.U) (c : List UInt8) (w : World) (hE : Env w) (g : Url.Good b) (hz : c.length ≤ 1000000) :
    Calls Tryz.prog 49 #[uVal b, .string (str c)] w fun e w' => e = .returned (.string (str (Url.stay b c))) ∧ Below w.heap.size w w' := by
  cases c with
  | nil => exact kept_nil b () w hE g
  | cons x r =>
    by_cases h35 : x = 35
    · subst h35
      exact kept_frag b r w hE g
    · by_cases h63 : x = 63
      · subst h63
        exact kept_query b r w hE g
      · cases hx : Url.slash x
        · exact kept_else b x r w hE g h35 h63 hx hz
        · exact kept_slash b x r w hE g h35 h63 hx hz
theorem stay_len (b : Url.U) (c : List UInt8) (g : Url.Good b) : (Url.stay b c).length ≤ 2048 := by
  have h1 := (good_fits g).2.1
  have h2 := (Url.dirOf_prefix b.path).2
  have hl := g.len
  rw [Url.str_parts] at hl
  simp only [List.length_append, List.length_cons] at hl
  cases c with
  | nil =>
    show (b.path ++ Url.queryP b).length ≤ 2048
    rw [List.length_append]
    omega
  | cons x r =>
    show (if x = 35 then b.path ++ Url.queryP b else if x = 63 then b.path else if Url.slash x = true then [] else Url.dirOf b.path).length ≤ 2048
    split
    · rw [List.length_append]; omega
    · split
      · omega
      · split
        · simp
        · omega
end Go.Proofs.YtnmkhbelmdokmaaGreatDoor
/- The contract of package join's Join. -/
namespace Go.Proofs.YtnmkhbelmdokmaaGreatDoor
open Go.RowKit
set_option maxHeartbeats 4000000 in
set_option maxRecDepth 100000 in
theorem Join_bad (b : Url.U) (l : List UInt8) (w : World) (hE : Env w) (hu : Fits b) (hzb : (Url.str b).length ≤ 10000000) (_hz : l.length ≤ 1000000) (hm : Url.may b = false) :
    Calls Tryz.prog 21 #[uVal b, .string (str l)] w fun e w' => e = .returned (.tuple #[uVal (Url.zero), .int .i64 (1)]) ∧ Below w.heap.size w w' := by
  have hzu := (zero_of_info zeroURL).1
  have hT0 : TU w.heap.size w ((w.alloc (.cells (uCells b) 25)).alloc (.cells (uCells Url.zero) 25)) b :=
    ⟨UAt.below (heap_alloc_last _ _) ((Below.refl _ _).alloc (Nat.le_refl _) _), alloc_two _ _ _, ((Below.refl _ w).alloc (Nat.le_refl _) _).alloc (by simp) _⟩
  have hE0 := hE.below hT0.bel
  have mayc : ∀ W : World, Env W → Calls Tryz.prog 15 #[uVal b] W fun e w' => e = .returned (.bool (Url.may b)) ∧ Below W.heap.size W w' := fun W h => May_any b W h hu hzb
  unfold uVal at hzu
  unfold uVal
  unfold uCells at hzu hT0 hE0 ⊢
  go_enter Tryz.func21, Tryz.ntmps21
  go_upto_region 1 with fail
  generalize (w.alloc (.cells #[.string (str b.sch), .string (str b.host), .int .i64 b.port, .string (str b.path), .string (str b.query), .string (str b.frag), .bool b.hq, .bool b.hf] 25)).alloc (.cells #[.string (str Url.zero.sch), .string (str Url.zero.host), .int .i64 Url.zero.port, .string (str Url.zero.path), .string (str Url.zero.query), .string (str Url.zero.frag), .bool Url.zero.hq, .bool Url.zero.hf] 25) = w0 at hT0 hE0 ⊢
  go_wp2_with (first
    | ((with_reducible show wpList _ _ _ ({ dst := _, op := Op.load 25 _, type := _, pos := _, after := _, guard := _ } :: _) _ _); refine wpList_load_U _ rfl rfl w.heap.size b rfl hT0.at_ ?_)
    | (go_at_call 15; refine (mayc _ hE0).mono ?_; rintro e w1 ⟨rfl, hb1⟩; have hT1 := hT0.step hb1; rw [hm])
    | ((with_reducible show wpList _ _ _ ({ dst := _, op := Op.store 25 (Operand.tmp 4) _, type := _, pos := _, after := _, guard := _ } :: _) _ _); refine wpList_store_U _ _ rfl rfl (w.heap.size + 1) Url.zero Url.zero rfl rfl hT1.res ?_))
  refine ret_U2 (u := Url.zero) rfl rfl rfl rfl (setRow_U hT1.res) ⟨?_, below_setRow hT1.bel (by omega) _⟩
  rfl
set_option maxHeartbeats 4000000 in
set_option maxRecDepth 100000 in
theorem Join_long (b : Url.U) (l : List UInt8) (w : World) (hE : Env w) (hu : Fits b) (hzb : (Url.str b).length ≤ 10000000) (hz : l.length ≤ 1000000) (hm : Url.may b = true) (hl : 2048 < (Url.clean l).length) :
    Calls Tryz.prog 21 #[uVal b, .string (str l)] w fun e w' => e = .returned (.tuple #[uVal (Url.zero), .int .i64 (5)]) ∧ Below w.heap.size w w' := by
  have hzu := (zero_of_info zeroURL).1
  have hT0 : TU w.heap.size w ((w.alloc (.cells (uCells b) 25)).alloc (.cells (uCells Url.zero) 25)) b :=
    ⟨UAt.below (heap_alloc_last _ _) ((Below.refl _ _).alloc (Nat.le_refl _) _), alloc_two _ _ _, ((Below.refl _ w).alloc (Nat.le_refl _) _).alloc (by simp) _⟩
  have hE0 := hE.below hT0.bel
  have mayc : ∀ W : World, Env W → Calls Tryz.prog 15 #[uVal b] W fun e w' => e = .returned (.bool (Url.may b)) ∧ Below W.heap.size W w' := fun W h => May_any b W h hu hzb
  have hcl := Url.clean_len l
  have clc : ∀ W : World, Env W → Calls Tryz.prog 31 #[.string (str l)] W fun e w' => e = .returned (.string (str (Url.clean l))) ∧ Below W.heap.size W w' := fun W h => Clean_any l W h (by omega)
  generalize Url.clean l = c at *
  have hsz := str_size c
  have hl2 : (2048 : Int) < (c.length : Int) := by omega
  clear hl
  unfold uVal at hzu
  unfold uVal
  unfold uCells at hzu hT0 hE0 ⊢
  go_enter Tryz.func21, Tryz.ntmps21
  go_upto_region 1 with fail
  generalize (w.alloc (.cells #[.string (str b.sch), .string (str b.host), .int .i64 b.port, .string (str b.path), .string (str b.query), .string (str b.frag), .bool b.hq, .bool b.hf] 25)).alloc (.cells #[.string (str Url.zero.sch), .string (str Url.zero.host), .int .i64 Url.zero.port, .string (str Url.zero.path), .string (str Url.zero.query), .string (str Url.zero.frag), .bool Url.zero.hq, .bool Url.zero.hf] 25) = w0 at hT0 hE0 ⊢
  go_wp2_with (first
    | ((with_reducible show wpList _ _ _ ({ dst := _, op := Op.load 25 _, type := _, pos := _, after := _, guard := _ } :: _) _ _); refine wpList_load_U _ rfl rfl w.heap.size b rfl hT0.at_ ?_)
    | (go_at_call 15; refine (mayc _ hE0).mono ?_; rintro e w1 ⟨rfl, hb1⟩; have hT1 := hT0.step hb1; have hE1 := hE0.below hb1; rw [hm])
    | (go_at_call 31; refine (clc _ hE1).mono ?_; rintro e w2 ⟨rfl, hb2⟩; have hT2 := hT1.step hb2; have hE2 := hE1.below hb2)
    | ((with_reducible show wpList _ _ _ ({ dst := _, op := Op.store 25 (Operand.tmp 4) _, type := _, pos := _, after := _, guard := _ } :: _) _ _); refine wpList_store_U _ _ rfl rfl (w.heap.size + 1) Url.zero Url.zero rfl rfl hT2.res ?_))
  refine ret_U2 (u := Url.zero) rfl rfl rfl rfl (setRow_U hT2.res) ⟨?_, below_setRow hT2.bel (by omega) _⟩
  rfl
set_option maxHeartbeats 4000000 in
set_option maxRecDepth 100000 in
theorem Join_again (b : Url.U) (l : List UInt8) (w : World) (hE : Env w) (hu : Fits b) (hzb : (Url.str b).length ≤ 10000000) (hz : l.length ≤ 1000000) (hm : Url.may b = true) (hl : ¬ 2048 < (Url.clean l).length) (hs : Url.hasSch (Url.clean l) = true) (h1 : Url.sch (Url.clean l) = b.sch) (h2 : Url.slashed (Url.schR (Url.clean l)) = false) (v : Url.U) (ev : Int) (IH : ∀ W : World, Env W → Calls Tryz.prog 21 #[uVal b, .string (str (Url.schR (Url.clean l)))] W fun e w' => e = .returned (.tuple #[uVal v, .int .i64 ev]) ∧ Below W.heap.size W w') :
    Calls Tryz.prog 21 #[uVal b, .string (str l)] w fun e w' => e = .returned (.tuple #[uVal (v), .int .i64 (ev)]) ∧ Below w.heap.size w w' := by
  have hzu := (zero_of_info zeroURL).1
  have hT0 : TU w.heap.size w ((w.alloc (.cells (uCells b) 25)).alloc (.cells (uCells Url.zero) 25)) b :=
    ⟨UAt.below (heap_alloc_last _ _) ((Below.refl _ _).alloc (Nat.le_refl _) _), alloc_two _ _ _, ((Below.refl _ w).alloc (Nat.le_refl _) _).alloc (by simp) _⟩
  have hE0 := hE.below hT0.bel
  have mayc : ∀ W : World, Env W → Calls Tryz.prog 15 #[uVal b] W fun e w' => e = .returned (.bool (Url.may b)) ∧ Below W.heap.size W w' := fun W h => May_any b W h hu hzb
  have hcl := Url.clean_len l
  have clc : ∀ W : World, Env W → Calls Tryz.prog 31 #[.string (str l)] W fun e w' => e = .returned (.string (str (Url.clean l))) ∧ Below W.heap.size W w' := fun W h => Clean_any l W h (by omega)
  have cutc : ∀ W : World, Env W → Calls Tryz.prog 46 #[.string (str (Url.clean l))] W fun e w' => e = .returned (.tuple #[.string (str (Url.sch (Url.clean l))), .string (str (Url.schR (Url.clean l))), .bool true]) ∧ Below W.heap.size W w' := fun W h => by
    have := cutScheme_any (Url.clean l) W h (by omega)
    unfold cutR at this
    rw [if_pos hs] at this
    exact this
  have hrl := schR_len (Url.clean l)
  have slc : ∀ W : World, Calls Tryz.prog 47 #[.string (str (Url.schR (Url.clean l)))] W fun e w' => e = .returned (.int .i64 (Url.nsl (Url.schR (Url.clean l)) : Nat)) ∧ Below W.heap.size W w' := fun W => slashesAhead_any _ W (by omega)
  rw [(Url.nsl_zero _).2 h2] at slc
  have hsch : ((str (Url.sch (Url.clean l))).toList == (str b.sch).toList) = true := by rw [h1]; exact beq_self_eq_true _
  clear h1 h2 hs
  generalize Url.schR (Url.clean l) = r at *
  generalize Url.sch (Url.clean l) = s at *
  generalize Url.clean l = c at *
  have hsz := str_size c
  have hl2 : ¬ (2048 : Int) < (c.length : Int) := by omega
  clear hl
  unfold uVal at hzu
  unfold uVal
  unfold uCells at hzu hT0 hE0 ⊢
  go_enter Tryz.func21, Tryz.ntmps21
  go_upto_region 1 with fail
  generalize (w.alloc (.cells #[.string (str b.sch), .string (str b.host), .int .i64 b.port, .string (str b.path), .string (str b.query), .string (str b.frag), .bool b.hq, .bool b.hf] 25)).alloc (.cells #[.string (str Url.zero.sch), .string (str Url.zero.host), .int .i64 Url.zero.port, .string (str Url.zero.path), .string (str Url.zero.query), .string (str Url.zero.frag), .bool Url.zero.hq, .bool Url.zero.hf] 25) = w0 at hT0 hE0 ⊢
  go_wp2_with (first
    | ((with_reducible show wpList _ _ _ ({ dst := _, op := Op.load 25 _, type := _, pos := _, after := _, guard := _ } :: _) _ _); refine wpList_load_U _ rfl rfl w.heap.size b rfl hT0.at_ ?_)
    | (go_at_call 15; refine (mayc _ hE0).mono ?_; rintro e w1 ⟨rfl, hb1⟩; have hT1 := hT0.step hb1; have hE1 := hE0.below hb1; rw [hm])
    | (go_at_call 31; refine (clc _ hE1).mono ?_; rintro e w2 ⟨rfl, hb2⟩; have hT2 := hT1.step hb2; have hE2 := hE1.below hb2)
    | (go_at_call 46; refine (cutc _ hE2).mono ?_; rintro e w3 ⟨rfl, hb3⟩; have hT3 := hT2.step hb3; have hE3 := hE2.below hb3; have c0 : w3.cell? ⟨w.heap.size, 0, none⟩ = some (.string (str b.sch)) := hT3.at_.cell 0)
    | (go_at_call 47; refine (slc _).mono ?_; rintro e w4 ⟨rfl, hb4⟩; have hT4 := hT3.step hb4; have hE4 := hE3.below hb4)
    | ((with_reducible show wpList _ _ _ ({ dst := _, op := Op.load 25 _, type := _, pos := _, after := _, guard := _ } :: _) _ _); refine wpList_load_U _ rfl rfl w.heap.size b rfl hT4.at_ ?_)
    | (go_at_call 21; refine (IH _ hE4).mono ?_; rintro e w5 ⟨rfl, hb5⟩; have hT5 := hT4.step hb5)
    | ((with_reducible show wpList _ _ _ ({ dst := _, op := Op.store 25 (Operand.tmp 4) _, type := _, pos := _, after := _, guard := _ } :: _) _ _); refine wpList_store_U _ _ rfl rfl (w.heap.size + 1) v Url.zero rfl rfl hT5.res ?_))
  refine ret_U2 (u := v) rfl rfl rfl rfl (setRow_U hT5.res) ⟨?_, below_setRow hT5.bel (by omega) _⟩
  rfl
set_option maxHeartbeats 4000000 in
set_option maxRecDepth 100000 in
theorem Join_slash (b : Url.U) (l : List UInt8) (w : World) (hE : Env w) (hu : Fits b) (hzb : (Url.str b).length ≤ 10000000) (hz : l.length ≤ 1000000) (hm : Url.may b = true) (hl : ¬ 2048 < (Url.clean l).length) (hs : Url.hasSch (Url.clean l) = true) (h1 : Url.sch (Url.clean l) = b.sch) (h2 : Url.slashed (Url.schR (Url.clean l)) = true) :
    Calls Tryz.prog 21 #[uVal b, .string (str l)] w fun e w' => e = .returned (.tuple #[uVal (Url.parse (Url.clean l)), .int .i64 (Url.perr (Url.clean l))]) ∧ Below w.heap.size w w' := by
  have hzu := (zero_of_info zeroURL).1
  have hT0 : TU w.heap.size w ((w.alloc (.cells (uCells b) 25)).alloc (.cells (uCells Url.zero) 25)) b :=
    ⟨UAt.below (heap_alloc_last _ _) ((Below.refl _ _).alloc (Nat.le_refl _) _), alloc_two _ _ _, ((Below.refl _ w).alloc (Nat.le_refl _) _).alloc (by simp) _⟩
  have hE0 := hE.below hT0.bel
  have mayc : ∀ W : World, Env W → Calls Tryz.prog 15 #[uVal b] W fun e w' => e = .returned (.bool (Url.may b)) ∧ Below W.heap.size W w' := fun W h => May_any b W h hu hzb
  have hcl := Url.clean_len l
  have clc : ∀ W : World, Env W → Calls Tryz.prog 31 #[.string (str l)] W fun e w' => e = .returned (.string (str (Url.clean l))) ∧ Below W.heap.size W w' := fun W h => Clean_any l W h (by omega)
  have cutc : ∀ W : World, Env W → Calls Tryz.prog 46 #[.string (str (Url.clean l))] W fun e w' => e = .returned (.tuple #[.string (str (Url.sch (Url.clean l))), .string (str (Url.schR (Url.clean l))), .bool true]) ∧ Below W.heap.size W w' := fun W h => by
    have := cutScheme_any (Url.clean l) W h (by omega)
    unfold cutR at this
    rw [if_pos hs] at this
    exact this
  have hrl := schR_len (Url.clean l)
  have slc : ∀ W : World, Calls Tryz.prog 47 #[.string (str (Url.schR (Url.clean l)))] W fun e w' => e = .returned (.int .i64 (Url.nsl (Url.schR (Url.clean l)) : Nat)) ∧ Below W.heap.size W w' := fun W => slashesAhead_any _ W (by omega)
  have parc : ∀ W : World, Env W → Calls Tryz.prog 11 #[.string (str (Url.clean l))] W fun e w' => e = .returned (.tuple #[uVal (Url.parse (Url.clean l)), .int .i64 (Url.perr (Url.clean l))]) ∧ Below W.heap.size W w' := fun W h => Parse_any _ W h (by omega)
  generalize Url.parse (Url.clean l) = p at *
  generalize Url.perr (Url.clean l) = pe at *
  have hn0 : ((Url.nsl (Url.schR (Url.clean l)) : Int) == 0) = false := beq_eq_false_iff_ne.2 (fun h => by have := (Url.nsl_zero _).1 (show Url.nsl (Url.schR (Url.clean l)) = 0 by omega); rw [h2] at this; cases this)
  have hsch : ((str (Url.sch (Url.clean l))).toList == (str b.sch).toList) = true := by rw [h1]; exact beq_self_eq_true _
  clear h1 h2 hs
  generalize Url.nsl (Url.schR (Url.clean l)) = n at *
  generalize Url.schR (Url.clean l) = r at *
  generalize Url.sch (Url.clean l) = s at *
  generalize Url.clean l = c at *
  have hsz := str_size c
  have hl2 : ¬ (2048 : Int) < (c.length : Int) := by omega
  clear hl
  unfold uVal at hzu
  unfold uVal
  unfold uCells at hzu hT0 hE0 ⊢
  go_enter Tryz.func21, Tryz.ntmps21
  go_upto_region 1 with fail
  generalize (w.alloc (.cells #[.string (str b.sch), .string (str b.host), .int .i64 b.port, .string (str b.path), .string (str b.query), .string (str b.frag), .bool b.hq, .bool b.hf] 25)).alloc (.cells #[.string (str Url.zero.sch), .string (str Url.zero.host), .int .i64 Url.zero.port, .string (str Url.zero.path), .string (str Url.zero.query), .string (str Url.zero.frag), .bool Url.zero.hq, .bool Url.zero.hf] 25) = w0 at hT0 hE0 ⊢
  go_wp2_with (first
    | ((with_reducible show wpList _ _ _ ({ dst := _, op := Op.load 25 _, type := _, pos := _, after := _, guard := _ } :: _) _ _); refine wpList_load_U _ rfl rfl w.heap.size b rfl hT0.at_ ?_)
    | (go_at_call 15; refine (mayc _ hE0).mono ?_; rintro e w1 ⟨rfl, hb1⟩; have hT1 := hT0.step hb1; have hE1 := hE0.below hb1; rw [hm])
    | (go_at_call 31; refine (clc _ hE1).mono ?_; rintro e w2 ⟨rfl, hb2⟩; have hT2 := hT1.step hb2; have hE2 := hE1.below hb2)
    | (go_at_call 46; refine (cutc _ hE2).mono ?_; rintro e w3 ⟨rfl, hb3⟩; have hT3 := hT2.step hb3; have hE3 := hE2.below hb3; have c0 : w3.cell? ⟨w.heap.size, 0, none⟩ = some (.string (str b.sch)) := hT3.at_.cell 0)
    | (go_at_call 47; refine (slc _).mono ?_; rintro e w4 ⟨rfl, hb4⟩; have hT4 := hT3.step hb4; have hE4 := hE3.below hb4)
    | (go_at_call 11; refine (parc _ hE4).mono ?_; rintro e w5 ⟨rfl, hb5⟩; have hT5 := hT4.step hb5)
    | ((with_reducible show wpList _ _ _ ({ dst := _, op := Op.store 25 (Operand.tmp 4) _, type := _, pos := _, after := _, guard := _ } :: _) _ _); refine wpList_store_U _ _ rfl rfl (w.heap.size + 1) p Url.zero rfl rfl hT5.res ?_))
  refine ret_U2 (u := p) rfl rfl rfl rfl (setRow_U hT5.res) ⟨?_, below_setRow hT5.bel (by omega) _⟩
  rfl
set_option maxHeartbeats 4000000 in
set_option maxRecDepth 100000 in
theorem Join_other (b : Url.U) (l : List UInt8) (w : World) (hE : Env w) (hu : Fits b) (hzb : (Url.str b).length ≤ 10000000) (hz : l.length ≤ 1000000) (hm : Url.may b = true) (hl : ¬ 2048 < (Url.clean l).length) (hs : Url.hasSch (Url.clean l) = true) (h1 : ¬ Url.sch (Url.clean l) = b.sch) :
    Calls Tryz.prog 21 #[uVal b, .string (str l)] w fun e w' => e = .returned (.tuple #[uVal (Url.parse (Url.clean l)), .int .i64 (Url.perr (Url.clean l))]) ∧ Below w.heap.size w w' := by
  have hzu := (zero_of_info zeroURL).1
  have hT0 : TU w.heap.size w ((w.alloc (.cells (uCells b) 25)).alloc (.cells (uCells Url.zero) 25)) b :=
    ⟨UAt.below (heap_alloc_last _ _) ((Below.refl _ _).alloc (Nat.le_refl _) _), alloc_two _ _ _, ((Below.refl _ w).alloc (Nat.le_refl _) _).alloc (by simp) _⟩
  have hE0 := hE.below hT0.bel
  have mayc : ∀ W : World, Env W → Calls Tryz.prog 15 #[uVal b] W fun e w' => e = .returned (.bool (Url.may b)) ∧ Below W.heap.size W w' := fun W h => May_any b W h hu hzb
  have hcl := Url.clean_len l
  have clc : ∀ W : World, Env W → Calls Tryz.prog 31 #[.string (str l)] W fun e w' => e = .returned (.string (str (Url.clean l))) ∧ Below W.heap.size W w' := fun W h => Clean_any l W h (by omega)
  have cutc : ∀ W : World, Env W → Calls Tryz.prog 46 #[.string (str (Url.clean l))] W fun e w' => e = .returned (.tuple #[.string (str (Url.sch (Url.clean l))), .string (str (Url.schR (Url.clean l))), .bool true]) ∧ Below W.heap.size W w' := fun W h => by
    have := cutScheme_any (Url.clean l) W h (by omega)
    unfold cutR at this
    rw [if_pos hs] at this
    exact this
  have hrl := schR_len (Url.clean l)
  have parc : ∀ W : World, Env W → Calls Tryz.prog 11 #[.string (str (Url.clean l))] W fun e w' => e = .returned (.tuple #[uVal (Url.parse (Url.clean l)), .int .i64 (Url.perr (Url.clean l))]) ∧ Below W.heap.size W w' := fun W h => Parse_any _ W h (by omega)
  generalize Url.parse (Url.clean l) = p at *
  generalize Url.perr (Url.clean l) = pe at *
  have hsch : ((str (Url.sch (Url.clean l))).toList == (str b.sch).toList) = false := by rw [str_beq]; exact beq_eq_false_iff_ne.2 h1
  clear h1 hs
  generalize Url.schR (Url.clean l) = r at *
  generalize Url.sch (Url.clean l) = s at *
  generalize Url.clean l = c at *
  have hsz := str_size c
  have hl2 : ¬ (2048 : Int) < (c.length : Int) := by omega
  clear hl
  unfold uVal at hzu
  unfold uVal
  unfold uCells at hzu hT0 hE0 ⊢
  go_enter Tryz.func21, Tryz.ntmps21
  go_upto_region 1 with fail
  generalize (w.alloc (.cells #[.string (str b.sch), .string (str b.host), .int .i64 b.port, .string (str b.path), .string (str b.query), .string (str b.frag), .bool b.hq, .bool b.hf] 25)).alloc (.cells #[.string (str Url.zero.sch), .string (str Url.zero.host), .int .i64 Url.zero.port, .string (str Url.zero.path), .string (str Url.zero.query), .string (str Url.zero.frag), .bool Url.zero.hq, .bool Url.zero.hf] 25) = w0 at hT0 hE0 ⊢
  go_wp2_with (first
    | ((with_reducible show wpList _ _ _ ({ dst := _, op := Op.load 25 _, type := _, pos := _, after := _, guard := _ } :: _) _ _); refine wpList_load_U _ rfl rfl w.heap.size b rfl hT0.at_ ?_)
    | (go_at_call 15; refine (mayc _ hE0).mono ?_; rintro e w1 ⟨rfl, hb1⟩; have hT1 := hT0.step hb1; have hE1 := hE0.below hb1; rw [hm])
    | (go_at_call 31; refine (clc _ hE1).mono ?_; rintro e w2 ⟨rfl, hb2⟩; have hT2 := hT1.step hb2; have hE2 := hE1.below hb2)
    | (go_at_call 46; refine (cutc _ hE2).mono ?_; rintro e w3 ⟨rfl, hb3⟩; have hT3 := hT2.step hb3; have hE3 := hE2.below hb3; have c0 : w3.cell? ⟨w.heap.size, 0, none⟩ = some (.string (str b.sch)) := hT3.at_.cell 0)
    | (go_at_call 11; refine (parc _ hE3).mono ?_; rintro e w5 ⟨rfl, hb5⟩; have hT5 := hT3.step hb5)
    | ((with_reducible show wpList _ _ _ ({ dst := _, op := Op.store 25 (Operand.tmp 4) _, type := _, pos := _, after := _, guard := _ } :: _) _ _); refine wpList_store_U _ _ rfl rfl (w.heap.size + 1) p Url.zero rfl rfl hT5.res ?_))
  refine ret_U2 (u := p) rfl rfl rfl rfl (setRow_U hT5.res) ⟨?_, below_setRow hT5.bel (by omega) _⟩
  rfl
set_option maxHeartbeats 4000000 in
set_option maxRecDepth 100000 in
theorem Join_place (b : Url.U) (l : List UInt8) (w : World) (hE : Env w) (hu : Fits b) (hzb : (Url.str b).length ≤ 10000000) (hz : l.length ≤ 1000000) (hm : Url.may b = true) (hl : ¬ 2048 < (Url.clean l).length) (hs : Url.hasSch (Url.clean l) = false) (h2 : Url.slashed2 (Url.clean l) = true) (hbs : b.sch.length ≤ 1000000) :
    Calls Tryz.prog 21 #[uVal b, .string (str l)] w fun e w' => e = .returned (.tuple #[uVal (Url.parse (b.sch ++ 58 :: Url.clean l)), .int .i64 (Url.perr (b.sch ++ 58 :: Url.clean l))]) ∧ Below w.heap.size w w' := by
  have hzu := (zero_of_info zeroURL).1
  have hT0 : TU w.heap.size w ((w.alloc (.cells (uCells b) 25)).alloc (.cells (uCells Url.zero) 25)) b :=
    ⟨UAt.below (heap_alloc_last _ _) ((Below.refl _ _).alloc (Nat.le_refl _) _), alloc_two _ _ _, ((Below.refl _ w).alloc (Nat.le_refl _) _).alloc (by simp) _⟩
  have hE0 := hE.below hT0.bel
  have mayc : ∀ W : World, Env W → Calls Tryz.prog 15 #[uVal b] W fun e w' => e = .returned (.bool (Url.may b)) ∧ Below W.heap.size W w' := fun W h => May_any b W h hu hzb
  have hcl := Url.clean_len l
  have clc : ∀ W : World, Env W → Calls Tryz.prog 31 #[.string (str l)] W fun e w' => e = .returned (.string (str (Url.clean l))) ∧ Below W.heap.size W w' := fun W h => Clean_any l W h (by omega)
  have cutc : ∀ W : World, Env W → Calls Tryz.prog 46 #[.string (str (Url.clean l))] W fun e w' => e = .returned (.tuple #[.string ⟨#[]⟩, .string ⟨#[]⟩, .bool false]) ∧ Below W.heap.size W w' := fun W h => by
    have := cutScheme_any (Url.clean l) W h (by omega)
    unfold cutR at this
    rw [if_neg (by rw [hs]; decide)] at this
    exact this
  have slc : ∀ W : World, Calls Tryz.prog 47 #[.string (str (Url.clean l))] W fun e w' => e = .returned (.int .i64 (Url.nsl (Url.clean l) : Nat)) ∧ Below W.heap.size W w' := fun W => slashesAhead_any _ W (by omega)
  have parc : ∀ W : World, Env W → Calls Tryz.prog 11 #[.string (str (b.sch ++ 58 :: Url.clean l))] W fun e w' => e = .returned (.tuple #[uVal (Url.parse (b.sch ++ 58 :: Url.clean l)), .int .i64 (Url.perr (b.sch ++ 58 :: Url.clean l))]) ∧ Below W.heap.size W w' := fun W h => Parse_any _ W h (by rw [List.length_append, List.length_cons]; omega)
  generalize Url.parse (b.sch ++ 58 :: Url.clean l) = p at *
  generalize Url.perr (b.sch ++ 58 :: Url.clean l) = pe at *
  have hn2 : (2 : Int) ≤ (Url.nsl (Url.clean l) : Int) := by have := (Url.nsl_two _).2 h2; omega
  have hadd : str b.sch ++ (⟨#[58]⟩ : ByteArray) = str (b.sch ++ [58]) := str_add b.sch [58]
  have hadd2 : str (b.sch ++ [58]) ++ str (Url.clean l) = str (b.sch ++ 58 :: Url.clean l) := by rw [str_add]; congr 1; simp
  have hz1 : (str b.sch).size ≤ 1000000 := by rw [str_size]; exact hbs
  have hz2 : (str (b.sch ++ [58])).size ≤ 1000001 := by rw [str_size, List.length_append]; simp only [List.length_cons, List.length_nil]; omega
  have hz3 : (⟨#[58]⟩ : ByteArray).size = 1 := rfl
  clear h2 hs
  generalize b.sch ++ 58 :: Url.clean l = full at *
  generalize b.sch ++ [58] = half at *
  generalize Url.nsl (Url.clean l) = n at *
  generalize Url.clean l = c at *
  have hsz := str_size c
  have hl2 : ¬ (2048 : Int) < (c.length : Int) := by omega
  clear hl
  unfold uVal at hzu
  unfold uVal
  unfold uCells at hzu hT0 hE0 ⊢
  go_enter Tryz.func21, Tryz.ntmps21
  go_upto_region 1 with fail
  generalize (w.alloc (.cells #[.string (str b.sch), .string (str b.host), .int .i64 b.port, .string (str b.path), .string (str b.query), .string (str b.frag), .bool b.hq, .bool b.hf] 25)).alloc (.cells #[.string (str Url.zero.sch), .string (str Url.zero.host), .int .i64 Url.zero.port, .string (str Url.zero.path), .string (str Url.zero.query), .string (str Url.zero.frag), .bool Url.zero.hq, .bool Url.zero.hf] 25) = w0 at hT0 hE0 ⊢
  go_wp2_with (first
    | ((with_reducible show wpList _ _ _ ({ dst := _, op := Op.load 25 _, type := _, pos := _, after := _, guard := _ } :: _) _ _); refine wpList_load_U _ rfl rfl w.heap.size b rfl hT0.at_ ?_)
    | (go_at_call 15; refine (mayc _ hE0).mono ?_; rintro e w1 ⟨rfl, hb1⟩; have hT1 := hT0.step hb1; have hE1 := hE0.below hb1; rw [hm])
    | (go_at_call 31; refine (clc _ hE1).mono ?_; rintro e w2 ⟨rfl, hb2⟩; have hT2 := hT1.step hb2; have hE2 := hE1.below hb2)
    | (go_at_call 46; refine (cutc _ hE2).mono ?_; rintro e w3 ⟨rfl, hb3⟩; have hT3 := hT2.step hb3; have hE3 := hE2.below hb3)
    | (go_at_call 47; refine (slc _).mono ?_; rintro e w4 ⟨rfl, hb4⟩; have hT4 := hT3.step hb4; have hE4 := hE3.below hb4; have c0 : w4.cell? ⟨w.heap.size, 0, none⟩ = some (.string (str b.sch)) := hT4.at_.cell 0)
    | (go_at_call 11; refine (parc _ hE4).mono ?_; rintro e w5 ⟨rfl, hb5⟩; have hT5 := hT4.step hb5)
    | ((with_reducible show wpList _ _ _ ({ dst := _, op := Op.store 25 (Operand.tmp 4) _, type := _, pos := _, after := _, guard := _ } :: _) _ _); refine wpList_store_U _ _ rfl rfl (w.heap.size + 1) p Url.zero rfl rfl hT5.res ?_))
  refine ret_U2 (u := p) rfl rfl rfl rfl (setRow_U hT5.res) ⟨?_, below_setRow hT5.bel (by omega) _⟩
  rfl
theorem TU.setRow {c d : Nat} {w W : World} {u : Url.U} (h : TU c w W u) (hlt : c + 1 < d) (v : Url.U) : TU c w (W.setRow d (uCells v)) u := ⟨(setRow_other (by omega) _).trans h.at_, (setRow_other (by omega) _).trans h.res, below_setRow h.bel (by omega) _⟩
set_option maxHeartbeats 4000000 in
set_option maxRecDepth 100000 in
theorem Join_much (b : Url.U) (l : List UInt8) (w : World) (hE : Env w) (hu : Fits b) (hzb : (Url.str b).length ≤ 10000000) (hz : l.length ≤ 1000000) (hm : Url.may b = true) (hl : ¬ 2048 < (Url.clean l).length) (hs : Url.hasSch (Url.clean l) = false) (h2 : Url.slashed2 (Url.clean l) = false) (g : Url.Good b) (h3 : 2048 < (Url.str (Url.turned b (Url.clean l))).length) :
    Calls Tryz.prog 21 #[uVal b, .string (str l)] w fun e w' => e = .returned (.tuple #[uVal (Url.zero), .int .i64 (5)]) ∧ Below w.heap.size w w' := by
  have hzu := (zero_of_info zeroURL).1
  have hT0 : TU w.heap.size w ((w.alloc (.cells (uCells b) 25)).alloc (.cells (uCells Url.zero) 25)) b :=
    ⟨UAt.below (heap_alloc_last _ _) ((Below.refl _ _).alloc (Nat.le_refl _) _), alloc_two _ _ _, ((Below.refl _ w).alloc (Nat.le_refl _) _).alloc (by simp) _⟩
  have hE0 := hE.below hT0.bel
  have mayc : ∀ W : World, Env W → Calls Tryz.prog 15 #[uVal b] W fun e w' => e = .returned (.bool (Url.may b)) ∧ Below W.heap.size W w' := fun W h => May_any b W h hu hzb
  have hcl := Url.clean_len l
  have clc : ∀ W : World, Env W → Calls Tryz.prog 31 #[.string (str l)] W fun e w' => e = .returned (.string (str (Url.clean l))) ∧ Below W.heap.size W w' := fun W h => Clean_any l W h (by omega)
  have cutc : ∀ W : World, Env W → Calls Tryz.prog 46 #[.string (str (Url.clean l))] W fun e w' => e = .returned (.tuple #[.string ⟨#[]⟩, .string ⟨#[]⟩, .bool false]) ∧ Below W.heap.size W w' := fun W h => by
    have := cutScheme_any (Url.clean l) W h (by omega)
    unfold cutR at this
    rw [if_neg (by rw [hs]; decide)] at this
    exact this
  have slc : ∀ W : World, Calls Tryz.prog 47 #[.string (str (Url.clean l))] W fun e w' => e = .returned (.int .i64 (Url.nsl (Url.clean l) : Nat)) ∧ Below W.heap.size W w' := fun W => slashesAhead_any _ W (by omega)
  have hstl := stay_len b (Url.clean l) g
  have kpc : ∀ W : World, Env W → Calls Tryz.prog 49 #[uVal b, .string (str (Url.clean l))] W fun e w' => e = .returned (.string (str (Url.stay b (Url.clean l)))) ∧ Below W.heap.size W w' := fun W h => kept_any b _ W h g (by omega)
  have tlc : ∀ W : World, Env W → Calls Tryz.prog 48 #[uVal b, .string (str (Url.stay b (Url.clean l) ++ Url.clean l))] W fun e w' => e = .returned (uVal (Url.turned b (Url.clean l))) ∧ Below W.heap.size W w' := fun W h => Tail_any b _ W h (by rw [List.length_append]; omega)
  have hfit : Fits (Url.turned b (Url.clean l)) := tail_fits (Nat.le_trans (good_fits g).2.2 (by decide)) (by have := g.len; rw [Url.str_parts] at this; simp only [List.length_append, List.length_cons] at this; omega) hu.2.2.2.2.2.1 hu.2.2.2.2.2.2 (by rw [List.length_append]; omega)
  have stc : ∀ W : World, Env W → Calls Tryz.prog 14 #[uVal (Url.turned b (Url.clean l))] W fun e w' => e = .returned (.string (str (Url.str (Url.turned b (Url.clean l))))) ∧ Below W.heap.size W w' := fun W h => String_any _ W h hfit
  have hadd : str (Url.stay b (Url.clean l)) ++ str (Url.clean l) = str (Url.stay b (Url.clean l) ++ Url.clean l) := str_add _ _
  have hz1 : (str (Url.stay b (Url.clean l))).size ≤ 2048 := by rw [str_size]; exact hstl
  have hn2 : ¬ (2 : Int) ≤ (Url.nsl (Url.clean l) : Int) := fun h => by have := (Url.nsl_two (Url.clean l)).1 (by omega); rw [h2] at this; cases this
  have hss := str_size (Url.str (Url.turned b (Url.clean l)))
  clear hfit hstl h2 hs
  generalize Url.str (Url.turned b (Url.clean l)) = ss at *
  generalize Url.turned b (Url.clean l) = v at *
  generalize Url.stay b (Url.clean l) ++ Url.clean l = kc at *
  generalize Url.stay b (Url.clean l) = kp at *
  generalize Url.nsl (Url.clean l) = n at *
  have h4 : (2048 : Int) < (ss.length : Int) := by omega
  clear h3
  generalize Url.clean l = c at *
  have hsz := str_size c
  have hl2 : ¬ (2048 : Int) < (c.length : Int) := by omega
  clear hl
  unfold uVal at hzu
  unfold uVal
  unfold uCells at hzu hT0 hE0 ⊢
  go_enter Tryz.func21, Tryz.ntmps21
  go_upto_region 1 with fail
  generalize (w.alloc (.cells #[.string (str b.sch), .string (str b.host), .int .i64 b.port, .string (str b.path), .string (str b.query), .string (str b.frag), .bool b.hq, .bool b.hf] 25)).alloc (.cells #[.string (str Url.zero.sch), .string (str Url.zero.host), .int .i64 Url.zero.port, .string (str Url.zero.path), .string (str Url.zero.query), .string (str Url.zero.frag), .bool Url.zero.hq, .bool Url.zero.hf] 25) = w0 at hT0 hE0 ⊢
  go_upto_region 13 with (first
    | ((with_reducible show wpList _ _ _ ({ dst := _, op := Op.load 25 _, type := _, pos := _, after := _, guard := _ } :: _) _ _); refine wpList_load_U _ rfl rfl w.heap.size b rfl hT0.at_ ?_)
    | (go_at_call 15; refine (mayc _ hE0).mono ?_; rintro e w1 ⟨rfl, hb1⟩; have hT1 := hT0.step hb1; have hE1 := hE0.below hb1; rw [hm])
    | (go_at_call 31; refine (clc _ hE1).mono ?_; rintro e w2 ⟨rfl, hb2⟩; have hT2 := hT1.step hb2; have hE2 := hE1.below hb2)
    | (go_at_call 46; refine (cutc _ hE2).mono ?_; rintro e w3 ⟨rfl, hb3⟩; have hT3 := hT2.step hb3; have hE3 := hE2.below hb3)
    | (go_at_call 47; refine (slc _).mono ?_; rintro e w4 ⟨rfl, hb4⟩; have hT4 := hT3.step hb4; have hE4 := hE3.below hb4))
  clear hT0 hT1 hT2 hT3 hE0 hE1 hE2 hE3 hE4 hb1 hb2 hb3 hb4
  go_cut [9] from 56 to 62 (fun s9 w' => ∃ b9, s9 = Value.pointer (some ⟨b9, 0, none⟩) ∧ UAt w' b9 v ∧ TU w.heap.size w w' b ∧ w.heap.size + 1 < b9)
  case first =>
    obtain ⟨S, hS1⟩ : ∃ S : World → Prop, ∀ W, S W ↔ TU w.heap.size w W b := ⟨_, fun _ => Iff.rfl⟩
    refine wp_region_held_drew (S := S) (by kernel_rfl) ((hS1 _).2 (hT4.step ((Below.refl _ _).drew))) (fun hS => ?_)
    generalize World.drew w4 = wd at hS ⊢
    refine takeH 0 56 (uVal (b)) rfl rfl (by kernel_rfl) (by kernel_rfl) (by kernel_rfl) (fun _ _ _ h => h) (hy_load_U (Operand.tmp 2) rfl (by kernel_rfl) (w.heap.size) (b) (by kernel_rfl) (fun W h => ((hS1 W).1 h).at_)) hS ?_
    simp only [Act.put, List.setIfInBounds_toArray, List.set_cons_zero, List.set_cons_succ]
    refine takeH 1 57 (uVal (b)) rfl rfl (by kernel_rfl) (by kernel_rfl) (by kernel_rfl) (fun _ _ _ h => h) (hy_load_U (Operand.tmp 2) rfl (by kernel_rfl) (w.heap.size) (b) (by kernel_rfl) (fun W h => ((hS1 W).1 h).at_)) hS ?_
    simp only [Act.put, List.setIfInBounds_toArray, List.set_cons_zero, List.set_cons_succ]
    refine takeH 2 58 (.string (str c)) rfl rfl (by kernel_rfl) (by kernel_rfl) (by kernel_rfl) (fun _ _ _ h => h) (Or.inl ⟨by kernel_rfl, fun W _ => by go_simp⟩) hS ?_
    simp only [Act.put, List.setIfInBounds_toArray, List.set_cons_zero, List.set_cons_succ]
    refine takeH 4 60 (.string (str c)) rfl rfl (by kernel_rfl) (by kernel_rfl) (by kernel_rfl) (fun _ _ _ h => h) (Or.inl ⟨by kernel_rfl, fun W _ => by go_simp⟩) hS ?_
    simp only [Act.put, List.setIfInBounds_toArray, List.set_cons_zero, List.set_cons_succ]
    refine wpAnyH_ready (rs := [3, 7]) (by kernel_rfl) (by simp) ?_
    refine AllReadyH.cons rfl (fun K hK => ?_) (AllReadyH.cons rfl (fun K hK => ?_) AllReadyH.nil)
    · go_simp
      refine (kpc _ (hE.below ((hS1 _).1 hS).bel)).mono ?_
      rintro e x1 ⟨rfl, hx1⟩
      refine hK.out _ _ ((hS1 _).2 (((hS1 _).1 hS).step hx1)) (fun hS => ?_)
      clear hK K
      refine takeH 5 61 (.string (str kc)) rfl rfl (by kernel_rfl) (by kernel_rfl) (by kernel_rfl) (fun _ _ _ h => h) (Or.inl ⟨by kernel_rfl, fun W _ => by go_simp; omega⟩) hS ?_
      simp only [Act.put, List.setIfInBounds_toArray, List.set_cons_zero, List.set_cons_succ]
      refine wpAnyH_ready (rs := [6, 7]) (by kernel_rfl) (by simp) ?_
      refine AllReadyH.cons rfl (fun K hK => ?_) (AllReadyH.cons rfl (fun K hK => ?_) AllReadyH.nil)
      · go_simp
        refine (tlc _ (hE.below ((hS1 _).1 hS).bel)).mono ?_
        rintro e x2 ⟨rfl, hx2⟩
        refine hK.out _ _ ((hS1 _).2 (((hS1 _).1 hS).step hx2)) (fun hS => ?_)
        clear hK K
        refine wpAnyH_ready (rs := [7]) (by kernel_rfl) (by simp) ?_
        refine AllReadyH.cons rfl (fun K hK => ?_) AllReadyH.nil
        go_simp
        have hZ : UAt (x2.alloc (.cells (uCells Url.zero) 25)) x2.heap.size Url.zero := heap_alloc_last _ _
        have hTz := ((hS1 _).1 hS).step (W' := x2.alloc (.cells (uCells Url.zero) 25)) ((Below.refl _ _).alloc (Nat.le_refl _) _)
        have hlt9 := ((hS1 _).1 hS).res.lt
        unfold uCells at hZ hTz
        refine hK.out _ _ ((hS1 _).2 hTz) (fun hS => ?_)
        clear hK K
        generalize x2.alloc (.cells #[.string (str Url.zero.sch), .string (str Url.zero.host), .int .i64 Url.zero.port, .string (str Url.zero.path), .string (str Url.zero.query), .string (str Url.zero.frag), .bool Url.zero.hq, .bool Url.zero.hf] 25) = x3 at hZ hTz hS ⊢
        generalize x2.heap.size = b9 at hZ hlt9 ⊢
        refine anyH_store_U 8 (by kernel_rfl) rfl rfl (Operand.tmp 9) (Operand.tmp 62) rfl rfl b9 v Url.zero (by kernel_rfl) (by kernel_rfl) (hZ) ((hS1 _).2 (((hS1 _).1 hS).setRow (by omega) v)) (fun hS => ?_)
        refine wpAnyH_done (by kernel_rfl) ?_ _
        go_wp2
        go_meet
        case rel => exact ⟨b9, rfl, setRow_U (hZ), (hS1 _).1 hS, by omega⟩
      · go_simp
        have hZ : UAt (x1.alloc (.cells (uCells Url.zero) 25)) x1.heap.size Url.zero := heap_alloc_last _ _
        have hTz := ((hS1 _).1 hS).step (W' := x1.alloc (.cells (uCells Url.zero) 25)) ((Below.refl _ _).alloc (Nat.le_refl _) _)
        have hlt9 := ((hS1 _).1 hS).res.lt
        unfold uCells at hZ hTz
        refine hK.out _ _ ((hS1 _).2 hTz) (fun hS => ?_)
        clear hK K
        generalize x1.alloc (.cells #[.string (str Url.zero.sch), .string (str Url.zero.host), .int .i64 Url.zero.port, .string (str Url.zero.path), .string (str Url.zero.query), .string (str Url.zero.frag), .bool Url.zero.hq, .bool Url.zero.hf] 25) = x3 at hZ hTz hS ⊢
        generalize x1.heap.size = b9 at hZ hlt9 ⊢
        refine wpAnyH_ready (rs := [6]) (by kernel_rfl) (by simp) ?_
        refine AllReadyH.cons rfl (fun K hK => ?_) AllReadyH.nil
        go_simp
        refine (tlc _ (hE.below ((hS1 _).1 hS).bel)).mono ?_
        rintro e x4 ⟨rfl, hx4⟩
        refine hK.out _ _ ((hS1 _).2 (((hS1 _).1 hS).step hx4)) (fun hS => ?_)
        clear hK K
        refine anyH_store_U 8 (by kernel_rfl) rfl rfl (Operand.tmp 9) (Operand.tmp 62) rfl rfl b9 v Url.zero (by kernel_rfl) (by kernel_rfl) (hZ.below hx4) ((hS1 _).2 (((hS1 _).1 hS).setRow (by omega) v)) (fun hS => ?_)
        refine wpAnyH_done (by kernel_rfl) ?_ _
        go_wp2
        go_meet
        case rel => exact ⟨b9, rfl, setRow_U (hZ.below hx4), (hS1 _).1 hS, by omega⟩
    · go_simp
      have hZ : UAt (wd.alloc (.cells (uCells Url.zero) 25)) wd.heap.size Url.zero := heap_alloc_last _ _
      have hTz := ((hS1 _).1 hS).step (W' := wd.alloc (.cells (uCells Url.zero) 25)) ((Below.refl _ _).alloc (Nat.le_refl _) _)
      have hlt9 := ((hS1 _).1 hS).res.lt
      unfold uCells at hZ hTz
      refine hK.out _ _ ((hS1 _).2 hTz) (fun hS => ?_)
      clear hK K
      generalize wd.alloc (.cells #[.string (str Url.zero.sch), .string (str Url.zero.host), .int .i64 Url.zero.port, .string (str Url.zero.path), .string (str Url.zero.query), .string (str Url.zero.frag), .bool Url.zero.hq, .bool Url.zero.hf] 25) = x5 at hZ hTz hS ⊢
      generalize wd.heap.size = b9 at hZ hlt9 ⊢
      refine wpAnyH_ready (rs := [3]) (by kernel_rfl) (by simp) ?_
      refine AllReadyH.cons rfl (fun K hK => ?_) AllReadyH.nil
      go_simp
      refine (kpc _ (hE.below ((hS1 _).1 hS).bel)).mono ?_
      rintro e x6 ⟨rfl, hx6⟩
      refine hK.out _ _ ((hS1 _).2 (((hS1 _).1 hS).step hx6)) (fun hS => ?_)
      clear hK K
      refine takeH 5 61 (.string (str kc)) rfl rfl (by kernel_rfl) (by kernel_rfl) (by kernel_rfl) (fun _ _ _ h => h) (Or.inl ⟨by kernel_rfl, fun W _ => by go_simp; omega⟩) hS ?_
      simp only [Act.put, List.setIfInBounds_toArray, List.set_cons_zero, List.set_cons_succ]
      refine wpAnyH_ready (rs := [6]) (by kernel_rfl) (by simp) ?_
      refine AllReadyH.cons rfl (fun K hK => ?_) AllReadyH.nil
      go_simp
      refine (tlc _ (hE.below ((hS1 _).1 hS).bel)).mono ?_
      rintro e x7 ⟨rfl, hx7⟩
      refine hK.out _ _ ((hS1 _).2 (((hS1 _).1 hS).step hx7)) (fun hS => ?_)
      clear hK K
      refine anyH_store_U 8 (by kernel_rfl) rfl rfl (Operand.tmp 9) (Operand.tmp 62) rfl rfl b9 v Url.zero (by kernel_rfl) (by kernel_rfl) ((hZ.below hx6).below hx7) ((hS1 _).2 (((hS1 _).1 hS).setRow (by omega) v)) (fun hS => ?_)
      refine wpAnyH_done (by kernel_rfl) ?_ _
      go_wp2
      go_meet
      case rel => exact ⟨b9, rfl, setRow_U ((hZ.below hx6).below hx7), (hS1 _).1 hS, by omega⟩
  case rest =>
    obtain ⟨b9, rfl, hV, hT6, hlt9⟩ := hcut
    go_wp2_with (first
      | ((with_reducible show wpList _ _ _ ({ dst := _, op := Op.load 25 _, type := _, pos := _, after := _, guard := _ } :: _) _ _); refine wpList_load_U _ rfl rfl b9 v rfl hV ?_)
      | (go_at_call 14; refine (stc _ (hE.below hT6.bel)).mono ?_; rintro e w7 ⟨rfl, hb7⟩; have hT7 := hT6.step hb7; have hV7 := hV.below hb7)
      | ((with_reducible show wpList _ _ _ ({ dst := _, op := Op.load 25 _, type := _, pos := _, after := _, guard := _ } :: _) _ _); refine wpList_load_U _ rfl rfl b9 v rfl hV7 ?_)
      | ((with_reducible show wpList _ _ _ ({ dst := _, op := Op.store 25 (Operand.tmp 4) _, type := _, pos := _, after := _, guard := _ } :: _) _ _); refine wpList_store_U _ _ rfl rfl (w.heap.size + 1) Url.zero Url.zero rfl rfl hT7.res ?_))
    refine ret_U2 (u := Url.zero) rfl rfl rfl rfl (setRow_U hT7.res) ⟨?_, below_setRow hT7.bel (by omega) _⟩
    rfl
set_option maxHeartbeats 4000000 in
set_option maxRecDepth 100000 in
theorem Join_turned (b : Url.U) (l : List UInt8) (w : World) (hE : Env w) (hu : Fits b) (hzb : (Url.str b).length ≤ 10000000) (hz : l.length ≤ 1000000) (hm : Url.may b = true) (hl : ¬ 2048 < (Url.clean l).length) (hs : Url.hasSch (Url.clean l) = false) (h2 : Url.slashed2 (Url.clean l) = false) (g : Url.Good b) (h3 : ¬ 2048 < (Url.str (Url.turned b (Url.clean l))).length) :
    Calls Tryz.prog 21 #[uVal b, .string (str l)] w fun e w' => e = .returned (.tuple #[uVal (Url.turned b (Url.clean l)), .int .i64 (0)]) ∧ Below w.heap.size w w' := by
  have hzu := (zero_of_info zeroURL).1
  have hT0 : TU w.heap.size w ((w.alloc (.cells (uCells b) 25)).alloc (.cells (uCells Url.zero) 25)) b :=
    ⟨UAt.below (heap_alloc_last _ _) ((Below.refl _ _).alloc (Nat.le_refl _) _), alloc_two _ _ _, ((Below.refl _ w).alloc (Nat.le_refl _) _).alloc (by simp) _⟩
  have hE0 := hE.below hT0.bel
  have mayc : ∀ W : World, Env W → Calls Tryz.prog 15 #[uVal b] W fun e w' => e = .returned (.bool (Url.may b)) ∧ Below W.heap.size W w' := fun W h => May_any b W h hu hzb
  have hcl := Url.clean_len l
  have clc : ∀ W : World, Env W → Calls Tryz.prog 31 #[.string (str l)] W fun e w' => e = .returned (.string (str (Url.clean l))) ∧ Below W.heap.size W w' := fun W h => Clean_any l W h (by omega)
  have cutc : ∀ W : World, Env W → Calls Tryz.prog 46 #[.string (str (Url.clean l))] W fun e w' => e = .returned (.tuple #[.string ⟨#[]⟩, .string ⟨#[]⟩, .bool false]) ∧ Below W.heap.size W w' := fun W h => by
    have := cutScheme_any (Url.clean l) W h (by omega)
    unfold cutR at this
    rw [if_neg (by rw [hs]; decide)] at this
    exact this
  have slc : ∀ W : World, Calls Tryz.prog 47 #[.string (str (Url.clean l))] W fun e w' => e = .returned (.int .i64 (Url.nsl (Url.clean l) : Nat)) ∧ Below W.heap.size W w' := fun W => slashesAhead_any _ W (by omega)
  have hstl := stay_len b (Url.clean l) g
  have kpc : ∀ W : World, Env W → Calls Tryz.prog 49 #[uVal b, .string (str (Url.clean l))] W fun e w' => e = .returned (.string (str (Url.stay b (Url.clean l)))) ∧ Below W.heap.size W w' := fun W h => kept_any b _ W h g (by omega)
  have tlc : ∀ W : World, Env W → Calls Tryz.prog 48 #[uVal b, .string (str (Url.stay b (Url.clean l) ++ Url.clean l))] W fun e w' => e = .returned (uVal (Url.turned b (Url.clean l))) ∧ Below W.heap.size W w' := fun W h => Tail_any b _ W h (by rw [List.length_append]; omega)
  have hfit : Fits (Url.turned b (Url.clean l)) := tail_fits (Nat.le_trans (good_fits g).2.2 (by decide)) (by have := g.len; rw [Url.str_parts] at this; simp only [List.length_append, List.length_cons] at this; omega) hu.2.2.2.2.2.1 hu.2.2.2.2.2.2 (by rw [List.length_append]; omega)
  have stc : ∀ W : World, Env W → Calls Tryz.prog 14 #[uVal (Url.turned b (Url.clean l))] W fun e w' => e = .returned (.string (str (Url.str (Url.turned b (Url.clean l))))) ∧ Below W.heap.size W w' := fun W h => String_any _ W h hfit
  have hadd : str (Url.stay b (Url.clean l)) ++ str (Url.clean l) = str (Url.stay b (Url.clean l) ++ Url.clean l) := str_add _ _
  have hz1 : (str (Url.stay b (Url.clean l))).size ≤ 2048 := by rw [str_size]; exact hstl
  have hn2 : ¬ (2 : Int) ≤ (Url.nsl (Url.clean l) : Int) := fun h => by have := (Url.nsl_two (Url.clean l)).1 (by omega); rw [h2] at this; cases this
  have hss := str_size (Url.str (Url.turned b (Url.clean l)))
  clear hfit hstl h2 hs
  generalize Url.str (Url.turned b (Url.clean l)) = ss at *
  generalize Url.turned b (Url.clean l) = v at *
  generalize Url.stay b (Url.clean l) ++ Url.clean l = kc at *
  generalize Url.stay b (Url.clean l) = kp at *
  generalize Url.nsl (Url.clean l) = n at *
  have h4 : ¬ (2048 : Int) < (ss.length : Int) := by omega
  clear h3
  generalize Url.clean l = c at *
  have hsz := str_size c
  have hl2 : ¬ (2048 : Int) < (c.length : Int) := by omega
  clear hl
  unfold uVal at hzu
  unfold uVal
  unfold uCells at hzu hT0 hE0 ⊢
  go_enter Tryz.func21, Tryz.ntmps21
  go_upto_region 1 with fail
  generalize (w.alloc (.cells #[.string (str b.sch), .string (str b.host), .int .i64 b.port, .string (str b.path), .string (str b.query), .string (str b.frag), .bool b.hq, .bool b.hf] 25)).alloc (.cells #[.string (str Url.zero.sch), .string (str Url.zero.host), .int .i64 Url.zero.port, .string (str Url.zero.path), .string (str Url.zero.query), .string (str Url.zero.frag), .bool Url.zero.hq, .bool Url.zero.hf] 25) = w0 at hT0 hE0 ⊢
  go_upto_region 13 with (first
    | ((with_reducible show wpList _ _ _ ({ dst := _, op := Op.load 25 _, type := _, pos := _, after := _, guard := _ } :: _) _ _); refine wpList_load_U _ rfl rfl w.heap.size b rfl hT0.at_ ?_)
    | (go_at_call 15; refine (mayc _ hE0).mono ?_; rintro e w1 ⟨rfl, hb1⟩; have hT1 := hT0.step hb1; have hE1 := hE0.below hb1; rw [hm])
    | (go_at_call 31; refine (clc _ hE1).mono ?_; rintro e w2 ⟨rfl, hb2⟩; have hT2 := hT1.step hb2; have hE2 := hE1.below hb2)
    | (go_at_call 46; refine (cutc _ hE2).mono ?_; rintro e w3 ⟨rfl, hb3⟩; have hT3 := hT2.step hb3; have hE3 := hE2.below hb3)
    | (go_at_call 47; refine (slc _).mono ?_; rintro e w4 ⟨rfl, hb4⟩; have hT4 := hT3.step hb4; have hE4 := hE3.below hb4))
  clear hT0 hT1 hT2 hT3 hE0 hE1 hE2 hE3 hE4 hb1 hb2 hb3 hb4
  go_cut [9] from 56 to 62 (fun s9 w' => ∃ b9, s9 = Value.pointer (some ⟨b9, 0, none⟩) ∧ UAt w' b9 v ∧ TU w.heap.size w w' b ∧ w.heap.size + 1 < b9)
  case first =>
    obtain ⟨S, hS1⟩ : ∃ S : World → Prop, ∀ W, S W ↔ TU w.heap.size w W b := ⟨_, fun _ => Iff.rfl⟩
    refine wp_region_held_drew (S := S) (by kernel_rfl) ((hS1 _).2 (hT4.step ((Below.refl _ _).drew))) (fun hS => ?_)
    generalize World.drew w4 = wd at hS ⊢
    refine takeH 0 56 (uVal (b)) rfl rfl (by kernel_rfl) (by kernel_rfl) (by kernel_rfl) (fun _ _ _ h => h) (hy_load_U (Operand.tmp 2) rfl (by kernel_rfl) (w.heap.size) (b) (by kernel_rfl) (fun W h => ((hS1 W).1 h).at_)) hS ?_
    simp only [Act.put, List.setIfInBounds_toArray, List.set_cons_zero, List.set_cons_succ]
    refine takeH 1 57 (uVal (b)) rfl rfl (by kernel_rfl) (by kernel_rfl) (by kernel_rfl) (fun _ _ _ h => h) (hy_load_U (Operand.tmp 2) rfl (by kernel_rfl) (w.heap.size) (b) (by kernel_rfl) (fun W h => ((hS1 W).1 h).at_)) hS ?_
    simp only [Act.put, List.setIfInBounds_toArray, List.set_cons_zero, List.set_cons_succ]
    refine takeH 2 58 (.string (str c)) rfl rfl (by kernel_rfl) (by kernel_rfl) (by kernel_rfl) (fun _ _ _ h => h) (Or.inl ⟨by kernel_rfl, fun W _ => by go_simp⟩) hS ?_
    simp only [Act.put, List.setIfInBounds_toArray, List.set_cons_zero, List.set_cons_succ]
    refine takeH 4 60 (.string (str c)) rfl rfl (by kernel_rfl) (by kernel_rfl) (by kernel_rfl) (fun _ _ _ h => h) (Or.inl ⟨by kernel_rfl, fun W _ => by go_simp⟩) hS ?_
    simp only [Act.put, List.setIfInBounds_toArray, List.set_cons_zero, List.set_cons_succ]
    refine wpAnyH_ready (rs := [3, 7]) (by kernel_rfl) (by simp) ?_
    refine AllReadyH.cons rfl (fun K hK => ?_) (AllReadyH.cons rfl (fun K hK => ?_) AllReadyH.nil)
    · go_simp
      refine (kpc _ (hE.below ((hS1 _).1 hS).bel)).mono ?_
      rintro e x1 ⟨rfl, hx1⟩
      refine hK.out _ _ ((hS1 _).2 (((hS1 _).1 hS).step hx1)) (fun hS => ?_)
      clear hK K
      refine takeH 5 61 (.string (str kc)) rfl rfl (by kernel_rfl) (by kernel_rfl) (by kernel_rfl) (fun _ _ _ h => h) (Or.inl ⟨by kernel_rfl, fun W _ => by go_simp; omega⟩) hS ?_
      simp only [Act.put, List.setIfInBounds_toArray, List.set_cons_zero, List.set_cons_succ]
      refine wpAnyH_ready (rs := [6, 7]) (by kernel_rfl) (by simp) ?_
      refine AllReadyH.cons rfl (fun K hK => ?_) (AllReadyH.cons rfl (fun K hK => ?_) AllReadyH.nil)
      · go_simp
        refine (tlc _ (hE.below ((hS1 _).1 hS).bel)).mono ?_
        rintro e x2 ⟨rfl, hx2⟩
        refine hK.out _ _ ((hS1 _).2 (((hS1 _).1 hS).step hx2)) (fun hS => ?_)
        clear hK K
        refine wpAnyH_ready (rs := [7]) (by kernel_rfl) (by simp) ?_
        refine AllReadyH.cons rfl (fun K hK => ?_) AllReadyH.nil
        go_simp
        have hZ : UAt (x2.alloc (.cells (uCells Url.zero) 25)) x2.heap.size Url.zero := heap_alloc_last _ _
        have hTz := ((hS1 _).1 hS).step (W' := x2.alloc (.cells (uCells Url.zero) 25)) ((Below.refl _ _).alloc (Nat.le_refl _) _)
        have hlt9 := ((hS1 _).1 hS).res.lt
        unfold uCells at hZ hTz
        refine hK.out _ _ ((hS1 _).2 hTz) (fun hS => ?_)
        clear hK K
        generalize x2.alloc (.cells #[.string (str Url.zero.sch), .string (str Url.zero.host), .int .i64 Url.zero.port, .string (str Url.zero.path), .string (str Url.zero.query), .string (str Url.zero.frag), .bool Url.zero.hq, .bool Url.zero.hf] 25) = x3 at hZ hTz hS ⊢
        generalize x2.heap.size = b9 at hZ hlt9 ⊢
        refine anyH_store_U 8 (by kernel_rfl) rfl rfl (Operand.tmp 9) (Operand.tmp 62) rfl rfl b9 v Url.zero (by kernel_rfl) (by kernel_rfl) (hZ) ((hS1 _).2 (((hS1 _).1 hS).setRow (by omega) v)) (fun hS => ?_)
        refine wpAnyH_done (by kernel_rfl) ?_ _
        go_wp2
        go_meet
        case rel => exact ⟨b9, rfl, setRow_U (hZ), (hS1 _).1 hS, by omega⟩
      · go_simp
        have hZ : UAt (x1.alloc (.cells (uCells Url.zero) 25)) x1.heap.size Url.zero := heap_alloc_last _ _
        have hTz := ((hS1 _).1 hS).step (W' := x1.alloc (.cells (uCells Url.zero) 25)) ((Below.refl _ _).alloc (Nat.le_refl _) _)
        have hlt9 := ((hS1 _).1 hS).res.lt
        unfold uCells at hZ hTz
        refine hK.out _ _ ((hS1 _).2 hTz) (fun hS => ?_)
        clear hK K
        generalize x1.alloc (.cells #[.string (str Url.zero.sch), .string (str Url.zero.host), .int .i64 Url.zero.port, .string (str Url.zero.path), .string (str Url.zero.query), .string (str Url.zero.frag), .bool Url.zero.hq, .bool Url.zero.hf] 25) = x3 at hZ hTz hS ⊢
        generalize x1.heap.size = b9 at hZ hlt9 ⊢
        refine wpAnyH_ready (rs := [6]) (by kernel_rfl) (by simp) ?_
        refine AllReadyH.cons rfl (fun K hK => ?_) AllReadyH.nil
        go_simp
        refine (tlc _ (hE.below ((hS1 _).1 hS).bel)).mono ?_
        rintro e x4 ⟨rfl, hx4⟩
        refine hK.out _ _ ((hS1 _).2 (((hS1 _).1 hS).step hx4)) (fun hS => ?_)
        clear hK K
        refine anyH_store_U 8 (by kernel_rfl) rfl rfl (Operand.tmp 9) (Operand.tmp 62) rfl rfl b9 v Url.zero (by kernel_rfl) (by kernel_rfl) (hZ.below hx4) ((hS1 _).2 (((hS1 _).1 hS).setRow (by omega) v)) (fun hS => ?_)
        refine wpAnyH_done (by kernel_rfl) ?_ _
        go_wp2
        go_meet
        case rel => exact ⟨b9, rfl, setRow_U (hZ.below hx4), (hS1 _).1 hS, by omega⟩
    · go_simp
      have hZ : UAt (wd.alloc (.cells (uCells Url.zero) 25)) wd.heap.size Url.zero := heap_alloc_last _ _
      have hTz := ((hS1 _).1 hS).step (W' := wd.alloc (.cells (uCells Url.zero) 25)) ((Below.refl _ _).alloc (Nat.le_refl _) _)
      have hlt9 := ((hS1 _).1 hS).res.lt
      unfold uCells at hZ hTz
      refine hK.out _ _ ((hS1 _).2 hTz) (fun hS => ?_)
      clear hK K
      generalize wd.alloc (.cells #[.string (str Url.zero.sch), .string (str Url.zero.host), .int .i64 Url.zero.port, .string (str Url.zero.path), .string (str Url.zero.query), .string (str Url.zero.frag), .bool Url.zero.hq, .bool Url.zero.hf] 25) = x5 at hZ hTz hS ⊢
      generalize wd.heap.size = b9 at hZ hlt9 ⊢
      refine wpAnyH_ready (rs := [3]) (by kernel_rfl) (by simp) ?_
      refine AllReadyH.cons rfl (fun K hK => ?_) AllReadyH.nil
      go_simp
      refine (kpc _ (hE.below ((hS1 _).1 hS).bel)).mono ?_
      rintro e x6 ⟨rfl, hx6⟩
      refine hK.out _ _ ((hS1 _).2 (((hS1 _).1 hS).step hx6)) (fun hS => ?_)
      clear hK K
      refine takeH 5 61 (.string (str kc)) rfl rfl (by kernel_rfl) (by kernel_rfl) (by kernel_rfl) (fun _ _ _ h => h) (Or.inl ⟨by kernel_rfl, fun W _ => by go_simp; omega⟩) hS ?_
      simp only [Act.put, List.setIfInBounds_toArray, List.set_cons_zero, List.set_cons_succ]
      refine wpAnyH_ready (rs := [6]) (by kernel_rfl) (by simp) ?_
      refine AllReadyH.cons rfl (fun K hK => ?_) AllReadyH.nil
      go_simp
      refine (tlc _ (hE.below ((hS1 _).1 hS).bel)).mono ?_
      rintro e x7 ⟨rfl, hx7⟩
      refine hK.out _ _ ((hS1 _).2 (((hS1 _).1 hS).step hx7)) (fun hS => ?_)
      clear hK K
      refine anyH_store_U 8 (by kernel_rfl) rfl rfl (Operand.tmp 9) (Operand.tmp 62) rfl rfl b9 v Url.zero (by kernel_rfl) (by kernel_rfl) ((hZ.below hx6).below hx7) ((hS1 _).2 (((hS1 _).1 hS).setRow (by omega) v)) (fun hS => ?_)
      refine wpAnyH_done (by kernel_rfl) ?_ _
      go_wp2
      go_meet
      case rel => exact ⟨b9, rfl, setRow_U ((hZ.below hx6).below hx7), (hS1 _).1 hS, by omega⟩
  case rest =>
    obtain ⟨b9, rfl, hV, hT6, hlt9⟩ := hcut
    go_wp2_with (first
      | ((with_reducible show wpList _ _ _ ({ dst := _, op := Op.load 25 _, type := _, pos := _, after := _, guard := _ } :: _) _ _); refine wpList_load_U _ rfl rfl b9 v rfl hV ?_)
      | (go_at_call 14; refine (stc _ (hE.below hT6.bel)).mono ?_; rintro e w7 ⟨rfl, hb7⟩; have hT7 := hT6.step hb7; have hV7 := hV.below hb7)
      | ((with_reducible show wpList _ _ _ ({ dst := _, op := Op.load 25 _, type := _, pos := _, after := _, guard := _ } :: _) _ _); refine wpList_load_U _ rfl rfl b9 v rfl hV7 ?_)
      | ((with_reducible show wpList _ _ _ ({ dst := _, op := Op.store 25 (Operand.tmp 4) _, type := _, pos := _, after := _, guard := _ } :: _) _ _); refine wpList_store_U _ _ rfl rfl (w.heap.size + 1) v Url.zero rfl rfl hT7.res ?_))
    refine ret_U2 (u := v) rfl rfl rfl rfl (setRow_U hT7.res) ⟨?_, below_setRow hT7.bel (by omega) _⟩
    rfl
/-- Join, whatever the base and the link. -/
theorem JJoin_any (b : Url.U) (hu : Fits b) (hzb : (Url.str b).length ≤ 10000000) : ∀ (n : Nat) (l : List UInt8) (w : World), l.length ≤ n → Env w → l.length ≤ 1000000 →
    Calls Tryz.prog 21 #[uVal b, .string (str l)] w fun e w' => e = .returned (.tuple #[uVal (Url.join b l).2, .int .i64 (Url.join b l).1]) ∧ Below w.heap.size w w'
  | n, l, w, hn, hE, hz => by
    cases hm : Url.may b
    · rw [Url.join_bad l hm]
      exact Join_bad b l w hE hu hzb hz hm
    · have g := Url.may_good hm
      by_cases hl : 2048 < (Url.clean l).length
      · rw [Url.join_long hm hl]
        exact Join_long b l w hE hu hzb hz hm hl
      · cases hs : Url.hasSch (Url.clean l)
        · cases h2 : Url.slashed2 (Url.clean l)
          · by_cases h3 : 2048 < (Url.str (Url.turned b (Url.clean l))).length
            · rw [Url.join_much hm hl hs h2 h3]
              exact Join_much b l w hE hu hzb hz hm hl hs h2 g h3
            · rw [Url.join_turned hm hl hs h2 h3]
              exact Join_turned b l w hE hu hzb hz hm hl hs h2 g h3
          · rw [Url.join_place hm hl hs h2]
            exact Join_place b l w hE hu hzb hz hm hl hs h2 (Nat.le_trans (good_fits g).2.2 (by decide))
        · by_cases h1 : Url.sch (Url.clean l) = b.sch
          · cases h2 : Url.slashed (Url.schR (Url.clean l))
            · rw [Url.join_again hm hl hs h1 h2]
              have hlt := Url.schR_lt hs
              have hcl := Url.clean_len l
              cases n with
              | zero => omega
              | succ n => exact Join_again b l w hE hu hzb hz hm hl hs h1 h2 _ _ (fun W h => JJoin_any b hu hzb n _ W (by omega) h (by omega))
            · rw [Url.join_parse hm hl hs (fun h => by rw [h2] at h; cases h.2)]
              exact Join_slash b l w hE hu hzb hz hm hl hs h1 h2
          · rw [Url.join_parse hm hl hs (fun h => h1 h.1)]
            exact Join_other b l w hE hu hzb hz hm hl hs h1
end Go.Proofs.YtnmkhbelmdokmaaGreatDoor
/- Contracts of the law's own long, far, base and alive; of the reference's May of layer 5; of package join's Link and Same. -/
namespace Go.Proofs.YtnmkhbelmdokmaaGreatDoor
open Go.RowKit
theorem long5_any (l : List UInt8) (w : World) :
    Calls Tryz.prog 19 #[.string (str l)] w fun e w' => e = .returned (.bool (longU l)) ∧ w' = w := by
  have hsz := str_size l
  go_enter Tryz.func19, Tryz.ntmps19
  go_wp2
  go_ret
  exact ⟨ret_bool (by unfold longU; rw [decide_eq_decide]; omega), rfl⟩
def farU (u : Url.U) : Bool := longU u.sch || longU (Url.str u)
set_option maxHeartbeats 2000000 in
set_option maxRecDepth 100000 in
theorem far_any (u : Url.U) (w : World) (hu : Fits u) :
    Calls Tryz.prog 18 #[uVal u] w fun e w' => e = .returned (.bool (farU u)) ∧ Below w.heap.size w w' := by
  have hb0 : Below w.heap.size w (w.alloc (.cells (uCells u) 25)) := (Below.refl _ w).alloc (Nat.le_refl _) _
  have hU0 : UAt (w.alloc (.cells (uCells u) 25)) w.heap.size u := heap_alloc_last _ _
  have strc : ∀ W : World, Calls Tryz.prog 13 #[uVal u] W fun e w' => e = .returned (.string (str (Url.str u))) ∧ Below W.heap.size W w' := fun W => RString_any u W hu
  have HF : Hid (farU u = (longU u.sch || longU (Url.str u))) := rfl
  generalize farU u = f at HF ⊢
  generalize Url.str u = s at strc HF
  unfold uVal uCells at strc
  unfold uVal
  unfold uCells at hb0 hU0 ⊢
  obtain ⟨c0, c1, c2, c3, c4, c5, c6, c7⟩ := hU0.cells
  cases h : longU u.sch
  · go_enter Tryz.func18, Tryz.ntmps18
    go_wp2_with (first
      | (go_at_call 19; refine (long5_any _ _).mono ?_; rintro e w1 ⟨rfl, hw1⟩; rw [hw1]; clear hw1)
      | (go_at_call 13; refine (strc _).mono ?_; rintro e w2 ⟨rfl, hb2⟩))
    go_ret
    exact ⟨by rw [HF.out, h]; rfl, bel hb0 hb2⟩
  · go_enter Tryz.func18, Tryz.ntmps18
    go_wp2_with (go_at_call 19; refine (long5_any _ _).mono ?_; rintro e w1 ⟨rfl, hw1⟩; rw [hw1]; clear hw1)
    go_ret
    exact ⟨by rw [HF.out, h]; rfl, hb0⟩
theorem far_no {u : Url.U} (h : farU u = false) : u.sch.length ≤ 2200 ∧ (Url.str u).length ≤ 2200 := by
  unfold farU at h
  rw [Bool.or_eq_false_iff] at h
  have h1 := of_decide_eq_false h.1
  have h2 := of_decide_eq_false h.2
  omega
theorem same_comm (a b : Url.U) : Url.same a b = Url.same b a := by
  cases h : Url.same b a
  · cases h2 : Url.same a b
    · rfl
    · have := (Url.same_iff a b).1 h2
      rw [this, Url.same_self] at h
      cases h
  · have := (Url.same_iff b a).1 h
    rw [this, Url.same_self]
set_option maxHeartbeats 2000000 in
set_option maxRecDepth 100000 in
theorem RMay5_any (u : Url.U) (w : World) (hu : Fits u) (hz : (Url.str u).length ≤ 1000000) :
    Calls Tryz.prog 30 #[uVal u] w fun e w' => e = .returned (.bool (Url.may u)) ∧ Below w.heap.size w w' := by
  have hzu := (zero_of_info zeroURL).1
  have hgd := guardU
  have hb0 : Below w.heap.size w (w.alloc (.cells (uCells u) 25)) := (Below.refl _ w).alloc (Nat.le_refl _) _
  have hU0 : UAt (w.alloc (.cells (uCells u) 25)) w.heap.size u := heap_alloc_last _ _
  have strc : ∀ W : World, Calls Tryz.prog 13 #[uVal u] W fun e w' => e = .returned (.string (str (Url.str u))) ∧ Below W.heap.size W w' := fun W => RString_any u W hu
  have parc : ∀ W : World, Calls Tryz.prog 12 #[.string (str (Url.str u))] W fun e w' => e = .returned (.tuple #[uVal (Url.parse (Url.str u)), .int .i64 (Url.perr (Url.str u))]) ∧ Below W.heap.size W w' := fun W => RParse_any _ W hz
  have HM : Hid (Url.may u = (decide (Url.perr (Url.str u) = 0) && Url.same u (Url.parse (Url.str u)))) := by
    show _ = _
    rw [same_comm]
    rfl
  generalize Url.may u = m at HM ⊢
  generalize Url.parse (Url.str u) = p at parc HM
  generalize Url.perr (Url.str u) = pe at parc HM
  generalize Url.str u = s at strc parc
  have heq : ∀ W : World, (binOp .eql 25 (.agg (uCells u)) (.agg (uCells p))).run Tryz.prog W = .ok (.bool (Url.same u p)) W := fun W => eql_U u p W
  unfold uVal at hzu
  unfold uVal uCells at strc parc
  unfold uVal
  unfold uCells at hzu hb0 hU0 heq ⊢
  obtain ⟨c0, c1, c2, c3, c4, c5, c6, c7⟩ := hU0.cells
  by_cases hp : pe = 0
  · subst hp
    go_enter Tryz.func30, Tryz.ntmps30
    go_wp2_with (first
      | (go_at_call 13; refine (strc _).mono ?_; rintro e w1 ⟨rfl, hb1⟩; have hU1 := UAt.below hU0 hb1; have hb1' := bel hb0 hb1)
      | (go_at_call 12; refine (parc _).mono ?_; rintro e w2 ⟨rfl, hb2⟩; have hU2 := UAt.below hU1 hb2; have hb2' := bel hb1' hb2; have hl2 := hU2.lt; have d0 := hU2.cell 0; have d1 := hU2.cell 1; have d2 := hU2.cell 2; have d3 := hU2.cell 3; have d4 := hU2.cell 4; have d5 := hU2.cell 5; have d6 := hU2.cell 6; have d7 := hU2.cell 7; simp only [uCells] at d0 d1 d2 d3 d4 d5 d6 d7))
    go_ret
    exact ⟨by rw [HM.out]; rfl, hb2'.alloc (by omega) _⟩
  · have hp2 : (pe == 0) = false := beq_eq_false_iff_ne.2 hp
    have HM2 : Hid (m = false) := by
      show _ = _
      rw [HM.out, decide_eq_false hp]
      rfl
    clear hp
    go_enter Tryz.func30, Tryz.ntmps30
    go_wp2_with (first
      | (go_at_call 13; refine (strc _).mono ?_; rintro e w1 ⟨rfl, hb1⟩; have hb1' := bel hb0 hb1)
      | (go_at_call 12; refine (parc _).mono ?_; rintro e w2 ⟨rfl, hb2⟩; have hb2' := bel hb1' hb2; have hl2 := hb2'.size))
    go_ret
    exact ⟨by rw [HM2.out]; rfl, hb2'.alloc (by omega) _⟩
/-- The probe. -/
def baseU : Url.U := ⟨Url.http, [97, 46, 98], 0, [47, 99, 47, 100], [101], [], true, false⟩
def wantU : Url.U := ⟨Url.http, [97, 46, 98], 0, [47, 102], [], [103], false, true⟩
theorem base_good : Url.Good baseU := by
  have hq : ∀ c ∈ ([101] : List UInt8), Pct.stays Url.freeQ c = true := by decide +kernel
  have hf : ∀ c ∈ ([] : List UInt8), Pct.stays Url.freeF c = true := fun c h => by cases h
  exact { sch := .inl rfl, host := by decide +kernel, port := by decide, path := ⟨[47, 99, 47, 100], show ([47, 99, 47, 100] : List UInt8) = Url.path [47, 99, 47, 100] by decide +kernel⟩, query := hq, frag := hf, noq := fun h => (by cases (show (true : Bool) = false from h)), nof := fun _ => rfl, len := by decide +kernel }
theorem base_fits : Fits baseU := by
  unfold Fits baseU Url.http
  decide
theorem want_fits : Fits wantU := by
  unfold Fits wantU Url.http
  decide
theorem base_join : Url.join baseU [46, 46, 47, 102, 35, 103] = (0, wantU) := by
  have hc : Url.clean [46, 46, 47, 102, 35, 103] = [46, 46, 47, 102, 35, 103] := by decide +kernel
  have ht : Url.turned baseU [46, 46, 47, 102, 35, 103] = wantU := by
    rw [Url.turned_else baseU (by decide) (by decide) (by decide)]
    have e : Url.dirOf baseU.path = [47, 99, 47] := by decide +kernel
    rw [e]
    unfold Url.tail
    have e2 : Url.upto [63, 35] ([47, 99, 47] ++ [46, 46, 47, 102, 35, 103]) = [47, 99, 47, 46, 46, 47, 102] := by decide +kernel
    have e3 : Url.rest [63, 35] ([47, 99, 47] ++ [46, 46, 47, 102, 35, 103]) = [35, 103] := by decide +kernel
    have e4 : Url.path [47, 99, 47, 46, 46, 47, 102] = [47, 102] := by decide +kernel
    have e5 : Url.behind ([47, 99, 47] ++ [46, 46, 47, 102, 35, 103]) = [35, 103] := by decide +kernel
    rw [e2, e3, e4, e5]
    rfl
  rw [Url.join_turned (Url.good_may base_good) (by rw [hc]; decide) (by rw [hc]; decide +kernel) (by rw [hc]; decide +kernel) (by rw [hc, ht]; decide +kernel), hc, ht]
theorem want_key : Url.key wantU = [104, 116, 116, 112, 58, 47, 47, 97, 46, 98, 47, 102] := by decide +kernel
set_option maxHeartbeats 2000000 in
set_option maxRecDepth 100000 in
theorem base_any (w : World) :
    Calls Tryz.prog 45 #[] w fun e w' => e = .returned (uVal baseU) ∧ Below w.heap.size w w' := by
  have hz := (zero_of_info zeroURL).1
  unfold uVal uCells at hz
  go_enter Tryz.func45, Tryz.ntmps45
  go_wp2
  exact ret_U (u := baseU) rfl rfl rfl (heap_alloc_last _ _) ⟨rfl, (Below.refl _ w).alloc (Nat.le_refl _) _⟩
def wantV : Array Value := #[.string ⟨#[104, 116, 116, 112]⟩, .string ⟨#[97, 46, 98]⟩, .int .i64 0, .string ⟨#[47, 102]⟩, .string ⟨#[]⟩, .string ⟨#[103]⟩, .bool false, .bool true]
set_option maxHeartbeats 2000000 in
set_option maxRecDepth 100000 in
theorem alive5_any (w : World) (hE : Env w) :
    Calls Tryz.prog 20 #[] w fun e w' => e = .returned (.bool true) ∧ Below w.heap.size w w' := by
  have hzu := (zero_of_info zeroURL).1
  have hgd := guardU
  have jc : ∀ W : World, Env W → Calls Tryz.prog 21 #[uVal baseU, .string ⟨#[46, 46, 47, 102, 35, 103]⟩] W fun e w' => e = .returned (.tuple #[.agg wantV, .int .i64 0]) ∧ Below W.heap.size W w' := fun W h => by
    have := JJoin_any baseU base_fits (by decide +kernel) 6 [46, 46, 47, 102, 35, 103] W (by decide) h (by decide)
    rw [base_join] at this
    exact this
  have kc : ∀ W : World, Env W → Calls Tryz.prog 23 #[.agg wantV] W fun e w' => e = .returned (.string ⟨#[104, 116, 116, 112, 58, 47, 47, 97, 46, 98, 47, 102]⟩) ∧ Below W.heap.size W w' := fun W h => by
    have := Key_any wantU W h want_fits
    rw [want_key] at this
    exact this
  have heq : ∀ W : World, (binOp .eql 25 (.agg wantV) (.agg #[.string ⟨#[104, 116, 116, 112]⟩, .string ⟨#[97, 46, 98]⟩, .int .i64 Url.zero.port, .string ⟨#[47, 102]⟩, .string (str Url.zero.query), .string ⟨#[103]⟩, .bool Url.zero.hq, .bool true])).run Tryz.prog W = .ok (.bool true) W := fun W => by
    have := eql_U wantU wantU W
    rw [Url.same_self] at this
    exact this
  unfold uVal uCells at hzu
  unfold wantV at jc kc heq
  go_enter Tryz.func20, Tryz.ntmps20
  go_wp2_with (first
    | (go_at_call 45; refine (base_any _).mono ?_; rintro e w1 ⟨rfl, hb1⟩; have hE1 := hE.below hb1)
    | (go_at_call 21; refine (jc _ hE1).mono ?_; rintro e w2 ⟨rfl, hb2⟩; have hb2' := bel hb1 hb2; have hb3 := hb2'.alloc hb2'.size (.cells wantV 25); unfold wantV at hb3; have hE3 := hE.below hb3)
    | (go_at_call 23; refine (kc _ hE3).mono ?_; rintro e w4 ⟨rfl, hb4⟩))
  go_ret
  exact ⟨rfl, bel hb3 hb4⟩
end Go.Proofs.YtnmkhbelmdokmaaGreatDoor
/- Contracts of package join's Link and Same. -/
namespace Go.Proofs.YtnmkhbelmdokmaaGreatDoor
open Go.RowKit
/-- Two URLs that came in, in their blocks. -/
structure BU (w W : World) (b u : Url.U) : Prop where
  b_ : UAt W w.heap.size b
  u_ : UAt W (w.heap.size + 1) u
  bel : Below w.heap.size w W
theorem BU.step {w W W' : World} {b u : Url.U} (h : BU w W b u) (hb : Below W.heap.size W W') : BU w W' b u := ⟨h.b_.below hb, h.u_.below hb, Go.Proofs.YtnmkhbelmdokmaaGreatDoor.bel h.bel hb⟩
theorem BU.setRow {d : Nat} {w W : World} {b u : Url.U} (h : BU w W b u) (hlt : w.heap.size + 1 < d) (v : Url.U) : BU w (W.setRow d (uCells v)) b u := ⟨(setRow_other (by omega) _).trans h.b_, (setRow_other (by omega) _).trans h.u_, below_setRow h.bel (by omega) _⟩
theorem BU.start (w : World) (b u : Url.U) : BU w ((w.alloc (.cells (uCells b) 25)).alloc (.cells (uCells u) 25)) b u :=
  ⟨UAt.below (heap_alloc_last _ _) ((Below.refl _ _).alloc (Nat.le_refl _) _), alloc_two _ _ _, ((Below.refl _ w).alloc (Nat.le_refl _) _).alloc (by simp) _⟩
theorem wpList_load_Ug {ops : Array Oper} {rest : List Oper} {o : Oper} {a : Act} {w : World} {Q : Exit → Act → World → Prop} (x : Operand) (ho : o.op = .load 25 x) (hw : Region.wanted o (yielded ops a.tmps) = true) (b : Nat) (u : Url.U) (hx : a.eval x = .pointer (some ⟨b, 0, none⟩)) (h : UAt w b u)
    (hn : wpList Tryz.prog ops Q rest (a.put o.dst (uVal u)) w) : wpList Tryz.prog ops Q (o :: rest) a w := by
  refine wpList_step fun K hK => ?_
  rw [if_pos hw]
  unfold Oper.wp
  have e : (execOp a.eval o).run Tryz.prog w = .ok (.value (uVal u)) w := by
    unfold execOp
    rw [ho]
    simp only [hx, Sem.run_bind, loadAt_U h, Result.andThen, Sem.run_pure]
  rw [e, Oper.upon_value]
  exact hK _ _ hn
theorem link_no {b u : Url.U} (h : ¬ (Url.may b = true ∧ Url.may u = true)) : Url.link b u = Url.str u := if_neg h
theorem link_yes {b u : Url.U} (h1 : Url.may b = true) (h2 : Url.may u = true) : Url.link b u = if Url.origin u = Url.origin b ∧ Url.slashed2 u.path = false then (Url.str u).drop (Url.origin u).length else if u.sch = b.sch then (Url.str u).drop (u.sch.length + 1) else Url.str u := if_pos ⟨h1, h2⟩
theorem trim_origin (u : Url.U) (w : World) : Calls Tryz.prog 51 #[.string (str (Url.str u)), .string (str (Url.origin u))] w fun e w' => e = .returned (.string (str ((Url.str u).drop (Url.origin u).length))) ∧ w' = w := by
  have := TrimPrefix_str (Url.origin u) (u.path ++ (Url.queryP u ++ Url.fragP u)) w
  rw [← Url.str_origin, ← Url.drop_origin] at this
  exact this
theorem trim_sch (u : Url.U) (w : World) : Calls Tryz.prog 51 #[.string (str (Url.str u)), .string (str (u.sch ++ [58]))] w fun e w' => e = .returned (.string (str ((Url.str u).drop (u.sch.length + 1)))) ∧ w' = w := by
  have := TrimPrefix_str (u.sch ++ [58]) ((Url.str u).drop (u.sch.length + 1)) w
  have e : u.sch ++ [58] ++ (Url.str u).drop (u.sch.length + 1) = Url.str u := by
    rw [List.append_assoc]
    exact Url.sch_drop u
  rw [e] at this
  exact this
set_option maxHeartbeats 4000000 in
set_option maxRecDepth 100000 in
theorem Link_bad1 (b u : Url.U) (w : World) (hE : Env w) (fb : Fits b) (fu : Fits u) (zb : (Url.str b).length ≤ 10000000) (_zu : (Url.str u).length ≤ 10000000) (h1 : Url.may b = false) :
    Calls Tryz.prog 26 #[uVal b, uVal u] w fun e w' => e = .returned (.string (str (Url.str u))) ∧ Below w.heap.size w w' := by
  have hB := BU.start w b u
  have strc : ∀ W : World, Env W → Calls Tryz.prog 14 #[uVal u] W fun e w' => e = .returned (.string (str (Url.str u))) ∧ Below W.heap.size W w' := fun W h => String_any u W h fu
  unfold uVal
  unfold uCells at hB ⊢
  go_enter Tryz.func26, Tryz.ntmps26
  go_upto_region 1 with fail
  generalize (w.alloc (.cells #[.string (str b.sch), .string (str b.host), .int .i64 b.port, .string (str b.path), .string (str b.query), .string (str b.frag), .bool b.hq, .bool b.hf] 25)).alloc (.cells #[.string (str u.sch), .string (str u.host), .int .i64 u.port, .string (str u.path), .string (str u.query), .string (str u.frag), .bool u.hq, .bool u.hf] 25) = w0 at hB ⊢
  go_wp2_with (first
    | ((with_reducible show wpList _ _ _ ({ dst := _, op := Op.load 25 (Operand.tmp 2), type := _, pos := _, after := _, guard := _ } :: _) _ _); refine wpList_load_Ug _ rfl (by rfl) (w.heap.size) b rfl hB.b_ ?_)
    | ((with_reducible show wpList _ _ _ ({ dst := _, op := Op.load 25 (Operand.tmp 3), type := _, pos := _, after := _, guard := _ } :: _) _ _); refine wpList_load_Ug _ rfl (by rfl) (w.heap.size + 1) u rfl hB.u_ ?_)
    | (go_at_call 14; refine (strc _ (hE.below hB.bel)).mono ?_; rintro e w1 ⟨rfl, hb1⟩; replace hB := hB.step hb1; clear hb1)
    | (go_at_call 15; refine (May_any _ _ (hE.below hB.bel) (by assumption) (by assumption)).mono ?_; rintro e w1 ⟨rfl, hb1⟩; replace hB := hB.step hb1; clear hb1))
  go_ret
  exact ⟨rfl, hB.bel⟩
set_option maxHeartbeats 4000000 in
set_option maxRecDepth 100000 in
theorem Link_bad2 (b u : Url.U) (w : World) (hE : Env w) (fb : Fits b) (fu : Fits u) (zb : (Url.str b).length ≤ 10000000) (zu : (Url.str u).length ≤ 10000000) (h1 : Url.may b = true) (h2 : Url.may u = false) :
    Calls Tryz.prog 26 #[uVal b, uVal u] w fun e w' => e = .returned (.string (str (Url.str u))) ∧ Below w.heap.size w w' := by
  have hB := BU.start w b u
  have strc : ∀ W : World, Env W → Calls Tryz.prog 14 #[uVal u] W fun e w' => e = .returned (.string (str (Url.str u))) ∧ Below W.heap.size W w' := fun W h => String_any u W h fu
  unfold uVal
  unfold uCells at hB ⊢
  go_enter Tryz.func26, Tryz.ntmps26
  go_upto_region 1 with fail
  generalize (w.alloc (.cells #[.string (str b.sch), .string (str b.host), .int .i64 b.port, .string (str b.path), .string (str b.query), .string (str b.frag), .bool b.hq, .bool b.hf] 25)).alloc (.cells #[.string (str u.sch), .string (str u.host), .int .i64 u.port, .string (str u.path), .string (str u.query), .string (str u.frag), .bool u.hq, .bool u.hf] 25) = w0 at hB ⊢
  go_wp2_with (first
    | ((with_reducible show wpList _ _ _ ({ dst := _, op := Op.load 25 (Operand.tmp 2), type := _, pos := _, after := _, guard := _ } :: _) _ _); refine wpList_load_Ug _ rfl (by rfl) (w.heap.size) b rfl hB.b_ ?_)
    | ((with_reducible show wpList _ _ _ ({ dst := _, op := Op.load 25 (Operand.tmp 3), type := _, pos := _, after := _, guard := _ } :: _) _ _); refine wpList_load_Ug _ rfl (by rfl) (w.heap.size + 1) u rfl hB.u_ ?_)
    | (go_at_call 14; refine (strc _ (hE.below hB.bel)).mono ?_; rintro e w1 ⟨rfl, hb1⟩; replace hB := hB.step hb1; clear hb1)
    | (go_at_call 15; refine (May_any _ _ (hE.below hB.bel) (by assumption) (by assumption)).mono ?_; rintro e w1 ⟨rfl, hb1⟩; replace hB := hB.step hb1; clear hb1))
  go_ret
  exact ⟨rfl, hB.bel⟩
set_option maxHeartbeats 4000000 in
set_option maxRecDepth 100000 in
theorem Link_near (b u : Url.U) (w : World) (hE : Env w) (fb : Fits b) (fu : Fits u) (zb : (Url.str b).length ≤ 10000000) (zu : (Url.str u).length ≤ 10000000) (h1 : Url.may b = true) (h2 : Url.may u = true) (h3 : Url.origin u = Url.origin b) (h4 : Url.slashed2 u.path = false) :
    Calls Tryz.prog 26 #[uVal b, uVal u] w fun e w' => e = .returned (.string (str ((Url.str u).drop (Url.origin u).length))) ∧ Below w.heap.size w w' := by
  have hB := BU.start w b u
  have strc : ∀ W : World, Env W → Calls Tryz.prog 14 #[uVal u] W fun e w' => e = .returned (.string (str (Url.str u))) ∧ Below W.heap.size W w' := fun W h => String_any u W h fu
  have hpl := (good_fits (Url.may_good h2)).2.1
  have slc : ∀ W : World, Calls Tryz.prog 47 #[.string (str u.path)] W fun e w' => e = .returned (.int .i64 (Url.nsl u.path : Nat)) ∧ Below W.heap.size W w' := fun W => slashesAhead_any _ W (by omega)
  have hn2 : (Url.nsl u.path : Int) < 2 := by
    have := Url.nsl_two u.path
    rw [h4] at this
    have : ¬ 2 ≤ Url.nsl u.path := fun h => by cases this.1 h
    omega
  have heq : ((str (Url.origin u)).toList == (str (Url.origin b)).toList) = true := by rw [h3]; exact beq_self_eq_true _
  have trc : ∀ W : World, Calls Tryz.prog 51 #[.string (str (Url.str u)), .string (str (Url.origin u))] W fun e w' => e = .returned (.string (str ((Url.str u).drop (Url.origin u).length))) ∧ w' = W := trim_origin u
  clear h3 h4
  generalize (Url.str u).drop (Url.origin u).length = res at *
  generalize Url.nsl u.path = n at *
  unfold uVal
  unfold uCells at hB ⊢
  go_enter Tryz.func26, Tryz.ntmps26
  go_upto_region 1 with fail
  generalize (w.alloc (.cells #[.string (str b.sch), .string (str b.host), .int .i64 b.port, .string (str b.path), .string (str b.query), .string (str b.frag), .bool b.hq, .bool b.hf] 25)).alloc (.cells #[.string (str u.sch), .string (str u.host), .int .i64 u.port, .string (str u.path), .string (str u.query), .string (str u.frag), .bool u.hq, .bool u.hf] 25) = w0 at hB ⊢
  go_wp2_with (first
    | ((with_reducible show wpList _ _ _ ({ dst := _, op := Op.load 25 (Operand.tmp 2), type := _, pos := _, after := _, guard := _ } :: _) _ _); refine wpList_load_Ug _ rfl (by rfl) (w.heap.size) b rfl hB.b_ ?_)
    | ((with_reducible show wpList _ _ _ ({ dst := _, op := Op.load 25 (Operand.tmp 3), type := _, pos := _, after := _, guard := _ } :: _) _ _); refine wpList_load_Ug _ rfl (by rfl) (w.heap.size + 1) u rfl hB.u_ ?_)
    | (go_at_call 14; refine (strc _ (hE.below hB.bel)).mono ?_; rintro e w1 ⟨rfl, hb1⟩; replace hB := hB.step hb1; clear hb1)
    | (go_at_call 15; refine (May_any _ _ (hE.below hB.bel) (by assumption) (by assumption)).mono ?_; rintro e w1 ⟨rfl, hb1⟩; replace hB := hB.step hb1; clear hb1)
    | (go_at_call 17; refine (Origin_any _ _ (hE.below hB.bel) (by assumption)).mono ?_; rintro e w1 ⟨rfl, hb1⟩; replace hB := hB.step hb1; clear hb1; (try clear cp cu cb); have cp := hB.u_.cell 3; have cu := hB.u_.cell 0; have cb := hB.b_.cell 0; simp only [uCells] at cp cu cb)
    | (go_at_call 47; refine (slc _).mono ?_; clear cp cu cb; rintro e w1 ⟨rfl, hb1⟩; replace hB := hB.step hb1; clear hb1; have cp := hB.u_.cell 3; have cu := hB.u_.cell 0; have cb := hB.b_.cell 0; simp only [uCells] at cp cu cb)
    | (go_at_call 51; refine (trc _).mono ?_; rintro e w1 ⟨rfl, hw1⟩; rw [hw1]; clear hw1))
  go_ret
  exact ⟨rfl, hB.bel⟩
set_option maxHeartbeats 4000000 in
set_option maxRecDepth 100000 in
theorem Link_two (b u : Url.U) (w : World) (hE : Env w) (fb : Fits b) (fu : Fits u) (zb : (Url.str b).length ≤ 10000000) (zu : (Url.str u).length ≤ 10000000) (h1 : Url.may b = true) (h2 : Url.may u = true) (h3 : Url.origin u = Url.origin b) (h4 : Url.slashed2 u.path = true) :
    Calls Tryz.prog 26 #[uVal b, uVal u] w fun e w' => e = .returned (.string (str ((Url.str u).drop (u.sch.length + 1)))) ∧ Below w.heap.size w w' := by
  have hB := BU.start w b u
  have strc : ∀ W : World, Env W → Calls Tryz.prog 14 #[uVal u] W fun e w' => e = .returned (.string (str (Url.str u))) ∧ Below W.heap.size W w' := fun W h => String_any u W h fu
  have hpl := (good_fits (Url.may_good h2)).2.1
  have slc : ∀ W : World, Calls Tryz.prog 47 #[.string (str u.path)] W fun e w' => e = .returned (.int .i64 (Url.nsl u.path : Nat)) ∧ Below W.heap.size W w' := fun W => slashesAhead_any _ W (by omega)
  have hn2 : ¬ (Url.nsl u.path : Int) < 2 := by
    have := (Url.nsl_two u.path).2 h4
    omega
  have heq : ((str (Url.origin u)).toList == (str (Url.origin b)).toList) = true := by rw [h3]; exact beq_self_eq_true _
  have hsq : ((str u.sch).toList == (str b.sch).toList) = true := by rw [(Url.origin_inj (Url.may_good h2) (Url.may_good h1) h3).1]; exact beq_self_eq_true _
  have hadd : str u.sch ++ (⟨#[58]⟩ : ByteArray) = str (u.sch ++ [58]) := str_add u.sch [58]
  have hsl := (good_fits (Url.may_good h2)).2.2
  have hz1 : (str u.sch).size ≤ 2048 := by rw [str_size]; exact hsl
  have hz3 : (⟨#[58]⟩ : ByteArray).size = 1 := rfl
  have trc : ∀ W : World, Calls Tryz.prog 51 #[.string (str (Url.str u)), .string (str (u.sch ++ [58]))] W fun e w' => e = .returned (.string (str ((Url.str u).drop (u.sch.length + 1)))) ∧ w' = W := trim_sch u
  generalize (Url.str u).drop (u.sch.length + 1) = res at *
  generalize u.sch ++ [58] = half at *
  clear h3 h4
  generalize Url.nsl u.path = n at *
  unfold uVal
  unfold uCells at hB ⊢
  go_enter Tryz.func26, Tryz.ntmps26
  go_upto_region 1 with fail
  generalize (w.alloc (.cells #[.string (str b.sch), .string (str b.host), .int .i64 b.port, .string (str b.path), .string (str b.query), .string (str b.frag), .bool b.hq, .bool b.hf] 25)).alloc (.cells #[.string (str u.sch), .string (str u.host), .int .i64 u.port, .string (str u.path), .string (str u.query), .string (str u.frag), .bool u.hq, .bool u.hf] 25) = w0 at hB ⊢
  go_wp2_with (first
    | ((with_reducible show wpList _ _ _ ({ dst := _, op := Op.load 25 (Operand.tmp 2), type := _, pos := _, after := _, guard := _ } :: _) _ _); refine wpList_load_Ug _ rfl (by rfl) (w.heap.size) b rfl hB.b_ ?_)
    | ((with_reducible show wpList _ _ _ ({ dst := _, op := Op.load 25 (Operand.tmp 3), type := _, pos := _, after := _, guard := _ } :: _) _ _); refine wpList_load_Ug _ rfl (by rfl) (w.heap.size + 1) u rfl hB.u_ ?_)
    | (go_at_call 14; refine (strc _ (hE.below hB.bel)).mono ?_; rintro e w1 ⟨rfl, hb1⟩; replace hB := hB.step hb1; clear hb1)
    | (go_at_call 15; refine (May_any _ _ (hE.below hB.bel) (by assumption) (by assumption)).mono ?_; rintro e w1 ⟨rfl, hb1⟩; replace hB := hB.step hb1; clear hb1)
    | (go_at_call 17; refine (Origin_any _ _ (hE.below hB.bel) (by assumption)).mono ?_; rintro e w1 ⟨rfl, hb1⟩; replace hB := hB.step hb1; clear hb1; (try clear cp cu cb); have cp := hB.u_.cell 3; have cu := hB.u_.cell 0; have cb := hB.b_.cell 0; simp only [uCells] at cp cu cb)
    | (go_at_call 47; refine (slc _).mono ?_; clear cp cu cb; rintro e w1 ⟨rfl, hb1⟩; replace hB := hB.step hb1; clear hb1; have cp := hB.u_.cell 3; have cu := hB.u_.cell 0; have cb := hB.b_.cell 0; simp only [uCells] at cp cu cb)
    | (go_at_call 51; refine (trc _).mono ?_; rintro e w1 ⟨rfl, hw1⟩; rw [hw1]; clear hw1))
  go_ret
  exact ⟨rfl, hB.bel⟩
set_option maxHeartbeats 4000000 in
set_option maxRecDepth 100000 in
theorem Link_far (b u : Url.U) (w : World) (hE : Env w) (fb : Fits b) (fu : Fits u) (zb : (Url.str b).length ≤ 10000000) (zu : (Url.str u).length ≤ 10000000) (h1 : Url.may b = true) (h2 : Url.may u = true) (h3 : ¬ Url.origin u = Url.origin b) (h4 : u.sch = b.sch) :
    Calls Tryz.prog 26 #[uVal b, uVal u] w fun e w' => e = .returned (.string (str ((Url.str u).drop (u.sch.length + 1)))) ∧ Below w.heap.size w w' := by
  have hB := BU.start w b u
  have strc : ∀ W : World, Env W → Calls Tryz.prog 14 #[uVal u] W fun e w' => e = .returned (.string (str (Url.str u))) ∧ Below W.heap.size W w' := fun W h => String_any u W h fu
  have heq : ((str (Url.origin u)).toList == (str (Url.origin b)).toList) = false := by rw [str_beq]; exact beq_eq_false_iff_ne.2 h3
  have hsq : ((str u.sch).toList == (str b.sch).toList) = true := by rw [h4]; exact beq_self_eq_true _
  have hadd : str u.sch ++ (⟨#[58]⟩ : ByteArray) = str (u.sch ++ [58]) := str_add u.sch [58]
  have hsl := (good_fits (Url.may_good h2)).2.2
  have hz1 : (str u.sch).size ≤ 2048 := by rw [str_size]; exact hsl
  have hz3 : (⟨#[58]⟩ : ByteArray).size = 1 := rfl
  have trc : ∀ W : World, Calls Tryz.prog 51 #[.string (str (Url.str u)), .string (str (u.sch ++ [58]))] W fun e w' => e = .returned (.string (str ((Url.str u).drop (u.sch.length + 1)))) ∧ w' = W := trim_sch u
  generalize (Url.str u).drop (u.sch.length + 1) = res at *
  generalize u.sch ++ [58] = half at *
  clear h3 h4
  unfold uVal
  unfold uCells at hB ⊢
  go_enter Tryz.func26, Tryz.ntmps26
  go_upto_region 1 with fail
  generalize (w.alloc (.cells #[.string (str b.sch), .string (str b.host), .int .i64 b.port, .string (str b.path), .string (str b.query), .string (str b.frag), .bool b.hq, .bool b.hf] 25)).alloc (.cells #[.string (str u.sch), .string (str u.host), .int .i64 u.port, .string (str u.path), .string (str u.query), .string (str u.frag), .bool u.hq, .bool u.hf] 25) = w0 at hB ⊢
  go_wp2_with (first
    | ((with_reducible show wpList _ _ _ ({ dst := _, op := Op.load 25 (Operand.tmp 2), type := _, pos := _, after := _, guard := _ } :: _) _ _); refine wpList_load_Ug _ rfl (by rfl) (w.heap.size) b rfl hB.b_ ?_)
    | ((with_reducible show wpList _ _ _ ({ dst := _, op := Op.load 25 (Operand.tmp 3), type := _, pos := _, after := _, guard := _ } :: _) _ _); refine wpList_load_Ug _ rfl (by rfl) (w.heap.size + 1) u rfl hB.u_ ?_)
    | (go_at_call 14; refine (strc _ (hE.below hB.bel)).mono ?_; rintro e w1 ⟨rfl, hb1⟩; replace hB := hB.step hb1; clear hb1)
    | (go_at_call 15; refine (May_any _ _ (hE.below hB.bel) (by assumption) (by assumption)).mono ?_; rintro e w1 ⟨rfl, hb1⟩; replace hB := hB.step hb1; clear hb1)
    | (go_at_call 17; refine (Origin_any _ _ (hE.below hB.bel) (by assumption)).mono ?_; rintro e w1 ⟨rfl, hb1⟩; replace hB := hB.step hb1; clear hb1; (try clear cp cu cb); have cp := hB.u_.cell 3; have cu := hB.u_.cell 0; have cb := hB.b_.cell 0; simp only [uCells] at cp cu cb)
    | (go_at_call 51; refine (trc _).mono ?_; rintro e w1 ⟨rfl, hw1⟩; rw [hw1]; clear hw1))
  go_ret
  exact ⟨rfl, hB.bel⟩
set_option maxHeartbeats 4000000 in
set_option maxRecDepth 100000 in
theorem Link_else (b u : Url.U) (w : World) (hE : Env w) (fb : Fits b) (fu : Fits u) (zb : (Url.str b).length ≤ 10000000) (zu : (Url.str u).length ≤ 10000000) (h1 : Url.may b = true) (h2 : Url.may u = true) (h3 : ¬ Url.origin u = Url.origin b) (h4 : ¬ u.sch = b.sch) :
    Calls Tryz.prog 26 #[uVal b, uVal u] w fun e w' => e = .returned (.string (str (Url.str u))) ∧ Below w.heap.size w w' := by
  have hB := BU.start w b u
  have strc : ∀ W : World, Env W → Calls Tryz.prog 14 #[uVal u] W fun e w' => e = .returned (.string (str (Url.str u))) ∧ Below W.heap.size W w' := fun W h => String_any u W h fu
  have heq : ((str (Url.origin u)).toList == (str (Url.origin b)).toList) = false := by rw [str_beq]; exact beq_eq_false_iff_ne.2 h3
  have hsq : ((str u.sch).toList == (str b.sch).toList) = false := by rw [str_beq]; exact beq_eq_false_iff_ne.2 h4
  clear h3 h4
  unfold uVal
  unfold uCells at hB ⊢
  go_enter Tryz.func26, Tryz.ntmps26
  go_upto_region 1 with fail
  generalize (w.alloc (.cells #[.string (str b.sch), .string (str b.host), .int .i64 b.port, .string (str b.path), .string (str b.query), .string (str b.frag), .bool b.hq, .bool b.hf] 25)).alloc (.cells #[.string (str u.sch), .string (str u.host), .int .i64 u.port, .string (str u.path), .string (str u.query), .string (str u.frag), .bool u.hq, .bool u.hf] 25) = w0 at hB ⊢
  go_wp2_with (first
    | ((with_reducible show wpList _ _ _ ({ dst := _, op := Op.load 25 (Operand.tmp 2), type := _, pos := _, after := _, guard := _ } :: _) _ _); refine wpList_load_Ug _ rfl (by rfl) (w.heap.size) b rfl hB.b_ ?_)
    | ((with_reducible show wpList _ _ _ ({ dst := _, op := Op.load 25 (Operand.tmp 3), type := _, pos := _, after := _, guard := _ } :: _) _ _); refine wpList_load_Ug _ rfl (by rfl) (w.heap.size + 1) u rfl hB.u_ ?_)
    | (go_at_call 14; refine (strc _ (hE.below hB.bel)).mono ?_; rintro e w1 ⟨rfl, hb1⟩; replace hB := hB.step hb1; clear hb1)
    | (go_at_call 15; refine (May_any _ _ (hE.below hB.bel) (by assumption) (by assumption)).mono ?_; rintro e w1 ⟨rfl, hb1⟩; replace hB := hB.step hb1; clear hb1)
    | (go_at_call 17; refine (Origin_any _ _ (hE.below hB.bel) (by assumption)).mono ?_; rintro e w1 ⟨rfl, hb1⟩; replace hB := hB.step hb1; clear hb1; (try clear cp cu cb); have cp := hB.u_.cell 3; have cu := hB.u_.cell 0; have cb := hB.b_.cell 0; simp only [uCells] at cp cu cb))
  go_ret
  exact ⟨rfl, hB.bel⟩
theorem Link_any (b u : Url.U) (w : World) (hE : Env w) (fb : Fits b) (fu : Fits u) (zb : (Url.str b).length ≤ 10000000) (zu : (Url.str u).length ≤ 10000000) :
    Calls Tryz.prog 26 #[uVal b, uVal u] w fun e w' => e = .returned (.string (str (Url.link b u))) ∧ Below w.heap.size w w' := by
  cases h1 : Url.may b
  · rw [link_no (fun h => by rw [h1] at h; cases h.1)]
    exact Link_bad1 b u w hE fb fu zb zu h1
  · cases h2 : Url.may u
    · rw [link_no (fun h => by rw [h2] at h; cases h.2)]
      exact Link_bad2 b u w hE fb fu zb zu h1 h2
    · rw [link_yes h1 h2]
      by_cases h3 : Url.origin u = Url.origin b
      · cases h4 : Url.slashed2 u.path
        · rw [if_pos ⟨h3, rfl⟩]
          exact Link_near b u w hE fb fu zb zu h1 h2 h3 h4
        · rw [if_neg (fun h => by cases h.2), if_pos (Url.origin_inj (Url.may_good h2) (Url.may_good h1) h3).1]
          exact Link_two b u w hE fb fu zb zu h1 h2 h3 h4
      · rw [if_neg (fun h => h3 h.1)]
        by_cases h4 : u.sch = b.sch
        · rw [if_pos h4]
          exact Link_far b u w hE fb fu zb zu h1 h2 h3 h4
        · rw [if_neg h4]
          exact Link_else b u w hE fb fu zb zu h1 h2 h3 h4
set_option maxHeartbeats 4000000 in
set_option maxRecDepth 100000 in
theorem Same5_any (b u : Url.U) (w : World) (hE : Env w) (fb : Fits b) (fu : Fits u) :
    Calls Tryz.prog 25 #[uVal b, uVal u] w fun e w' => e = .returned (.bool (Url.key b == Url.key u)) ∧ Below w.heap.size w w' := by
  have hB := BU.start w b u
  have kb : ∀ W : World, Env W → Calls Tryz.prog 23 #[uVal b] W fun e w' => e = .returned (.string (str (Url.key b))) ∧ Below W.heap.size W w' := fun W h => Key_any b W h fb
  have ku : ∀ W : World, Env W → Calls Tryz.prog 23 #[uVal u] W fun e w' => e = .returned (.string (str (Url.key u))) ∧ Below W.heap.size W w' := fun W h => Key_any u W h fu
  generalize Url.key b = kb0 at *
  generalize Url.key u = ku0 at *
  unfold uVal
  unfold uCells at hB ⊢
  go_enter Tryz.func25, Tryz.ntmps25
  go_upto_region 1 with fail
  generalize (w.alloc (.cells #[.string (str b.sch), .string (str b.host), .int .i64 b.port, .string (str b.path), .string (str b.query), .string (str b.frag), .bool b.hq, .bool b.hf] 25)).alloc (.cells #[.string (str u.sch), .string (str u.host), .int .i64 u.port, .string (str u.path), .string (str u.query), .string (str u.frag), .bool u.hq, .bool u.hf] 25) = w0 at hB ⊢
  obtain ⟨S, hS1⟩ : ∃ S : World → Prop, ∀ W, S W ↔ BU w W b u := ⟨_, fun _ => Iff.rfl⟩
  refine wp_region_held_drew (S := S) (by kernel_rfl) ((hS1 _).2 (hB.step ((Below.refl _ _).drew))) (fun hS => ?_)
  refine takeH 0 5 (uVal (b)) rfl rfl (by kernel_rfl) (by kernel_rfl) (by kernel_rfl) (fun _ _ _ h => h) (hy_load_U (Operand.tmp 2) rfl (by kernel_rfl) (w.heap.size) (b) (by kernel_rfl) (fun W h => ((hS1 W).1 h).b_)) hS ?_
  simp only [Act.put, List.setIfInBounds_toArray, List.set_cons_zero, List.set_cons_succ]
  refine takeH 2 7 (uVal (u)) rfl rfl (by kernel_rfl) (by kernel_rfl) (by kernel_rfl) (fun _ _ _ h => h) (hy_load_U (Operand.tmp 3) rfl (by kernel_rfl) (w.heap.size + 1) (u) (by kernel_rfl) (fun W h => ((hS1 W).1 h).u_)) hS ?_
  simp only [Act.put, List.setIfInBounds_toArray, List.set_cons_zero, List.set_cons_succ]
  refine wpAnyH_ready (rs := [1]) (by kernel_rfl) (by simp) ?_
  refine AllReadyH.cons rfl (fun K hK => ?_) AllReadyH.nil
  go_simp
  refine (kb _ (hE.below ((hS1 _).1 hS).bel)).mono ?_
  rintro e x1 ⟨rfl, hx1⟩
  refine hK.out _ _ ((hS1 _).2 (((hS1 _).1 hS).step hx1)) (fun hS => ?_)
  clear hK K
  refine wpAnyH_ready (rs := [3]) (by kernel_rfl) (by simp) ?_
  refine AllReadyH.cons rfl (fun K hK => ?_) AllReadyH.nil
  go_simp
  refine (ku _ (hE.below ((hS1 _).1 hS).bel)).mono ?_
  rintro e x2 ⟨rfl, hx2⟩
  refine hK.out _ _ ((hS1 _).2 (((hS1 _).1 hS).step hx2)) (fun hS => ?_)
  clear hK K
  refine takeH 4 9 (.bool (kb0 == ku0)) rfl rfl (by kernel_rfl) (by kernel_rfl) (by kernel_rfl) (fun _ _ _ h => h) (Or.inl ⟨by kernel_rfl, fun W _ => by go_simp; rw [str_list, str_list]⟩) hS ?_
  simp only [Act.put, List.setIfInBounds_toArray, List.set_cons_zero, List.set_cons_succ]
  refine takeH 5 4 (.bool (kb0 == ku0)) rfl rfl (by kernel_rfl) (by kernel_rfl) (by kernel_rfl) (fun _ _ _ h => h) (Or.inl ⟨by kernel_rfl, fun W _ => by go_simp⟩) hS ?_
  simp only [Act.put, List.setIfInBounds_toArray, List.set_cons_zero, List.set_cons_succ]
  refine wpAnyH_done (by kernel_rfl) ?_ _
  have hfin := ((hS1 _).1 hS).bel
  go_wp2
  go_ret
  exact ⟨rfl, hfin⟩
end Go.Proofs.YtnmkhbelmdokmaaGreatDoor
