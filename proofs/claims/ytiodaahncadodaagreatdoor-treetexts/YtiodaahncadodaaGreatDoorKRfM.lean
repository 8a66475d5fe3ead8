/- Texts laid as one. -/
import Derived.Test.YtiodaahncadodaaGreatDoorKMath
/- Package refs in plain functions on lists of bytes: names, numbers, the reference that a text begins with. -/
set_option linter.unusedVariables false
set_option linter.unusedSimpArgs false
namespace Rf
open Asc
abbrev Tab := List (List UInt8 × Int)
def shortT : Tab := [([97,109,112],38),([108,116],60),([103,116],62),([113,117,111,116],34),([110,98,115,112],160),([99,111,112,121],169),([114,101,103],174)]
def markT : Tab := [([97,112,111,115],39),([99,101,110,116],162),([112,111,117,110,100],163),([121,101,110],165),([115,101,99,116],167),([100,101,103],176),([112,108,117,115,109,110],177),([112,97,114,97],182),([109,105,100,100,111,116],183),([108,97,113,117,111],171),([114,97,113,117,111],187),([102,114,97,99,49,50],189),([116,105,109,101,115],215),([100,105,118,105,100,101],247)]
def letterT : Tab := [([97,103,114,97,118,101],224),([97,97,99,117,116,101],225),([97,99,105,114,99],226),([97,117,109,108],228),([97,114,105,110,103],229),([97,101,108,105,103],230),([99,99,101,100,105,108],231),([101,103,114,97,118,101],232),([101,97,99,117,116,101],233),([101,99,105,114,99],234),([105,97,99,117,116,101],237),([110,116,105,108,100,101],241),([111,97,99,117,116,101],243),([111,117,109,108],246),([111,115,108,97,115,104],248),([117,97,99,117,116,101],250),([117,117,109,108],252),([115,122,108,105,103],223),([65,117,109,108],196),([79,117,109,108],214),([85,117,109,108],220),([69,97,99,117,116,101],201)]
def wideT : Tab := [([110,100,97,115,104],8211),([109,100,97,115,104],8212),([108,115,113,117,111],8216),([114,115,113,117,111],8217),([108,100,113,117,111],8220),([114,100,113,117,111],8221),([98,117,108,108],8226),([104,101,108,108,105,112],8230),([101,117,114,111],8364),([116,114,97,100,101],8482),([108,97,114,114],8592),([114,97,114,114],8594),([104,101,97,114,116,115],9829)]
def names : Tab := [([97,109,112],38),([108,116],60),([103,116],62),([113,117,111,116],34),([97,112,111,115],39),([110,98,115,112],160),([99,111,112,121],169),([114,101,103],174),([99,101,110,116],162),([112,111,117,110,100],163),([121,101,110],165),([115,101,99,116],167),([100,101,103],176),([112,108,117,115,109,110],177),([112,97,114,97],182),([109,105,100,100,111,116],183),([108,97,113,117,111],171),([114,97,113,117,111],187),([102,114,97,99,49,50],189),([116,105,109,101,115],215),([100,105,118,105,100,101],247),([97,103,114,97,118,101],224),([97,97,99,117,116,101],225),([97,99,105,114,99],226),([97,117,109,108],228),([97,114,105,110,103],229),([97,101,108,105,103],230),([99,99,101,100,105,108],231),([101,103,114,97,118,101],232),([101,97,99,117,116,101],233),([101,99,105,114,99],234),([105,97,99,117,116,101],237),([110,116,105,108,100,101],241),([111,97,99,117,116,101],243),([111,117,109,108],246),([111,115,108,97,115,104],248),([117,97,99,117,116,101],250),([117,117,109,108],252),([115,122,108,105,103],223),([65,117,109,108],196),([79,117,109,108],214),([85,117,109,108],220),([69,97,99,117,116,101],201),([110,100,97,115,104],8211),([109,100,97,115,104],8212),([108,115,113,117,111],8216),([114,115,113,117,111],8217),([108,100,113,117,111],8220),([114,100,113,117,111],8221),([98,117,108,108],8226),([104,101,108,108,105,112],8230),([101,117,114,111],8364),([116,114,97,100,101],8482),([108,97,114,114],8592),([114,97,114,114],8594),([104,101,97,114,116,115],9829)]
def windows : List Int := [8364,0,8218,402,8222,8230,8224,8225,710,8240,352,8249,338,0,381,0,0,8216,8217,8220,8221,8226,8211,8212,732,8482,353,8250,339,0,382,376]
/-- The sign that a table has for a name; 0: it has none. -/
def look : Tab → List UInt8 → Int
  | [], _ => 0
  | p :: r, s => if s = p.1 then p.2 else look r s
def or1 (a b : Int) : Int := if a ≠ 0 then a else b
def sgn (s : List UInt8) : Int := look names s
theorem look_mem : ∀ (T : Tab) (s : List UInt8), look T s ≠ 0 → s ∈ T.map Prod.fst
  | [], s, h => absurd rfl h
  | p :: r, s, h => by
    unfold look at h
    by_cases e : s = p.1
    · simp [e]
    · rw [if_neg e] at h
      exact List.mem_cons_of_mem _ (look_mem r s h)
theorem look_no (T : Tab) (s : List UInt8) (h : s ∉ T.map Prod.fst) : look T s = 0 := by
  by_cases e : look T s = 0
  · exact e
  · exact absurd (look_mem T s e) h
set_option maxRecDepth 100000 in
theorem sgn_all : ∀ s ∈ names.map Prod.fst, or1 (look shortT s) (or1 (look markT s) (or1 (look letterT s) (look wideT s))) = sgn s := by decide +kernel
set_option maxRecDepth 100000 in
theorem sub_all : ∀ s ∈ (shortT ++ markT ++ letterT ++ wideT).map Prod.fst, s ∈ names.map Prod.fst := by decide +kernel
theorem sgn_or (s : List UInt8) : or1 (look shortT s) (or1 (look markT s) (or1 (look letterT s) (look wideT s))) = sgn s := by
  by_cases h : s ∈ names.map Prod.fst
  · exact sgn_all s h
  · have hs : ∀ T : Tab, (∀ x ∈ T, x ∈ shortT ++ markT ++ letterT ++ wideT) → look T s = 0 := fun T hT => look_no T s fun hm => h (sub_all s (by
      obtain ⟨x, hx, e⟩ := List.mem_map.1 hm
      exact List.mem_map.2 ⟨x, hT x hx, e⟩))
    rw [hs shortT (by intro x hx; simp only [List.mem_append]; exact .inl (.inl (.inl hx))), hs markT (by intro x hx; simp only [List.mem_append]; exact .inl (.inl (.inr hx))), hs letterT (by intro x hx; simp only [List.mem_append]; exact .inl (.inr hx)), hs wideT (by intro x hx; simp only [List.mem_append]; exact .inr hx)]
    unfold sgn
    rw [look_no names s h]
    rfl
/-! ### numbers -/
def win (i : Nat) : Int := windows.getD i 0
def numSign (n : Int) : Int :=
  if n = 0 ∨ 1114111 < n ∨ (55296 ≤ n ∧ n ≤ 57343) then 65533 else if 128 ≤ n ∧ n ≤ 159 ∧ win (n - 128).toNat ≠ 0 then win (n - 128).toNat else n
set_option maxRecDepth 100000 in
theorem win_all : ∀ x ∈ windows, 0 ≤ x ∧ x ≤ 8482 := by decide +kernel
theorem win_bd (i : Nat) : 0 ≤ win i ∧ win i ≤ 8482 := by
  unfold win
  rw [List.getD_eq_getElem?_getD]
  cases h : windows[i]? with
  | none => simp
  | some x => exact win_all x (List.mem_of_getElem? h)
theorem numSign_bd (n : Int) (h : 0 ≤ n) : 0 ≤ numSign n ∧ numSign n ≤ 1114111 ∧ (numSign n < 55296 ∨ 57343 < numSign n) := by
  unfold numSign
  split
  · omega
  · split
    · have := win_bd (n - 128).toNat
      omega
    · omega
theorem numSign_low (n : Int) (h : 0 ≤ n) (h2 : n ≤ 127) : numSign n ≤ 65535 := by
  unfold numSign
  split
  · omega
  · rw [if_neg (by omega)]; omega
/-! ### what a reference is made of (behind its &) -/
def letZ (n : Int) : Bool := decide ((65 ≤ n ∧ n ≤ 90) ∨ (97 ≤ n ∧ n ≤ 122))
def ofName (c : UInt8) : Bool := letZ (bt c) || isDig (bt c)
def hexB (c : UInt8) : Bool := hexOk (bt c)
def digB (c : UInt8) : Bool := isDig (bt c)
def isHx (t : List UInt8) : Bool := [35,120].isPrefixOf t || [35,88].isPrefixOf t
def dOk (b : Bool) : UInt8 → Bool := if b then hexB else digB
def fr (b : Bool) : Nat := if b then 2 else 1
def digs (t : List UInt8) : List UInt8 := (t.drop (fr (isHx t))).takeWhile (dOk (isHx t))
def decCap (l : List UInt8) : Int := if numErr l 4294967295 = 0 then numNum l 4294967295 else 4294967295
def hexCap (l : List UInt8) : Int := if hexErr l = 0 then hexNum l else 4294967295
def val (b : Bool) (l : List UInt8) : Int := if b then hexCap l else decCap l
def isNo (t : List UInt8) : Bool := [35].isPrefixOf t && !(digs t).isEmpty
def semi (l : List UInt8) : Nat := if [59].isPrefixOf l then 1 else 0
def numSz (t : List UInt8) : Nat := if isNo t then fr (isHx t) + (digs t).length + semi (t.drop (fr (isHx t) + (digs t).length)) else 0
def numSg (t : List UInt8) : Int := if isNo t then numSign (val (isHx t) (digs t)) else 0
def wn (t : List UInt8) : List UInt8 := t.takeWhile ofName
def isWh (t : List UInt8) : Bool := [59].isPrefixOf (t.drop (wn t).length) && (sgn (wn t) != 0)
def whSz (t : List UInt8) : Nat := if isWh t then (wn t).length + 1 else 0
def whSg (t : List UInt8) : Int := if isWh t then sgn (wn t) else 0
def goesOn : List UInt8 → Bool
  | [] => false
  | c :: _ => c == 61 || ofName c
def shP (a : Bool) (t : List UInt8) (k : Nat) : Int × Nat := if a && goesOn (t.drop k) then (0, 0) else (look shortT (t.take k), k)
def shL (a : Bool) (t : List UInt8) : List Nat → Int × Nat
  | [] => (0, 0)
  | k :: r => if k ≤ t.length ∧ look shortT (t.take k) ≠ 0 then shP a t k else shL a t r
def sh (a : Bool) (t : List UInt8) : Int × Nat := shL a t [2, 3, 4]
/-- The reference's sign and size, behind its &; size 0: there is none. -/
def next (a : Bool) (t : List UInt8) : Int × Nat :=
  if numSz t ≠ 0 then (numSg t, numSz t) else if whSz t ≠ 0 then (whSg t, whSz t) else sh a t
/-! ### the reference's ways -/
def foldCap (base : Int) : Int → List UInt8 → Int
  | n, [] => n
  | n, c :: r => foldCap base (min (n * base + hexV (bt c)) 4294967295) r
theorem foldCap_full (base : Int) (hb : 1 ≤ base) : ∀ l, foldCap base 4294967295 l = 4294967295
  | [] => rfl
  | c :: r => by
    have := hexV_bd (bt c)
    have h2 : (4294967295 : Int) * 1 ≤ 4294967295 * base := Int.mul_le_mul_of_nonneg_left hb (by omega)
    rw [foldCap, Int.min_eq_right (by omega)]
    exact foldCap_full base hb r
theorem hexV_dig (c : UInt8) (h : digB c = true) : hexV (bt c) = bt c - 48 ∧ 0 ≤ bt c - 48 ∧ bt c - 48 ≤ 9 := by
  have h' : 48 ≤ bt c ∧ bt c ≤ 57 := by simpa [digB, isDig] using h
  unfold hexV
  rw [if_pos h']
  omega
theorem dec_fold : ∀ (l : List UInt8) (n : Int), l.all digB = true → 0 ≤ n → n ≤ 4294967295 → foldCap 10 n l = (numFold 4294967295 n l).getD 4294967295
  | [], n, _, _, _ => rfl
  | c :: r, n, h, h0, h1 => by
    rw [List.all_cons, Bool.and_eq_true] at h
    have hv := hexV_dig c h.1
    rw [foldCap, numFold, hv.1]
    by_cases hm : 4294967295 < n * 10 + (bt c - 48)
    · rw [if_pos hm, Int.min_eq_right (by omega), foldCap_full 10 (by omega)]
      rfl
    · rw [if_neg hm, Int.min_eq_left (by omega)]
      exact dec_fold r _ h.2 (by omega) (by omega)
theorem hex_fold : ∀ (l : List UInt8) (n : Int), 0 ≤ n → n ≤ 4294967295 → foldCap 16 n l = (hexFold n l).getD 4294967295
  | [], n, _, _ => rfl
  | c :: r, n, h0, h1 => by
    have hv := hexV_bd (bt c)
    rw [foldCap, hexFold]
    by_cases hm : 268435455 < n
    · rw [if_pos hm, Int.min_eq_right (by omega), foldCap_full 16 (by omega)]
      rfl
    · rw [if_neg hm, Int.min_eq_left (by omega)]
      exact hex_fold r _ (by omega) (by omega)
theorem decCap_fold (l : List UInt8) (h : l.all digB = true) (hn : l ≠ []) : decCap l = foldCap 10 0 l := by
  have hf : digForm l = true := by
    unfold digForm
    have h' : allDig l = true := h
    rw [h']
    cases l with
    | nil => exact absurd rfl hn
    | cons a r => rfl
  rw [dec_fold l 0 h (by omega) (by omega)]
  unfold decCap
  cases e : numFold 4294967295 0 l with
  | none =>
    have := num_many l 4294967295 hf (by omega) e
    rw [this.2, if_neg (by omega)]; rfl
  | some n =>
    have := num_ok l 4294967295 n hf (by omega) e
    rw [this.2, this.1, if_pos rfl]; rfl
theorem hexCap_fold (l : List UInt8) (h : l.all hexB = true) (hn : l ≠ []) : hexCap l = foldCap 16 0 l := by
  rw [hex_fold l 0 (by omega) (by omega)]
  unfold hexCap
  cases e : hexFold 0 l with
  | none =>
    have := hex_many l ⟨h, hn⟩ e
    rw [this.2, if_neg (by omega)]; rfl
  | some n =>
    have := hex_ok l n ⟨h, hn⟩ e
    rw [this.2, this.1, if_pos rfl]; rfl
theorem foldCap_bd (base : Int) (hb : 0 ≤ base) : ∀ (l : List UInt8) (n : Int), 0 ≤ n → n ≤ 4294967295 → 0 ≤ foldCap base n l ∧ foldCap base n l ≤ 4294967295
  | [], n, h0, h1 => ⟨h0, h1⟩
  | c :: r, n, h0, h1 => by
    have hv := hexV_bd (bt c)
    have hm := Int.mul_nonneg h0 hb
    exact foldCap_bd base hb r _ (by omega) (by omega)
def baseOf (b : Bool) : Int := if b then 16 else 10
theorem all_takeWhile (p : UInt8 → Bool) : ∀ l : List UInt8, (l.takeWhile p).all p = true
  | [] => rfl
  | c :: r => by
    rw [List.takeWhile_cons]
    cases h : p c
    · rfl
    · simp only [if_true, List.all_cons, h, Bool.true_and]
      exact all_takeWhile p r
theorem val_fold (t : List UInt8) (h : digs t ≠ []) : val (isHx t) (digs t) = foldCap (baseOf (isHx t)) 0 (digs t) := by
  have ha := all_takeWhile (dOk (isHx t)) (t.drop (fr (isHx t)))
  unfold val baseOf
  unfold digs at *
  cases hb : isHx t
  · rw [hb] at ha h
    exact decCap_fold _ ha h
  · rw [hb] at ha h
    exact hexCap_fold _ ha h
theorem val_bd (t : List UInt8) (h : digs t ≠ []) : 0 ≤ val (isHx t) (digs t) ∧ val (isHx t) (digs t) ≤ 4294967295 := by
  rw [val_fold t h]
  exact foldCap_bd _ (by unfold baseOf; split <;> omega) _ 0 (by omega) (by omega)
/-! ### names -/
def lookP (t : List UInt8) : Tab → Int × Nat
  | [] => (0, 0)
  | p :: r => if (p.1 ++ [59]).isPrefixOf t then (p.2, p.1.length + 1) else lookP t r
theorem semi_not : ofName 59 = false := by decide
theorem wn_pre (n r : List UInt8) (h : n.all ofName = true) : wn (n ++ 59 :: r) = n := by
  unfold wn
  induction n with
  | nil => rw [List.nil_append, List.takeWhile_cons, semi_not]; rfl
  | cons c n ih =>
    rw [List.all_cons, Bool.and_eq_true] at h
    rw [List.cons_append, List.takeWhile_cons, h.1, if_pos rfl, ih h.2]
theorem wn_drop (t : List UInt8) : wn t ++ t.drop (wn t).length = t := by
  have e := List.takeWhile_append_dropWhile (p := ofName) (l := t)
  have : t.drop (wn t).length = t.dropWhile ofName := by
    have h2 := congrArg (List.drop (wn t).length) e
    unfold wn at *
    rw [List.drop_left] at h2
    exact h2.symm
  rw [this]
  exact e
theorem pre_iff (n t : List UInt8) (h : n.all ofName = true) : (n ++ [59]).isPrefixOf t = ([59].isPrefixOf (t.drop (wn t).length) && decide (wn t = n)) := by
  rw [Bool.eq_iff_iff, Bool.and_eq_true, List.isPrefixOf_iff_prefix, List.isPrefixOf_iff_prefix, decide_eq_true_eq]
  constructor
  · rintro ⟨r, rfl⟩
    rw [List.append_assoc, List.singleton_append, wn_pre n r h, List.drop_left]
    exact ⟨⟨r, rfl⟩, rfl⟩
  · rintro ⟨⟨r, hr⟩, rfl⟩
    refine ⟨r, ?_⟩
    rw [List.append_assoc, hr, wn_drop]
theorem lookP_any (t : List UInt8) : ∀ T : Tab, (∀ p ∈ T, p.1.all ofName = true ∧ p.2 ≠ 0) → lookP t T = if [59].isPrefixOf (t.drop (wn t).length) && (look T (wn t) != 0) then (look T (wn t), (wn t).length + 1) else (0, 0)
  | [], _ => by simp [lookP, look]
  | p :: r, h => by
    have hp := h p (List.mem_cons_self ..)
    rw [lookP, look, pre_iff p.1 t hp.1, lookP_any t r (fun q hq => h q (List.mem_cons_of_mem _ hq))]
    cases h1 : [59].isPrefixOf (t.drop (wn t).length)
    · simp
    · by_cases e : wn t = p.1
      · rw [if_pos e, ← e]
        simp [hp.2]
      · rw [if_neg e]
        simp [e]
set_option maxRecDepth 100000 in
theorem names_fine : ∀ p ∈ names, p.1.all ofName = true ∧ p.2 ≠ 0 := by decide +kernel
theorem lookP_names (t : List UInt8) : lookP t names = (whSg t, whSz t) := by
  rw [lookP_any t names names_fine]
  unfold whSg whSz isWh sgn
  split <;> rfl
def lookS (a : Bool) (t : List UInt8) : Tab → Int × Nat
  | [] => (0, 0)
  | p :: r => if p.1.isPrefixOf t && !(a && goesOn (t.drop p.1.length)) then (p.2, p.1.length) else lookS a t r
theorem lookS_no (a : Bool) (t : List UInt8) : ∀ T : Tab, (∀ p ∈ T, p.1.isPrefixOf t = false) → lookS a t T = (0, 0)
  | [], _ => rfl
  | p :: r, h => by
    rw [lookS, h p (List.mem_cons_self ..)]
    exact lookS_no a t r fun q hq => h q (List.mem_cons_of_mem _ hq)
theorem shL_no (a : Bool) (t : List UInt8) (h : ∀ p ∈ shortT, p.1.isPrefixOf t = false) : ∀ l : List Nat, shL a t l = (0, 0)
  | [] => rfl
  | k :: r => by
    rw [shL, if_neg, shL_no a t h r]
    rintro ⟨hk, hl⟩
    obtain ⟨p, hp, e⟩ := List.mem_map.1 (look_mem _ _ hl)
    have := h p hp
    rw [Bool.eq_false_iff] at this
    exact this (List.isPrefixOf_iff_prefix.2 (e ▸ List.take_prefix k t))
theorem lookS_sh (a : Bool) (t : List UInt8) : lookS a t shortT = sh a t := by
  by_cases h : ∃ p ∈ shortT, p.1.isPrefixOf t = true
  · obtain ⟨p, hp, hx⟩ := h
    obtain ⟨r, rfl⟩ := List.isPrefixOf_iff_prefix.1 hx
    clear hx
    simp only [shortT, List.mem_cons, List.not_mem_nil, or_false] at hp
    rcases hp with rfl | rfl | rfl | rfl | rfl | rfl | rfl
    all_goals
      simp [lookS, shortT, sh, shL, shP, look]
      try (cases a <;> cases goesOn r <;> simp)
  · have h' : ∀ p ∈ shortT, p.1.isPrefixOf t = false := fun p hp => by
      rw [Bool.eq_false_iff]
      exact fun e => h ⟨p, hp, e⟩
    rw [lookS_no a t shortT h']
    exact (shL_no a t h' _).symm
/-- A number's sign stands ahead: there is no name. -/
theorem hash_none (a : Bool) (r : List UInt8) : whSz (35 :: r) = 0 ∧ whSg (35 :: r) = 0 ∧ sh a (35 :: r) = (0, 0) := by
  have hw : wn (35 :: r) = [] := by
    unfold wn
    rw [List.takeWhile_cons, show ofName 35 = false from by decide]
    rfl
  have hi : isWh (35 :: r) = false := by
    unfold isWh
    rw [hw]
    rfl
  refine ⟨by unfold whSz; rw [hi]; rfl, by unfold whSg; rw [hi]; rfl, ?_⟩
  refine shL_no a _ (fun p hp => ?_) _
  simp only [shortT, List.mem_cons, List.not_mem_nil, or_false] at hp
  rcases hp with rfl | rfl | rfl | rfl | rfl | rfl | rfl <;> rfl
/-- Without a number's sign there is no number. -/
theorem not_hash (t : List UInt8) (h : [35].isPrefixOf t = false) : numSz t = 0 ∧ numSg t = 0 := by
  have : isNo t = false := by unfold isNo; rw [h]; rfl
  unfold numSz numSg
  rw [this]
  exact ⟨rfl, rfl⟩
end Rf
/- Texts decoded and encoded, as plain functions, and the promises that follow. -/
namespace Rf
open Asc Go.Lib
def dec (a : Bool) (l : List UInt8) : List UInt8 :=
  match l with
  | [] => []
  | c :: t => if c = 38 then (if (next a t).2 = 0 then 38 :: dec a t else encodeRune (next a t).1 ++ dec a (t.drop (next a t).2)) else c :: dec a t
termination_by l.length
decreasing_by
  all_goals simp only [List.length_cons, List.length_drop]
  all_goals omega
theorem dec_nil (a : Bool) : dec a [] = [] := by rw [dec]
theorem dec_none (a : Bool) (t : List UInt8) (h : (next a t).2 = 0) : dec a (38 :: t) = 38 :: dec a t := by rw [dec, if_pos rfl, if_pos h]
theorem dec_some (a : Bool) (t : List UInt8) (h : (next a t).2 ≠ 0) : dec a (38 :: t) = encodeRune (next a t).1 ++ dec a (t.drop (next a t).2) := by rw [dec, if_pos rfl, if_neg h]
theorem dec_other (a : Bool) (c : UInt8) (t : List UInt8) (h : c ≠ 38) : dec a (c :: t) = c :: dec a t := by rw [dec, if_neg h]
theorem dec_part (a : Bool) : ∀ (p t : List UInt8), (38 : UInt8) ∉ p → dec a (p ++ t) = p ++ dec a t
  | [], t, _ => rfl
  | c :: p, t, h => by
    rw [List.cons_append, dec_other a c _ (fun e => h (by rw [e]; exact List.mem_cons_self ..)), dec_part a p t (fun e => h (List.mem_cons_of_mem _ e)), List.cons_append]
theorem dec_plain (a : Bool) (p : List UInt8) (h : (38 : UInt8) ∉ p) : dec a p = p := by
  have := dec_part a p [] h
  rw [List.append_nil, dec_nil, List.append_nil] at this
  exact this
/-- What stands for the sign that a text begins with, and how many bytes of it that are. -/
def one (a : Bool) (l : List UInt8) : List UInt8 × Nat :=
  if l.take 1 = [38] then ([38,97,109,112,59], 1)
  else if l.take 1 = [60] ∧ a = false then ([38,108,116,59], 1)
  else if l.take 1 = [62] ∧ a = false then ([38,103,116,59], 1)
  else if l.take 1 = [34] ∧ a = true then ([38,113,117,111,116,59], 1)
  else if l.take 1 = [13] then ([38,35,49,51,59], 1)
  else if [194,160].isPrefixOf l = true then ([38,110,98,115,112,59], 2)
  else (l.take 1, 1)
theorem one_pos (a : Bool) (l : List UInt8) : 1 ≤ (one a l).2 ∧ (one a l).2 ≤ 2 := by
  unfold one
  repeat' split
  all_goals simp
theorem one_len (a : Bool) (l : List UInt8) (h : l ≠ []) : (one a l).2 ≤ l.length := by
  have h1 : 1 ≤ l.length := by cases l <;> simp at h ⊢
  unfold one
  repeat' split
  all_goals try exact h1
  rename_i hp
  obtain ⟨r, rfl⟩ := List.isPrefixOf_iff_prefix.1 hp
  simp
theorem one_size (a : Bool) (l : List UInt8) : (one a l).1.length ≤ 6 := by
  unfold one
  repeat' split
  all_goals simp
  omega
def enc (a : Bool) (l : List UInt8) : List UInt8 :=
  if h : l = [] then [] else (one a l).1 ++ enc a (l.drop (one a l).2)
termination_by l.length
decreasing_by
  have := (one_pos a l).1
  have : 1 ≤ l.length := by cases l <;> simp at h ⊢
  rw [List.length_drop]
  omega
theorem enc_nil (a : Bool) : enc a [] = [] := by rw [enc]; simp
theorem enc_go (a : Bool) (l : List UInt8) (h : l ≠ []) : enc a l = (one a l).1 ++ enc a (l.drop (one a l).2) := by rw [enc]; simp [h]
theorem enc_len (a : Bool) (l : List UInt8) : (enc a l).length ≤ 6 * l.length := by
  generalize hn : l.length = n
  induction n using Nat.strongRecOn generalizing l with
  | ind n ih =>
    by_cases h : l = []
    · subst h; rw [enc_nil]; simp
    · have h1 := one_pos a l
      have h2 := one_len a l h
      have h3 := one_size a l
      have := ih (l.drop (one a l).2).length (by rw [List.length_drop]; omega) _ rfl
      rw [enc_go a l h, List.length_append]
      rw [List.length_drop] at this
      omega
/-! ### what is encoded is decoded (P11.3) -/
theorem next_name (b : Bool) (n r : List UInt8) (c : UInt8) (m : List UInt8) (hn : n = c :: m) (hc : c ≠ 35) (ha : n.all ofName = true) (hs : sgn n ≠ 0) :
    next b (n ++ 59 :: r) = (sgn n, n.length + 1) := by
  have h35 : [35].isPrefixOf (n ++ 59 :: r) = false := by
    subst hn
    have : (35 == c) = false := by
      rw [beq_eq_false_iff_ne]; exact fun e => hc e.symm
    simp [List.isPrefixOf, this]
  have hw : isWh (n ++ 59 :: r) = true := by
    unfold isWh
    rw [wn_pre n r ha, List.drop_left]
    simp [List.isPrefixOf, hs]
  unfold next
  rw [(not_hash _ h35).1]
  have hz : whSz (n ++ 59 :: r) = n.length + 1 := by unfold whSz; rw [hw, wn_pre n r ha]; rfl
  have hg : whSg (n ++ 59 :: r) = sgn n := by unfold whSg; rw [hw, wn_pre n r ha]; rfl
  rw [hz, hg]
  simp
theorem next_13 (b : Bool) (r : List UInt8) : next b (35 :: 49 :: 51 :: 59 :: r) = (13, 4) := by
  have hx : isHx (35 :: 49 :: 51 :: 59 :: r) = false := by simp [isHx, List.isPrefixOf]
  have hd : digs (35 :: 49 :: 51 :: 59 :: r) = [49, 51] := by
    unfold digs
    rw [hx]
    show (List.takeWhile digB (49 :: 51 :: 59 :: r)) = _
    rw [List.takeWhile_cons, show digB 49 = true from by decide, if_pos rfl, List.takeWhile_cons, show digB 51 = true from by decide, if_pos rfl, List.takeWhile_cons, show digB 59 = false from by decide]
    rfl
  have hi : isNo (35 :: 49 :: 51 :: 59 :: r) = true := by
    unfold isNo
    rw [hd]
    simp [List.isPrefixOf]
  unfold next numSz numSg
  rw [hi, hx, hd]
  have hv : val false [49, 51] = 13 := by decide +kernel
  rw [hv]
  have hs : numSign 13 = 13 := by decide +kernel
  rw [hs]
  simp [fr, semi, List.isPrefixOf]
theorem dec_name (b : Bool) (n r : List UInt8) (c : UInt8) (m : List UInt8) (hn : n = c :: m) (hc : c ≠ 35) (ha : n.all ofName = true) (hs : sgn n ≠ 0) :
    dec b (38 :: (n ++ 59 :: r)) = encodeRune (sgn n) ++ dec b r := by
  have e := next_name b n r c m hn hc ha hs
  rw [dec_some b _ (by rw [e]; simp), e]
  have : (n ++ 59 :: r).drop (n.length + 1) = r := by
    rw [List.drop_append]
    simp
  rw [this]
theorem one_back (a b : Bool) (l r : List UInt8) (h : l ≠ []) : dec b ((one a l).1 ++ r) = l.take (one a l).2 ++ dec b r := by
  have hl : ∀ x : UInt8, l.take 1 = [x] → l.take 1 = [x] := fun _ h => h
  unfold one
  split
  · rename_i e
    show dec b (38 :: ([97,109,112] ++ 59 :: r)) = l.take 1 ++ _
    rw [dec_name b _ r 97 _ rfl (by decide) (by decide) (by decide +kernel), e]
    rw [show encodeRune (sgn [97,109,112]) = [38] from by decide +kernel]
  split
  · rename_i e
    show dec b (38 :: ([108,116] ++ 59 :: r)) = l.take 1 ++ _
    rw [dec_name b _ r 108 _ rfl (by decide) (by decide) (by decide +kernel), e.1]
    rw [show encodeRune (sgn [108,116]) = [60] from by decide +kernel]
  split
  · rename_i e
    show dec b (38 :: ([103,116] ++ 59 :: r)) = l.take 1 ++ _
    rw [dec_name b _ r 103 _ rfl (by decide) (by decide) (by decide +kernel), e.1]
    rw [show encodeRune (sgn [103,116]) = [62] from by decide +kernel]
  split
  · rename_i e
    show dec b (38 :: ([113,117,111,116] ++ 59 :: r)) = l.take 1 ++ _
    rw [dec_name b _ r 113 _ rfl (by decide) (by decide) (by decide +kernel), e.1]
    rw [show encodeRune (sgn [113,117,111,116]) = [34] from by decide +kernel]
  split
  · rename_i e
    show dec b (38 :: 35 :: 49 :: 51 :: 59 :: r) = l.take 1 ++ _
    have e2 := next_13 b r
    rw [dec_some b _ (by rw [e2]; simp), e2, e]
    rw [show encodeRune (13 : Int) = [13] from by decide +kernel]
    rfl
  split
  · rename_i e
    obtain ⟨q, rfl⟩ := List.isPrefixOf_iff_prefix.1 e
    show dec b (38 :: ([110,98,115,112] ++ 59 :: r)) = _
    rw [dec_name b _ r 110 _ rfl (by decide) (by decide) (by decide +kernel)]
    rw [show encodeRune (sgn [110,98,115,112]) = [194,160] from by decide +kernel]
    rfl
  · rename_i e _ _ _ _ _
    cases l with
    | nil => exact absurd rfl h
    | cons c t =>
      refine dec_part b [c] r ?_
      intro hm
      rw [List.mem_singleton] at hm
      exact e (by rw [← hm]; rfl)
theorem back (a b : Bool) (l : List UInt8) : dec b (enc a l) = l := by
  generalize hn : l.length = n
  induction n using Nat.strongRecOn generalizing l with
  | ind n ih =>
    by_cases h : l = []
    · subst h; rw [enc_nil, dec_nil]
    · have h1 := one_pos a l
      have h2 := one_len a l h
      rw [enc_go a l h, one_back a b l _ h, ih (l.drop (one a l).2).length (by rw [List.length_drop]; omega) _ rfl, List.take_append_drop]
/-- No byte of what is encoded would end it. -/
def clean (a : Bool) (c : UInt8) : Bool := if a then c != 34 else c != 60 && c != 62
theorem one_clean (a : Bool) (l : List UInt8) (h : l ≠ []) : (one a l).1.all (clean a) = true := by
  obtain ⟨x, t, rfl⟩ : ∃ x t, l = x :: t := by
    cases l with
    | nil => exact absurd rfl h
    | cons x t => exact ⟨x, t, rfl⟩
  unfold one
  split
  · cases a <;> decide
  split
  · cases a <;> decide
  split
  · cases a <;> decide
  split
  · cases a <;> decide
  split
  · cases a <;> decide
  split
  · cases a <;> decide
  · rename_i _ h1 h2 h3 _ _
    simp only [List.take_succ_cons, List.take_zero, List.cons.injEq, and_true] at h1 h2 h3 ⊢
    cases a <;> simp [clean] at * <;> simp [*]
theorem enc_clean (a : Bool) (l : List UInt8) : (enc a l).all (clean a) = true := by
  generalize hn : l.length = n
  induction n using Nat.strongRecOn generalizing l with
  | ind n ih =>
    by_cases h : l = []
    · subst h; rw [enc_nil]; rfl
    · have h1 := one_pos a l
      have h2 := one_len a l h
      rw [enc_go a l h, List.all_append, one_clean a l h, ih (l.drop (one a l).2).length (by rw [List.length_drop]; omega) _ rfl]
      rfl
/-! ### what is decoded of a text is a text, no longer than it (P11.4) -/
def low (c : UInt8) : Bool := decide (c.toNat < 128)
theorem low_dig {c : UInt8} (h : digB c = true) : low c = true := by
  have h' : 48 ≤ bt c ∧ bt c ≤ 57 := by simpa [digB, isDig] using h
  unfold low bt at *
  rw [decide_eq_true_eq]; omega
theorem low_hex {c : UInt8} (h : hexB c = true) : low c = true := by
  have h' : ((48 ≤ bt c ∧ bt c ≤ 57) ∨ (97 ≤ bt c ∧ bt c ≤ 102)) ∨ (65 ≤ bt c ∧ bt c ≤ 70) := by simpa [hexB, hexOk] using h
  unfold low bt at *
  rw [decide_eq_true_eq]; omega
theorem low_name {c : UInt8} (h : ofName c = true) : low c = true := by
  have h' : ((65 ≤ bt c ∧ bt c ≤ 90) ∨ (97 ≤ bt c ∧ bt c ≤ 122)) ∨ (48 ≤ bt c ∧ bt c ≤ 57) := by simpa [ofName, letZ, isDig] using h
  unfold low bt at *
  rw [decide_eq_true_eq]; omega
theorem low_ok (b : Bool) {c : UInt8} (h : dOk b c = true) : low c = true := by
  cases b
  · exact low_dig h
  · exact low_hex h
theorem all_mono {p q : UInt8 → Bool} (h : ∀ c, p c = true → q c = true) (l : List UInt8) (hl : l.all p = true) : l.all q = true := by
  rw [List.all_eq_true] at *
  exact fun c hc => h c (hl c hc)
theorem text_low (c : UInt8) (t : List UInt8) (h : low c = true) : Utf.isText (c :: t) = Utf.isText t := by
  have h' : c.toNat < 128 := by simpa [low] using h
  have hp : Utf.part (c :: t) = (1, true) := by unfold Utf.part; rw [Utf.at0, Utf.part_1 _ _ _ _ _ h']
  rw [Utf.isText_go _ (by simp), hp]
  rfl
theorem text_lows : ∀ (p t : List UInt8), p.all low = true → Utf.isText (p ++ t) = Utf.isText t
  | [], t, _ => rfl
  | c :: p, t, h => by
    rw [List.all_cons, Bool.and_eq_true] at h
    rw [List.cons_append, text_low c _ h.1, text_lows p t h.2]
theorem semi_form (l : List UInt8) : ∃ p, p.length = semi l ∧ p.all low = true ∧ l = p ++ l.drop (semi l) := by
  unfold semi
  split
  · rename_i h
    obtain ⟨r, rfl⟩ := List.isPrefixOf_iff_prefix.1 h
    exact ⟨[59], rfl, rfl, rfl⟩
  · exact ⟨[], rfl, rfl, rfl⟩
theorem takeWhile_form (p : UInt8 → Bool) (t : List UInt8) : t = t.takeWhile p ++ t.drop (t.takeWhile p).length := by
  have e := List.takeWhile_append_dropWhile (p := p) (l := t)
  have : t.drop (t.takeWhile p).length = t.dropWhile p := by
    have h2 := congrArg (List.drop (t.takeWhile p).length) e
    rw [List.drop_left] at h2
    exact h2.symm
  rw [this]
  exact e.symm
theorem hash_form (t : List UInt8) (h : [35].isPrefixOf t = true) : ∃ p, p.length = fr (isHx t) ∧ p.all low = true ∧ t = p ++ t.drop (fr (isHx t)) := by
  cases hx : isHx t
  · obtain ⟨r, rfl⟩ := List.isPrefixOf_iff_prefix.1 h
    exact ⟨[35], rfl, rfl, rfl⟩
  · unfold isHx at hx
    rw [Bool.or_eq_true] at hx
    rcases hx with hx | hx
    · obtain ⟨r, rfl⟩ := List.isPrefixOf_iff_prefix.1 hx
      exact ⟨[35, 120], rfl, rfl, rfl⟩
    · obtain ⟨r, rfl⟩ := List.isPrefixOf_iff_prefix.1 hx
      exact ⟨[35, 88], rfl, rfl, rfl⟩
/-- A reference's bytes are of the first 128. -/
def Lows (t : List UInt8) (n : Nat) : Prop := ∃ p, p.length = n ∧ p.all low = true ∧ t = p ++ t.drop n
theorem num_low (t : List UInt8) : Lows t (numSz t) := by
  unfold numSz
  split
  · rename_i h
    unfold isNo at h
    rw [Bool.and_eq_true] at h
    obtain ⟨p, hp1, hp2, hp3⟩ := hash_form t h.1
    have hd := takeWhile_form (dOk (isHx t)) (t.drop (fr (isHx t)))
    have ha := all_mono (fun c h => low_ok (isHx t) h) _ (all_takeWhile (dOk (isHx t)) (t.drop (fr (isHx t))))
    obtain ⟨q, hq1, hq2, hq3⟩ := semi_form (t.drop (fr (isHx t) + (digs t).length))
    refine ⟨p ++ (digs t ++ q), by rw [List.length_append, List.length_append, hp1, hq1]; omega, by rw [List.all_append, List.all_append, hp2, hq2]; unfold digs; rw [ha]; rfl, ?_⟩
    rw [List.append_assoc, List.append_assoc]
    rw [← List.drop_drop (i := semi _)]
    rw [← hq3]
    rw [← List.drop_drop]
    unfold digs
    rw [← hd]
    exact hp3
  · exact ⟨[], rfl, rfl, rfl⟩
theorem wh_low (t : List UInt8) : Lows t (whSz t) := by
  unfold whSz
  split
  · rename_i h
    unfold isWh at h
    rw [Bool.and_eq_true] at h
    obtain ⟨r, hr⟩ := List.isPrefixOf_iff_prefix.1 h.1
    refine ⟨wn t ++ [59], by rw [List.length_append]; rfl, ?_, ?_⟩
    · rw [List.all_append]
      unfold wn
      rw [all_mono (fun c h => low_name h) _ (all_takeWhile ofName t)]
      rfl
    · rw [← List.drop_drop, ← hr, List.append_assoc]
      exact ((congrArg (wn t ++ ·) hr).trans (wn_drop t)).symm
  · exact ⟨[], rfl, rfl, rfl⟩
set_option maxRecDepth 100000 in
theorem short_low : ∀ p ∈ shortT, p.1.all low = true := by decide +kernel
theorem sh_low (a : Bool) (t : List UInt8) : Lows t (sh a t).2 := by
  have key : ∀ l : List Nat, Lows t (shL a t l).2 := by
    intro l
    induction l with
    | nil => exact ⟨[], rfl, rfl, rfl⟩
    | cons k r ih =>
      rw [shL]
      split
      · rename_i h
        unfold shP
        split
        · exact ⟨[], rfl, rfl, rfl⟩
        · obtain ⟨p, hp, e⟩ := List.mem_map.1 (look_mem _ _ h.2)
          refine ⟨t.take k, by rw [List.length_take]; show min k t.length = k; omega, ?_, (List.take_append_drop k t).symm⟩
          rw [← e]
          exact short_low p hp
      · exact ih
  exact key _
theorem next_low (a : Bool) (t : List UInt8) : Lows t (next a t).2 := by
  unfold next
  split
  · exact num_low t
  split
  · exact wh_low t
  · exact sh_low a t
theorem next_len (a : Bool) (t : List UInt8) : (next a t).2 ≤ t.length := by
  obtain ⟨p, h1, _, h3⟩ := next_low a t
  have := congrArg List.length h3
  rw [List.length_append, h1] at this
  omega
theorem enc3 (c : Int) (h : c ≤ 65535) : (encodeRune c).length ≤ 3 := by
  unfold encodeRune encodeRuneZ
  repeat' split
  all_goals simp
  all_goals omega
theorem look_bd (M : Int) (hM : 0 ≤ M) : ∀ (T : Tab) (s : List UInt8), (∀ p ∈ T, p.2 ≤ M) → look T s ≤ M
  | [], s, _ => hM
  | p :: r, s, h => by
    rw [look]
    split
    · exact h p (List.mem_cons_self ..)
    · exact look_bd M hM r s fun q hq => h q (List.mem_cons_of_mem _ hq)
set_option maxRecDepth 100000 in
theorem names_bd : ∀ p ∈ names, p.2 ≤ 65535 := by decide +kernel
set_option maxRecDepth 100000 in
theorem short_bd : ∀ p ∈ shortT, p.2 ≤ 65535 := by decide +kernel
set_option maxRecDepth 100000 in
theorem names_ne : ∀ s ∈ names.map Prod.fst, 1 ≤ s.length := by decide +kernel
theorem next_short (a : Bool) (t : List UInt8) (h : (next a t).2 ≠ 0) : (encodeRune (next a t).1).length ≤ (next a t).2 + 1 := by
  unfold next at *
  split at h
  · rename_i hz
    rw [if_pos hz]
    show (encodeRune (numSg t)).length ≤ numSz t + 1
    have hi : isNo t = true := by
      cases e : isNo t
      · unfold numSz at hz; rw [e] at hz; exact absurd rfl hz
      · rfl
    have hd : digs t ≠ [] := by
      unfold isNo at hi
      rw [Bool.and_eq_true] at hi
      intro e
      rw [e] at hi
      simp at hi
    have hf : 1 ≤ fr (isHx t) := by unfold fr; split <;> omega
    unfold numSz numSg
    rw [hi]
    simp only [if_true]
    by_cases h1 : 2 ≤ (digs t).length
    · have := (Utf.enc_len (numSign (val (isHx t) (digs t)))).1
      omega
    · obtain ⟨c, hc⟩ : ∃ c, digs t = [c] := by
        match digs t, hd, h1 with
        | [c], _, _ => exact ⟨c, rfl⟩
        | _ :: _ :: _, _, h1 => simp at h1
      have hv := val_fold t hd
      have hb := hexV_bd (bt c)
      have hval : val (isHx t) (digs t) ≤ 127 ∧ 0 ≤ val (isHx t) (digs t) := by
        rw [hv, hc]
        simp only [foldCap]
        omega
      have := enc3 _ (numSign_low _ hval.2 hval.1)
      rw [hc] at *
      simp only [List.length_singleton]
      omega
  split at h
  · rename_i hz hy
    rw [if_neg hz, if_pos hy]
    show (encodeRune (whSg t)).length ≤ whSz t + 1
    have hi : isWh t = true := by
      cases e : isWh t
      · unfold whSz at hy; rw [e] at hy; exact absurd rfl hy
      · rfl
    have h3 := enc3 (sgn (wn t)) (look_bd 65535 (by omega) _ _ names_bd)
    have hl : 1 ≤ (wn t).length := by
      unfold isWh at hi
      rw [Bool.and_eq_true] at hi
      exact names_ne _ (look_mem names (wn t) (by have h' := hi.2; unfold sgn at h'; simpa using h'))
    unfold whSz whSg
    rw [hi]
    simp only [if_true]
    omega
  · rename_i hz hy
    rw [if_neg hz, if_neg hy]
    have key : ∀ l : List Nat, (∀ k ∈ l, 2 ≤ k) → (shL a t l).2 ≠ 0 → (encodeRune (shL a t l).1).length ≤ (shL a t l).2 + 1 := by
      intro l
      induction l with
      | nil => intro _ h; exact absurd rfl h
      | cons k r ih =>
        intro hk
        rw [shL]
        split
        · unfold shP
          split
          · intro h; exact absurd rfl h
          · intro _
            have h3 := enc3 (look shortT (t.take k)) (look_bd 65535 (by omega) _ _ short_bd)
            have := hk k (List.mem_cons_self ..)
            show (encodeRune (look shortT (t.take k))).length ≤ k + 1
            omega
        · exact ih fun q hq => hk q (List.mem_cons_of_mem _ hq)
    exact key _ (by decide) h
theorem dec_len (a : Bool) (l : List UInt8) : (dec a l).length ≤ l.length := by
  generalize hn : l.length = n
  induction n using Nat.strongRecOn generalizing l with
  | ind n ih =>
    cases l with
    | nil => rw [dec_nil]; simp
    | cons c t =>
      rw [List.length_cons] at hn
      by_cases hc : c = 38
      · subst hc
        by_cases hz : (next a t).2 = 0
        · rw [dec_none a t hz, List.length_cons]
          have := ih t.length (by omega) t rfl
          omega
        · rw [dec_some a t hz, List.length_append]
          have h1 := next_short a t hz
          have h2 := next_len a t
          have := ih _ (by rw [List.length_drop]; omega) (t.drop (next a t).2) rfl
          rw [List.length_drop] at this
          omega
      · rw [dec_other a c t hc, List.length_cons]
        have := ih t.length (by omega) t rfl
        omega
end Rf
/- What Next answers, as a plain function. -/
namespace Rf
/-- Next's three results. -/
def nx (a : Bool) : List UInt8 → Int × Nat × Bool
  | [] => (0, 0, false)
  | c :: t => if c = 38 ∧ (next a t).2 ≠ 0 then ((next a t).1, (next a t).2 + 1, true) else (0, 0, false)
theorem nx_cons (a : Bool) (c : UInt8) (t : List UInt8) : nx a (c :: t) = if c = 38 ∧ (next a t).2 ≠ 0 then ((next a t).1, (next a t).2 + 1, true) else (0, 0, false) := rfl
theorem nx_none (a : Bool) (l : List UInt8) (h : [38].isPrefixOf l = false) : nx a l = (0, 0, false) := by
  cases l with
  | nil => rfl
  | cons c t =>
    rw [nx, if_neg]
    rintro ⟨e, _⟩
    subst e
    simp [List.isPrefixOf] at h
theorem nx_amp (a : Bool) (t : List UInt8) : nx a (38 :: t) = if (next a t).2 = 0 then (0, 0, false) else ((next a t).1, (next a t).2 + 1, true) := by
  rw [nx]
  by_cases h : (next a t).2 = 0
  · rw [if_neg (by simp [h]), if_pos h]
  · rw [if_pos ⟨rfl, h⟩, if_neg h]
theorem amp_form (l : List UInt8) (h : [38].isPrefixOf l = true) : ∃ t, l = 38 :: t := by
  obtain ⟨r, rfl⟩ := List.isPrefixOf_iff_prefix.1 h
  exact ⟨r, rfl⟩
/-- How a text goes on: dec by nx. -/
theorem dec_nx (a : Bool) (l : List UInt8) (h : (nx a l).2.2 = true) : dec a l = Go.Lib.encodeRune (nx a l).1 ++ dec a (l.drop (nx a l).2.1) := by
  cases l with
  | nil => cases h
  | cons c t =>
    rw [nx_cons] at *
    by_cases hc : c = 38 ∧ (next a t).2 ≠ 0
    · rw [if_pos hc]
      obtain ⟨rfl, hn⟩ := hc
      rw [dec_some a t hn]
      rfl
    · rw [if_neg hc] at h
      cases h
theorem dec_nx_no (a : Bool) (c : UInt8) (t : List UInt8) (h : (nx a (c :: t)).2.2 = false) : dec a (c :: t) = c :: dec a t := by
  rw [nx_cons] at h
  by_cases hc : c = 38
  · subst hc
    by_cases hn : (next a t).2 = 0
    · exact dec_none a t hn
    · rw [if_pos ⟨rfl, hn⟩] at h; cases h
  · exact dec_other a c t hc
theorem nx_len (a : Bool) (l : List UInt8) : (nx a l).2.1 ≤ l.length ∧ ((nx a l).2.2 = true → 1 ≤ (nx a l).2.1) := by
  cases l with
  | nil => exact ⟨Nat.le_refl _, fun h => by cases h⟩
  | cons c t =>
    rw [nx_cons]
    have := next_len a t
    by_cases hc : c = 38 ∧ (next a t).2 ≠ 0
    · rw [if_pos hc]
      simp only [List.length_cons]
      exact ⟨by omega, fun _ => by omega⟩
    · rw [if_neg hc]
      exact ⟨Nat.zero_le _, fun h => by cases h⟩
theorem next_bd (a : Bool) (t : List UInt8) : 0 ≤ (next a t).1 ∧ (next a t).1 ≤ 1114111 := by
  have look_pos : ∀ (T : Tab) (s : List UInt8), (∀ p ∈ T, 0 ≤ p.2) → 0 ≤ look T s := by
    intro T
    induction T with
    | nil => intro s _; exact Int.le_refl 0
    | cons p r ih =>
      intro s h
      rw [look]
      split
      · exact h p (List.mem_cons_self ..)
      · exact ih s fun q hq => h q (List.mem_cons_of_mem _ hq)
  unfold next
  split
  · rename_i h
    unfold numSg
    split
    · rename_i hi
      have hd : digs t ≠ [] := by
        unfold isNo at hi
        rw [Bool.and_eq_true] at hi
        intro e
        rw [e] at hi
        simp at hi
      have := numSign_bd _ (val_bd t hd).1
      exact ⟨this.1, this.2.1⟩
    · exact ⟨Int.le_refl 0, by show (0 : Int) ≤ 1114111; omega⟩
  split
  · unfold whSg
    split
    · have h1 := look_bd 65535 (by omega) names (wn t) names_bd
      have h2 := look_pos names (wn t) (by decide +kernel)
      exact ⟨h2, by show look names (wn t) ≤ _; omega⟩
    · exact ⟨Int.le_refl 0, by show (0 : Int) ≤ 1114111; omega⟩
  · have key : ∀ l : List Nat, 0 ≤ (shL a t l).1 ∧ (shL a t l).1 ≤ 1114111 := by
      intro l
      induction l with
      | nil => exact ⟨Int.le_refl 0, by show (0 : Int) ≤ 1114111; omega⟩
      | cons k r ih =>
        rw [shL]
        split
        · unfold shP
          split
          · exact ⟨Int.le_refl 0, by show (0 : Int) ≤ 1114111; omega⟩
          · have h1 := look_bd 65535 (by omega) shortT (t.take k) short_bd
            have h2 := look_pos shortT (t.take k) (by decide +kernel)
            exact ⟨h2, by show look shortT (t.take k) ≤ _; omega⟩
        · exact ih
    exact key _
theorem nx_bd (a : Bool) (l : List UInt8) : 0 ≤ (nx a l).1 ∧ (nx a l).1 ≤ 1114111 := by
  cases l with
  | nil => exact ⟨Int.le_refl 0, by show (0 : Int) ≤ 1114111; omega⟩
  | cons c t =>
    rw [nx_cons]
    by_cases hc : c = 38 ∧ (next a t).2 ≠ 0
    · rw [if_pos hc]
      exact next_bd a t
    · rw [if_neg hc]
      exact ⟨Int.le_refl 0, by show (0 : Int) ≤ 1114111; omega⟩
end Rf
/- Tokens of a document, in plain functions on lists of bytes: tags with their attributes, texts, comments; and what follows of them. -/
namespace Tk
open Asc
structure Tok where
  kind : Nat
  name : List UInt8
  attrs : List (List UInt8 × List UInt8)
  self : Bool
  text : List UInt8
def zero : Tok := ⟨0, [], [], false, []⟩
def letB (c : UInt8) : Bool := Rf.letZ (bt c)
/-- Bytes of a tag's name, of an attribute's behind its first, of a value without quotes. -/
def tn (c : UInt8) : Bool := !isBlank c && c != 47 && c != 62
def an (c : UInt8) : Bool := tn c && c != 61
def vn (c : UInt8) : Bool := !isBlank c && c != 62
def isQ (c : UInt8) : Bool := c == 34 || c == 39
/-! ### attributes -/
def attrN (l : List UInt8) : List UInt8 := l.take 1 ++ (l.drop 1).takeWhile an
def attrR (l : List UInt8) : List UInt8 := (l.drop 1).dropWhile an
/-- What stands behind a = and blanks, if there is one. -/
def eqR (l : List UInt8) : Option (List UInt8) :=
  match l.dropWhile isBlank with
  | [] => none
  | c :: r => if c = 61 then some (r.dropWhile isBlank) else none
def valRaw : List UInt8 → List UInt8
  | [] => []
  | q :: t => if isQ q then t.takeWhile (· != q) else (q :: t).takeWhile vn
def valR : List UInt8 → List UInt8
  | [] => []
  | q :: t => if isQ q then (t.dropWhile (· != q)).drop 1 else (q :: t).dropWhile vn
def attr (l : List UInt8) : (List UInt8 × List UInt8) × List UInt8 :=
  match eqR (attrR l) with
  | none => ((lower (attrN l), []), attrR l)
  | some r => ((lower (attrN l), Rf.dec true (valRaw r)), valR r)
def has (as : List (List UInt8 × List UInt8)) (n : List UInt8) : Bool := as.any fun a => a.1 == n
def add (as : List (List UInt8 × List UInt8)) (a : List UInt8 × List UInt8) : List (List UInt8 × List UInt8) := if has as a.1 = false ∧ as.length < 64 then as ++ [a] else as
theorem dropWhile_le (p : UInt8 → Bool) (l : List UInt8) : (l.dropWhile p).length ≤ l.length := by
  have := congrArg List.length (List.takeWhile_append_dropWhile (p := p) (l := l))
  rw [List.length_append] at this
  omega
theorem attrR_le (l : List UInt8) (h : l ≠ []) : (attrR l).length + 1 ≤ l.length := by
  unfold attrR
  have := dropWhile_le an (l.drop 1)
  rw [List.length_drop] at this
  have : 1 ≤ l.length := by cases l <;> simp at h ⊢
  omega
theorem eqR_le (l r : List UInt8) (h : eqR l = some r) : r.length + 1 ≤ l.length := by
  unfold eqR at h
  have h1 := dropWhile_le isBlank l
  split at h
  · cases h
  · rename_i c q e
    split at h
    · cases h
      rw [e, List.length_cons] at h1
      have := dropWhile_le isBlank q
      omega
    · cases h
theorem valR_le (r : List UInt8) : (valR r).length ≤ r.length := by
  cases r with
  | nil => exact Nat.le_refl _
  | cons q t =>
    rw [valR]
    split
    · have := dropWhile_le (· != q) t
      rw [List.length_drop, List.length_cons]
      omega
    · exact dropWhile_le vn _
theorem attr_lt (l : List UInt8) (h : l ≠ []) : (attr l).2.length + 1 ≤ l.length := by
  have h1 := attrR_le l h
  unfold attr
  split
  · exact h1
  · rename_i r e
    have h2 := eqR_le _ r e
    have h3 := valR_le r
    show (valR r).length + 1 ≤ _
    omega
/-! ### a tag -/
def tgF : Nat → List UInt8 → List (List UInt8 × List UInt8) → Bool → Option (List (List UInt8 × List UInt8) × Bool × List UInt8)
  | 0, _, _, _ => none
  | _ + 1, [], _, _ => none
  | f + 1, c :: t, as, sl => if c = 62 then some (as, sl, t) else if c = 47 ∨ isBlank c = true then tgF f t as (c == 47) else tgF f (attr (c :: t)).2 (add as (attr (c :: t)).1) false
def tg (l : List UInt8) (as : List (List UInt8 × List UInt8)) (sl : Bool) : Option (List (List UInt8 × List UInt8) × Bool × List UInt8) := tgF l.length l as sl
theorem tgF_fuel : ∀ (f : Nat) (l : List UInt8) (as : List (List UInt8 × List UInt8)) (sl : Bool), l.length ≤ f → tgF f l as sl = tg l as sl := by
  intro f
  induction f using Nat.strongRecOn with
  | ind f ih =>
    intro l as sl h
    cases l with
    | nil => cases f <;> rfl
    | cons c t =>
      cases f with
      | zero => simp at h
      | succ f =>
        rw [List.length_cons] at h
        have ha := attr_lt (c :: t) (by simp)
        rw [List.length_cons] at ha
        show tgF (f + 1) (c :: t) as sl = tgF (t.length + 1) (c :: t) as sl
        rw [tgF, tgF, ih f (by omega) t as (c == 47) (by omega), ih f (by omega) (attr (c :: t)).2 _ false (by omega)]
        by_cases ht : t.length < f + 1
        · rw [ih t.length ht t as (c == 47) (Nat.le_refl _), ih t.length ht (attr (c :: t)).2 _ false (by omega)]
        · omega
theorem tg_end (t : List UInt8) (as : List (List UInt8 × List UInt8)) (sl : Bool) : tg (62 :: t) as sl = some (as, sl, t) := rfl
theorem tg_gap (c : UInt8) (t : List UInt8) (as : List (List UInt8 × List UInt8)) (sl : Bool) (h62 : c ≠ 62) (h : c = 47 ∨ isBlank c = true) : tg (c :: t) as sl = tg t as (c == 47) := by
  show tgF (t.length + 1) (c :: t) as sl = _
  rw [tgF, if_neg h62, if_pos h]
  rfl
theorem tg_attr (c : UInt8) (t : List UInt8) (as : List (List UInt8 × List UInt8)) (sl : Bool) (h : tn c = true) : tg (c :: t) as sl = tg (attr (c :: t)).2 (add as (attr (c :: t)).1) false := by
  have ha := attr_lt (c :: t) (by simp)
  rw [List.length_cons] at ha
  unfold tn at h
  simp only [Bool.and_eq_true, bne_iff_ne, Bool.not_eq_true', ne_eq] at h
  show tgF (t.length + 1) (c :: t) as sl = _
  rw [tgF, if_neg h.2, if_neg (by rintro (e | e); exact h.1.2 e; rw [h.1.1] at e; cases e)]
  exact tgF_fuel _ _ _ _ (by omega)
/-- A tag at its name: the token and what is behind it. -/
def tag (l : List UInt8) : Option (Tok × List UInt8) :=
  match tg (l.dropWhile tn) [] false with
  | none => none
  | some (as, sl, r) => some (⟨1, lower (l.takeWhile tn), as, sl, []⟩, r)
theorem tgF_lt : ∀ (f : Nat) (l : List UInt8) (as : List (List UInt8 × List UInt8)) (sl : Bool) (x : List (List UInt8 × List UInt8) × Bool × List UInt8), tgF f l as sl = some x → x.2.2.length + 1 ≤ l.length
  | 0, l, as, sl, x, h => by cases h
  | f + 1, [], as, sl, x, h => by cases h
  | f + 1, c :: t, as, sl, x, h => by
    rw [tgF] at h
    split at h
    · cases h; simp
    split at h
    · have := tgF_lt f _ _ _ x h
      rw [List.length_cons]; omega
    · have := tgF_lt f _ _ _ x h
      have ha := attr_lt (c :: t) (by simp)
      omega
theorem tag_lt (l : List UInt8) (k : Tok) (r : List UInt8) (h : tag l = some (k, r)) : r.length + 1 ≤ l.length := by
  unfold tag at h
  split at h
  · cases h
  · rename_i as sl q e
    cases h
    have h1 := tgF_lt _ _ _ _ _ e
    have h2 := dropWhile_le tn l
    simp only at h1
    omega
/-! ### tokens -/
def isTag : List UInt8 → Bool
  | 60 :: c :: _ => letB c || c == 47 || c == 33 || c == 63
  | _ => false
/-- How many bytes stand ahead of the next place where a tag, a comment, a doctype begins. -/
def upto : List UInt8 → Nat
  | [] => 0
  | c :: t => if isTag (c :: t) then 0 else upto t + 1
/-- Where a text stands for the first time; the length, if it does not. -/
def fd (w : List UInt8) : List UInt8 → Nat
  | [] => 0
  | c :: t => if w.isPrefixOf (c :: t) then 0 else fd w t + 1
def begins (w s : List UInt8) : Bool := decide (w.length ≤ s.length) && lower (s.take w.length) == w
def doctype : List UInt8 := [60, 33, 100, 111, 99, 116, 121, 112, 101]
def atLetter : List UInt8 → Bool
  | [] => false
  | c :: _ => letB c
def textTok (x : List UInt8) : Tok := ⟨3, [], [], false, x⟩
def next (s : List UInt8) : Tok × Nat :=
  if s = [] then (zero, 0)
  else if isTag s = false then (textTok (Rf.dec false (s.take (upto s))), upto s)
  else if atLetter (s.drop 1) = true then
    (match tag (s.drop 1) with
    | none => (zero, s.length)
    | some (k, r) => (k, s.length - r.length))
  else if (s.drop 1).head? = some 47 ∧ atLetter (s.drop 2) = true then
    (match tag (s.drop 2) with
    | none => (zero, s.length)
    | some (k, r) => (⟨2, k.name, [], false, []⟩, s.length - r.length))
  else if begins [60, 33, 45, 45] s = true then (⟨4, [], [], false, (s.drop 4).take (fd [45, 45, 62] (s.drop 4))⟩, min (fd [45, 45, 62] (s.drop 4) + 7) s.length)
  else if begins doctype s = true then (⟨5, [], [], false, []⟩, min (fd [62] (s.drop 2) + 3) s.length)
  else (⟨4, [], [], false, (s.drop 2).take (fd [62] (s.drop 2))⟩, min (fd [62] (s.drop 2) + 3) s.length)
theorem upto_le : ∀ s : List UInt8, upto s ≤ s.length
  | [] => Nat.le_refl _
  | c :: t => by
    rw [upto]
    split
    · exact Nat.zero_le _
    · have := upto_le t
      rw [List.length_cons]; omega
theorem upto_pos (s : List UInt8) (h : s ≠ []) (ht : isTag s = false) : 1 ≤ upto s := by
  cases s with
  | nil => exact absurd rfl h
  | cons c t => rw [upto, ht]; simp
theorem isTag_two (s : List UInt8) (h : isTag s = true) : 2 ≤ s.length := by
  match s, h with
  | a :: b :: t, _ => simp
  | [a], h => simp [isTag] at h
  | [], h => simp [isTag] at h
/-- P12.4: a token has at least a byte; where there is none it goes to the end. -/
theorem next_len (s : List UInt8) (h : s ≠ []) : 1 ≤ (next s).2 ∧ (next s).2 ≤ s.length ∧ (next s).1.kind ≤ 5 ∧ ((next s).1.kind = 0 → (next s).2 = s.length) := by
  have hl : 1 ≤ s.length := by cases s <;> simp at h ⊢
  unfold next
  rw [if_neg h]
  by_cases ht : isTag s = false
  · rw [if_pos ht]
    exact ⟨upto_pos s h ht, upto_le s, by show 3 ≤ 5; omega, fun e => by cases e⟩
  rw [if_neg ht]
  have h2 := isTag_two s (by simpa using ht)
  split
  · split
    · exact ⟨hl, Nat.le_refl _, Nat.zero_le _, fun _ => rfl⟩
    · rename_i k r e
      have := tag_lt _ k r e
      rw [List.length_drop] at this
      refine ⟨by show 1 ≤ s.length - r.length; omega, by show s.length - r.length ≤ _; omega, ?_, ?_⟩
      · unfold tag at e
        split at e
        · cases e
        · cases e; show 1 ≤ 5; omega
      · intro hk
        unfold tag at e
        split at e
        · cases e
        · cases e; cases hk
  split
  · split
    · exact ⟨hl, Nat.le_refl _, Nat.zero_le _, fun _ => rfl⟩
    · rename_i k r e
      have := tag_lt _ k r e
      rw [List.length_drop] at this
      exact ⟨by show 1 ≤ s.length - r.length; omega, by show s.length - r.length ≤ _; omega, by show 2 ≤ 5; omega, fun e => by cases e⟩
  split
  · exact ⟨by show 1 ≤ min _ _; omega, by show min _ _ ≤ _; omega, by show 4 ≤ 5; omega, fun e => by cases e⟩
  split
  · exact ⟨by show 1 ≤ min _ _; omega, by show min _ _ ≤ _; omega, by show 5 ≤ 5; omega, fun e => by cases e⟩
  · exact ⟨by show 1 ≤ min _ _; omega, by show min _ _ ≤ _; omega, by show 4 ≤ 5; omega, fun e => by cases e⟩
/-! ### a tag's text is read as it (P12.5) -/
def attrText (a : List UInt8 × List UInt8) : List UInt8 := 32 :: (a.1 ++ 61 :: 34 :: (Rf.enc true a.2 ++ [34]))
def tailText (as : List (List UInt8 × List UInt8)) (self : Bool) : List UInt8 := as.flatMap attrText ++ (if self then [47, 62] else [62])
def tagText (k : Tok) : List UInt8 :=
  if k.kind = 1 then 60 :: (k.name ++ tailText k.attrs k.self) else if k.kind = 2 then 60 :: 47 :: (k.name ++ [62]) else if k.kind = 3 then Rf.enc false k.text else []
/-- What an attribute's name is. -/
def goodN (n : List UInt8) : Prop := (∃ c m, n = c :: m ∧ tn c = true ∧ m.all an = true) ∧ lower n = n
def goodA (as : List (List UInt8 × List UInt8)) : Prop := as.length ≤ 64 ∧ as.Pairwise (fun a b => a.1 ≠ b.1) ∧ ∀ a ∈ as, goodN a.1
/-- What a tag's name is. -/
def goodT (n : List UInt8) : Prop := (∃ c m, n = c :: m ∧ letB c = true) ∧ n.all tn = true ∧ lower n = n
theorem tw_stop (p : UInt8 → Bool) (a : List UInt8) (c : UInt8) (r : List UInt8) (h : a.all p = true) (hc : p c = false) : (a ++ c :: r).takeWhile p = a ∧ (a ++ c :: r).dropWhile p = c :: r := by
  induction a with
  | nil =>
    rw [List.nil_append, List.takeWhile_cons, List.dropWhile_cons, hc]
    exact ⟨rfl, rfl⟩
  | cons x a ih =>
    rw [List.all_cons, Bool.and_eq_true] at h
    rw [List.cons_append, List.takeWhile_cons, List.dropWhile_cons, h.1, if_pos rfl, if_pos rfl, (ih h.2).1, (ih h.2).2]
    exact ⟨rfl, rfl⟩
theorem clean_34 (v : List UInt8) : (Rf.enc true v).all (· != 34) = true := Rf.enc_clean true v
theorem attr_back (n v R : List UInt8) (hn : goodN n) : attr (n ++ 61 :: 34 :: (Rf.enc true v ++ 34 :: R)) = ((n, v), R) := by
  obtain ⟨⟨c, m, rfl, hc, hm⟩, hl⟩ := hn
  have h1 := tw_stop an m 61 (34 :: (Rf.enc true v ++ 34 :: R)) hm (by decide)
  have hN : attrN (c :: m ++ 61 :: 34 :: (Rf.enc true v ++ 34 :: R)) = c :: m := by
    show [c] ++ (m ++ 61 :: 34 :: (Rf.enc true v ++ 34 :: R)).takeWhile an = _
    rw [h1.1]
    rfl
  have hR : attrR (c :: m ++ 61 :: 34 :: (Rf.enc true v ++ 34 :: R)) = 61 :: 34 :: (Rf.enc true v ++ 34 :: R) := h1.2
  have hE : eqR (61 :: 34 :: (Rf.enc true v ++ 34 :: R)) = some (34 :: (Rf.enc true v ++ 34 :: R)) := by
    unfold eqR
    rw [List.dropWhile_cons, show isBlank 61 = false from by decide]
    simp only [Bool.false_eq_true, if_false, if_true]
    rw [List.dropWhile_cons, show isBlank 34 = false from by decide]
    rfl
  have h2 := tw_stop (· != 34) (Rf.enc true v) 34 R (clean_34 v) (by decide)
  unfold attr
  rw [hN, hR, hE, hl]
  show ((c :: m, Rf.dec true ((Rf.enc true v ++ 34 :: R).takeWhile (· != 34))), ((Rf.enc true v ++ 34 :: R).dropWhile (· != 34)).drop 1) = _
  rw [h2.1, h2.2, Rf.back]
  rfl
theorem has_no (as : List (List UInt8 × List UInt8)) (n : List UInt8) (h : ∀ a ∈ as, a.1 ≠ n) : has as n = false := by
  unfold has
  rw [List.any_eq_false]
  intro a ha
  simpa using h a ha
theorem tail_head (as : List (List UInt8 × List UInt8)) (self : Bool) : ∃ c r, tailText as self = c :: r ∧ tn c = false := by
  cases as with
  | nil =>
    cases self
    · exact ⟨62, [], rfl, by decide⟩
    · exact ⟨47, [62], rfl, by decide⟩
  | cons a as => exact ⟨32, _, rfl, by decide⟩
theorem let_tag (c : UInt8) (t : List UInt8) (h : letB c = true) : isTag (60 :: c :: t) = true := by
  show (letB c || c == 47 || c == 33 || c == 63) = true
  rw [h]
  rfl
end Tk
/- All tokens of a document: it cleaned; what its tokens are (P12.5, P12.6). -/
namespace Tk
open Asc
def norm : List UInt8 → List UInt8
  | [] => []
  | c :: t => (if c = 13 then (if t.head? = some 10 then [] else [10]) else if c = 0 then [239, 191, 189] else [c]) ++ norm t
def clean (s : List UInt8) : List UInt8 := norm (Utf.rep s)
theorem norm_len : ∀ l : List UInt8, (norm l).length ≤ 3 * l.length
  | [] => Nat.le_refl _
  | c :: t => by
    have := norm_len t
    rw [norm, List.length_append, List.length_cons]
    have h : (if c = 13 then (if t.head? = some 10 then [] else [10]) else if c = 0 then [239, 191, 189] else [c]).length ≤ 3 := by
      repeat' split
      all_goals simp
    omega
theorem clean_len (s : List UInt8) : (clean s).length ≤ 9 * s.length := by
  have h1 := norm_len (Utf.rep s)
  have h2 := Utf.rep_len s
  unfold clean
  omega
def rawNames : List (List UInt8) := [[115, 99, 114, 105, 112, 116], [115, 116, 121, 108, 101], [116, 101, 120, 116, 97, 114, 101, 97], [116, 105, 116, 108, 101]]
def isRaw (n : List UInt8) : Bool := n == [115, 99, 114, 105, 112, 116] || n == [115, 116, 121, 108, 101] || n == [116, 101, 120, 116, 97, 114, 101, 97] || n == [116, 105, 116, 108, 101]
def isDec (n : List UInt8) : Bool := n == [116, 101, 120, 116, 97, 114, 101, 97] || n == [116, 105, 116, 108, 101]
def endsIt : List UInt8 → Bool
  | [] => true
  | c :: _ => isBlank c || c == 47 || c == 62
def endHere (name s : List UInt8) : Bool := begins (60 :: 47 :: name) s && endsIt (s.drop (2 + name.length))
/-- How many bytes stand ahead of the end tag of a name. -/
def ends (name : List UInt8) : List UInt8 → Nat
  | [] => 0
  | c :: t => if endHere name (c :: t) then 0 else ends name t + 1
theorem ends_le (name : List UInt8) : ∀ s : List UInt8, ends name s ≤ s.length
  | [] => Nat.le_refl _
  | c :: t => by
    rw [ends]
    split
    · exact Nat.zero_le _
    · have := ends_le name t
      rw [List.length_cons]; omega
/-- The token that a text begins with, with the text behind a start tag of some names; and what is left. -/
def stepT (s : List UInt8) : List Tok × List UInt8 :=
  if (next s).1.kind = 1 ∧ isRaw (next s).1.name = true then
    ((next s).1 :: (if ends (next s).1.name (s.drop (next s).2) = 0 then [] else [textTok (if isDec (next s).1.name = true then Rf.dec false ((s.drop (next s).2).take (ends (next s).1.name (s.drop (next s).2))) else (s.drop (next s).2).take (ends (next s).1.name (s.drop (next s).2)))]), (s.drop (next s).2).drop (ends (next s).1.name (s.drop (next s).2)))
  else (if (next s).1.kind = 0 then [] else [(next s).1], s.drop (next s).2)
theorem step_lt (s : List UInt8) (h : s ≠ []) : (stepT s).2.length + 1 ≤ s.length ∧ (stepT s).1.length + (stepT s).2.length ≤ s.length := by
  obtain ⟨h1, h2, _, _⟩ := next_len s h
  unfold stepT
  split
  · have h3 := ends_le (next s).1.name (s.drop (next s).2)
    rw [List.length_drop] at h3
    refine ⟨?_, ?_⟩
    · show ((s.drop (next s).2).drop _).length + 1 ≤ _
      rw [List.length_drop, List.length_drop]; omega
    · show (_ :: _).length + ((s.drop (next s).2).drop _).length ≤ _
      rw [List.length_drop, List.length_drop, List.length_cons]
      split
      · rename_i e
        rw [e]; simp; omega
      · rename_i e
        simp only [List.length_singleton]
        omega
  · refine ⟨?_, ?_⟩
    · show (s.drop (next s).2).length + 1 ≤ _
      rw [List.length_drop]; omega
    · show (if _ then _ else _ : List Tok).length + (s.drop (next s).2).length ≤ _
      rw [List.length_drop]
      split
      · simp
      · simp only [List.length_singleton]; omega
def allF : Nat → List UInt8 → List Tok
  | 0, _ => []
  | f + 1, s => if s = [] then [] else (stepT s).1 ++ allF f (stepT s).2
def all (s : List UInt8) : List Tok := allF s.length s
theorem allF_fuel : ∀ (f : Nat) (s : List UInt8), s.length ≤ f → allF f s = all s := by
  intro f
  induction f using Nat.strongRecOn with
  | ind f ih =>
    intro s h
    by_cases hs : s = []
    · subst hs
      cases f <;> rfl
    · have hp : 1 ≤ s.length := by cases s <;> simp at hs ⊢
      have hl := (step_lt s hs).1
      obtain ⟨n, hn⟩ : ∃ n, s.length = n + 1 := ⟨s.length - 1, by omega⟩
      cases f with
      | zero => omega
      | succ f =>
        show allF (f + 1) s = allF s.length s
        rw [hn, allF, allF, if_neg hs, if_neg hs, ih f (by omega) _ (by omega)]
        by_cases he : n = f
        · rw [he, ih f (by omega) _ (by omega)]
        · rw [ih n (by omega) _ (by omega)]
theorem all_nil : all [] = [] := rfl
theorem all_go (s : List UInt8) (h : s ≠ []) : all s = (stepT s).1 ++ all (stepT s).2 := by
  have hp : 1 ≤ s.length := by cases s <;> simp at h ⊢
  obtain ⟨n, hn⟩ : ∃ n, s.length = n + 1 := ⟨s.length - 1, by omega⟩
  have hl := (step_lt s h).1
  conv => lhs; unfold all
  rw [hn, allF, if_neg h, allF_fuel n _ (by omega)]
theorem all_ind {P : List UInt8 → Prop} (h0 : P []) (h1 : ∀ s, s ≠ [] → P (stepT s).2 → P s) (s : List UInt8) : P s := by
  generalize hn : s.length = n
  induction n using Nat.strongRecOn generalizing s with
  | ind n ih =>
    by_cases h : s = []
    · subst h; exact h0
    · exact h1 s h (ih _ (by have := (step_lt s h).1; omega) _ rfl)
theorem all_len (s : List UInt8) : (all s).length ≤ s.length := by
  refine all_ind (P := fun s => (all s).length ≤ s.length) (Nat.le_refl _) ?_ s
  intro s h ih
  rw [all_go s h, List.length_append]
  have := (step_lt s h).2
  omega
/-! ### what tokens are -/
theorem byte_all {P : UInt8 → Bool} (h : ∀ n : Fin 256, P (UInt8.ofNat n.val) = true) (c : UInt8) : P c = true := by
  have := h ⟨c.toNat, c.toNat_lt⟩
  simpa using this
theorem tn_low (c : UInt8) (h : tn c = true) : tn (lowerC c) = true := by
  have := byte_all (P := fun c => !tn c || tn (lowerC c)) (by decide +kernel) c
  simpa [h] using this
theorem an_low (c : UInt8) (h : an c = true) : an (lowerC c) = true := by
  have := byte_all (P := fun c => !an c || an (lowerC c)) (by decide +kernel) c
  simpa [h] using this
theorem let_low (c : UInt8) (h : letB c = true) : letB (lowerC c) = true ∧ tn c = true := by
  have := byte_all (P := fun c => !letB c || (letB (lowerC c) && tn c)) (by decide +kernel) c
  simpa [h] using this
theorem all_lower (p : UInt8 → Bool) (hp : ∀ c, p c = true → p (lowerC c) = true) (l : List UInt8) (h : l.all p = true) : (lower l).all p = true := by
  unfold lower
  rw [List.all_eq_true] at *
  intro x hx
  obtain ⟨c, hc, rfl⟩ := List.mem_map.1 hx
  exact hp c (h c hc)
theorem attr_name (l : List UInt8) : (attr l).1.1 = lower (attrN l) := by
  unfold attr
  split <;> rfl
theorem attr_good (c : UInt8) (t : List UInt8) (h : tn c = true) : goodN (attr (c :: t)).1.1 := by
  rw [attr_name]
  refine ⟨⟨lowerC c, lower (t.takeWhile an), rfl, tn_low c h, all_lower an an_low _ (Rf.all_takeWhile an t)⟩, lower_twice _⟩
theorem has_iff (as : List (List UInt8 × List UInt8)) (n : List UInt8) (h : has as n = false) : ∀ a ∈ as, a.1 ≠ n := by
  unfold has at h
  rw [List.any_eq_false] at h
  intro a ha
  simpa using h a ha
theorem add_good (as : List (List UInt8 × List UInt8)) (a : List UInt8 × List UInt8) (h : goodA as) (ha : goodN a.1) : goodA (add as a) := by
  unfold add
  split
  · rename_i hc
    refine ⟨by rw [List.length_append, List.length_singleton]; omega, ?_, ?_⟩
    · rw [List.pairwise_append]
      refine ⟨h.2.1, by simp, ?_⟩
      intro x hx y hy
      rw [List.mem_singleton.1 hy]
      exact has_iff as a.1 hc.1 x hx
    · intro x hx
      rw [List.mem_append, List.mem_singleton] at hx
      rcases hx with hx | rfl
      · exact h.2.2 x hx
      · exact ha
  · exact h
theorem not_gap (c : UInt8) (h62 : c ≠ 62) (h : ¬ (c = 47 ∨ isBlank c = true)) : tn c = true := by
  unfold tn
  simp only [Bool.and_eq_true, bne_iff_ne, Bool.not_eq_true', ne_eq]
  refine ⟨⟨?_, fun e => h (.inl e)⟩, h62⟩
  cases hb : isBlank c
  · rfl
  · exact absurd (.inr hb) h
theorem tgF_good : ∀ (f : Nat) (l : List UInt8) (as : List (List UInt8 × List UInt8)) (sl : Bool) (x : List (List UInt8 × List UInt8) × Bool × List UInt8), goodA as → tgF f l as sl = some x → goodA x.1
  | 0, l, as, sl, x, hg, h => by cases h
  | f + 1, [], as, sl, x, hg, h => by cases h
  | f + 1, c :: t, as, sl, x, hg, h => by
    rw [tgF] at h
    split at h
    · cases h; exact hg
    rename_i h62
    split at h
    · exact tgF_good f _ _ _ x hg h
    · rename_i hn
      exact tgF_good f _ _ _ x (add_good as _ hg (attr_good c t (not_gap c h62 hn))) h
theorem tag_good (l : List UInt8) (k : Tok) (r : List UInt8) (hl : atLetter l = true) (h : tag l = some (k, r)) : k.kind = 1 ∧ goodT k.name ∧ goodA k.attrs ∧ k.text = [] := by
  unfold tag at h
  split at h
  · cases h
  · rename_i as sl q e
    cases h
    refine ⟨rfl, ⟨?_, all_lower tn tn_low _ (Rf.all_takeWhile tn l), lower_twice _⟩, tgF_good _ _ _ _ _ ⟨by simp, List.Pairwise.nil, by simp⟩ e, rfl⟩
    cases l with
    | nil => cases hl
    | cons c t =>
      have hc : letB c = true := hl
      refine ⟨lowerC c, lower (t.takeWhile tn), ?_, (let_low c hc).1⟩
      show lower ((c :: t).takeWhile tn) = _
      rw [List.takeWhile_cons, (let_low c hc).2, if_pos rfl]
      rfl
/-- What a token is. -/
def Fine (k : Tok) : Prop :=
  (k.kind = 1 ∧ goodT k.name ∧ goodA k.attrs ∧ k.text = []) ∨ (k.kind = 2 ∧ goodT k.name ∧ k.attrs = [] ∧ k.self = false ∧ k.text = []) ∨
  (k.kind = 3 ∧ k.name = [] ∧ k.attrs = [] ∧ k.self = false ∧ k.text ≠ []) ∨ ((k.kind = 4 ∨ k.kind = 5) ∧ k.name = [] ∧ k.attrs = [] ∧ k.self = false)
theorem dec_ne (a : Bool) (l : List UInt8) (h : l ≠ []) : Rf.dec a l ≠ [] := by
  cases l with
  | nil => exact absurd rfl h
  | cons c t =>
    by_cases hc : c = 38
    · subst hc
      by_cases hn : (Rf.next a t).2 = 0
      · rw [Rf.dec_none a t hn]; simp
      · rw [Rf.dec_some a t hn]
        exact Utf.enc_ne _ _
    · rw [Rf.dec_other a c t hc]; simp
theorem take_ne (s : List UInt8) (n : Nat) (h : s ≠ []) (hn : 1 ≤ n) : s.take n ≠ [] := by
  intro e
  have := congrArg List.length e
  have hp : 1 ≤ s.length := by cases s <;> simp at h ⊢
  rw [List.length_take, List.length_nil] at this
  omega
theorem next_fine (s : List UInt8) (h : s ≠ []) (hk : (next s).1.kind ≠ 0) : Fine (next s).1 := by
  unfold next at *
  rw [if_neg h] at *
  by_cases ht : isTag s = false
  · rw [if_pos ht] at *
    exact .inr (.inr (.inl ⟨rfl, rfl, rfl, rfl, dec_ne _ _ (take_ne s _ h (upto_pos s h ht))⟩))
  rw [if_neg ht] at *
  split at hk
  · rename_i hl
    rw [if_pos hl]
    split at hk
    · exact absurd rfl hk
    · rename_i k r e
      exact .inl (tag_good _ k r hl e)
  · rename_i hl
    rw [if_neg hl]
    split at hk
    · rename_i hm
      rw [if_pos hm]
      split at hk
      · exact absurd rfl hk
      · rename_i k r e
        exact .inr (.inl ⟨rfl, (tag_good _ k r hm.2 e).2.1, rfl, rfl, rfl⟩)
    · rename_i hm
      rw [if_neg hm]
      split
      · exact .inr (.inr (.inr ⟨.inl rfl, rfl, rfl, rfl⟩))
      split
      · exact .inr (.inr (.inr ⟨.inr rfl, rfl, rfl, rfl⟩))
      · exact .inr (.inr (.inr ⟨.inl rfl, rfl, rfl, rfl⟩))
theorem step_fine (s : List UInt8) (h : s ≠ []) : ∀ k ∈ (stepT s).1, Fine k := by
  intro k hk
  unfold stepT at hk
  split at hk
  · rename_i hr
    have hf := next_fine s h (by rw [hr.1]; simp)
    rcases List.mem_cons.1 hk with rfl | hk
    · exact hf
    · split at hk
      · cases hk
      · rename_i he
        rw [List.mem_singleton] at hk
        subst hk
        have hne : (s.drop (next s).2).take (ends (next s).1.name (s.drop (next s).2)) ≠ [] := by
          apply take_ne _ _ _ (by omega)
          intro e
          rw [e] at he
          exact he rfl
        refine .inr (.inr (.inl ⟨rfl, rfl, rfl, rfl, ?_⟩))
        show (if _ then _ else _) ≠ []
        split
        · exact dec_ne _ _ hne
        · exact hne
  · split at hk
    · cases hk
    · rename_i h0
      rw [List.mem_singleton] at hk
      subst hk
      exact next_fine s h h0
theorem all_fine (s : List UInt8) : ∀ k ∈ all s, Fine k := by
  refine all_ind (P := fun s => ∀ k ∈ all s, Fine k) (by rw [all_nil]; simp) ?_ s
  intro s h ih k hk
  rw [all_go s h, List.mem_append] at hk
  exact hk.elim (step_fine s h k) (ih k)
end Tk
/- What tokens of a text are texts (P12.6). -/
namespace Tk
open Asc
/-! ### the parts of a text's tokens -/
theorem attrN_R (l : List UInt8) : attrN l ++ attrR l = l := by
  unfold attrN attrR
  rw [List.append_assoc, List.takeWhile_append_dropWhile, List.take_append_drop]
theorem fd_at (w : List UInt8) : ∀ s : List UInt8, fd w s = s.length ∨ ∃ r, s.drop (fd w s) = w ++ r
  | [] => .inl rfl
  | c :: t => by
    rw [fd]
    split
    · rename_i h
      obtain ⟨r, hr⟩ := List.isPrefixOf_iff_prefix.1 h
      exact .inr ⟨r, hr.symm⟩
    · rcases fd_at w t with h | ⟨r, h⟩
      · left; rw [h]; rfl
      · right; exact ⟨r, h⟩
theorem tag_front (s : List UInt8) (h : isTag s = true) : ∃ c t, s = 60 :: c :: t ∧ Rf.low c = true := by
  unfold isTag at h
  split at h
  · rename_i c t
    refine ⟨c, t, rfl, ?_⟩
    have := byte_all (P := fun c => !(letB c || c == 47 || c == 33 || c == 63) || Rf.low c) (by decide +kernel) c
    rw [h] at this
    simpa using this
  · cases h
theorem drop_min (s : List UInt8) (n : Nat) : s.drop (min n s.length) = s.drop n := by
  by_cases h : n ≤ s.length
  · rw [Nat.min_eq_left h]
  · rw [Nat.min_eq_right (by omega), List.drop_length, List.drop_eq_nil_of_le (by omega)]
end Tk
