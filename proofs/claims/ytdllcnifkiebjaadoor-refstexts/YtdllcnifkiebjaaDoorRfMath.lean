/- Package refs in plain functions on lists of bytes: names, numbers, the reference that a text begins with. -/
import Derived.Test.YtdllcnifkiebjaaDoorAscNum
set_option linter.unusedVariables false
set_option linter.unusedSimpArgs false
namespace Rf
open Asc
abbrev Tab := List (List UInt8 × Int)
def shortT : Tab := [([97,109,112],38),([108,116],60),([103,116],62),([113,117,111,116],34),([110,98,115,112],160),([99,111,112,121],169),([114,101,103],174)]
def markT : Tab := [([97,112,111,115],39),([99,101,110,116],162),([112,111,117,110,100],163),([121,101,110],165),([115,101,99,116],167),([100,101,103],176),([112,108,117,115,109,110],177),([112,97,114,97],182),([109,105,100,100,111,116],183),([108,97,113,117,111],171),([114,97,113,117,111],187),([102,114,97,99,49,50],189),([116,105,109,101,115],215),([100,105,118,105,100,101],247)]
def letterT : Tab := [([97,103,114,97,118,101],224),([97,97,99,117,116,101],225),([97,99,105,114,99],226),([97,117,109,108],228),([97,114,105,110,103],229),([97,101,108,105,103],230),([99,99,101,100,105,108],231),([101,103,114,97,118,101],232),([101,97,99,117,116,101],233),([101,99,105,114,99],234),([105,97,99,117,116,101],237),([110,116,105,108,100,101],241),([111,97,99,117,116,101],243),([111,117,109,108],246),([111,115,108,97,115,104],248),([117,97,99,117,116,101],250),([117,117,109,108],252),([115,122,108,105,103],223),([65,117,109,108],196),([79,117,109,108],214),([85,117,109,108],220),([69,97,99,117,116,101],201)]
def wideT : Tab := [([110,100,97,115,104],8211),([109,100,97,115,104],8212),([108,115,113,117,111],8216),([114,115,113,117,111],8217),([108,100,113,117,111],8220),([114,100,113,117,111],8221),([98,117,108,108],8226),([104,101,108,108,105,112],8230),([101,117,114,111],8364),([116,114,97,100,101],8482),([108,97,114,114],8592),([114,97,114,114],8594),([104,101,97,114,116,115],9829)]
def names : Tab := [([97,109,112],38),([108,116],60),([103,116],62),([113,117,111,116],34),([97,112,111,115],39),([110,98,115,112],160),([99,111,112,121],169),([114,101,103],174),([99,101,110,116],162),([112,111,117,110,100],163),([121,101,110],165),([115,101,99,116],167),([100,101,103],176),([112,108,117,115,109,110],177),([112,97,114,97],182),([109,105,100,100,111,116],183),([108,97,113,117,111],171),([114,97,113,117,111],187),([102,114,97,99,49,50],189),([116,105,109,101,115],215),([100,105,118,105,100,101],247),([97,103,114,97,118,101],224),([97,97,99,117,116,101],225),([97,99,105,114,99],226),([97,117,109,108],228),([97,114,105,110,103],229),([97,101,108,105,103],230),([99,99,101,100,105,108],231),([101,103,114,97,118,101],232),([101,97,99,117,116,101],233),([101,99,105,114,99],234),([105,97,99,117,116,101],237),([110,116,105,108,100,101],241),([111,97,99,117,116,101],243),([111,117,109,108],246),([111,115,108,97,115,104],248),([117,97,99,117,116,101],250),([117,117,109,108],252),([115,122,108,105,103],223),([65,117,109,108],196),([79,117,109,108],214),([85,117,109,108],220),([69,97,99,117,116,101],201),([110,100,97,115,104],8211),([109,100,97,115,104],8212),([108,115,113,117,111],8216),([114,115,113,117,111],8217),([108,100,113,117,111],8220),([114,100,113,117,111],8221),([98,117,108,108],8226),([104,101,108,108,105,112],8230),([101,117,114,111],8364),([116,114,97,100,101],8482),([108,97,114,114],8592),([114,97,114,114],8594),([104,101,97,114,116,115],9829)]
def windows : List Int := [8364,0,8218,402,8222,8230,8224,8225,710,8240,352,8249,338,0,381,0,0,8216,8217,8220,8221,8226,8211,8212,732,8482,353,8250,339,0,382,376]
/-- The sign that a table has for a name; 0: it has none. -/
def look : Tab → List UInt8 → Int
  | [], _ => 0
  | p :: r, s => if s = p.1 then p.2 else look r s
def or1 (a b : Int) : Int := if a ≠ 0 then a else b
def sgn (s : List UInt8) : Int := look names s
theorem look_mem : ∀ (T : Tab) (s : List UInt8), look T s ≠ 0 → s ∈ T.map Prod.fst
  | [], s, h => absurd rfl h
  | p :: r, s, h => by
    unfold look at h
    by_cases e : s = p.1
    · simp [e]
    · rw [if_neg e] at h
      exact List.mem_cons_of_mem _ (look_mem r s h)
theorem look_no (T : Tab) (s : List UInt8) (h : s ∉ T.map Prod.fst) : look T s = 0 := by
  by_cases e : look T s = 0
  · exact e
  · exact absurd (look_mem T s e) h
set_option maxRecDepth 100000 in
theorem sgn_all : ∀ s ∈ names.map Prod.fst, or1 (look shortT s) (or1 (look markT s) (or1 (look letterT s) (look wideT s))) = sgn s := by decide +kernel
set_option maxRecDepth 100000 in
theorem sub_all : ∀ s ∈ (shortT ++ markT ++ letterT ++ wideT).map Prod.fst, s ∈ names.map Prod.fst := by decide +kernel
theorem sgn_or (s : List UInt8) : or1 (look shortT s) (or1 (look markT s) (or1 (look letterT s) (look wideT s))) = sgn s := by
  by_cases h : s ∈ names.map Prod.fst
  · exact sgn_all s h
  · have hs : ∀ T : Tab, (∀ x ∈ T, x ∈ shortT ++ markT ++ letterT ++ wideT) → look T s = 0 := fun T hT => look_no T s fun hm => h (sub_all s (by
      obtain ⟨x, hx, e⟩ := List.mem_map.1 hm
      exact List.mem_map.2 ⟨x, hT x hx, e⟩))
    rw [hs shortT (by intro x hx; simp only [List.mem_append]; exact .inl (.inl (.inl hx))), hs markT (by intro x hx; simp only [List.mem_append]; exact .inl (.inl (.inr hx))), hs letterT (by intro x hx; simp only [List.mem_append]; exact .inl (.inr hx)), hs wideT (by intro x hx; simp only [List.mem_append]; exact .inr hx)]
    unfold sgn
    rw [look_no names s h]
    rfl
/-! ### numbers -/
def win (i : Nat) : Int := windows.getD i 0
def numSign (n : Int) : Int :=
  if n = 0 ∨ 1114111 < n ∨ (55296 ≤ n ∧ n ≤ 57343) then 65533 else if 128 ≤ n ∧ n ≤ 159 ∧ win (n - 128).toNat ≠ 0 then win (n - 128).toNat else n
set_option maxRecDepth 100000 in
theorem win_all : ∀ x ∈ windows, 0 ≤ x ∧ x ≤ 8482 := by decide +kernel
theorem win_bd (i : Nat) : 0 ≤ win i ∧ win i ≤ 8482 := by
  unfold win
  rw [List.getD_eq_getElem?_getD]
  cases h : windows[i]? with
  | none => simp
  | some x => exact win_all x (List.mem_of_getElem? h)
theorem numSign_bd (n : Int) (h : 0 ≤ n) : 0 ≤ numSign n ∧ numSign n ≤ 1114111 ∧ (numSign n < 55296 ∨ 57343 < numSign n) := by
  unfold numSign
  split
  · omega
  · split
    · have := win_bd (n - 128).toNat
      omega
    · omega
theorem numSign_low (n : Int) (h : 0 ≤ n) (h2 : n ≤ 127) : numSign n ≤ 65535 := by
  unfold numSign
  split
  · omega
  · rw [if_neg (by omega)]; omega
/-! ### what a reference is made of (behind its &) -/
def letZ (n : Int) : Bool := decide ((65 ≤ n ∧ n ≤ 90) ∨ (97 ≤ n ∧ n ≤ 122))
def ofName (c : UInt8) : Bool := letZ (bt c) || isDig (bt c)
def hexB (c : UInt8) : Bool := hexOk (bt c)
def digB (c : UInt8) : Bool := isDig (bt c)
def isHx (t : List UInt8) : Bool := [35,120].isPrefixOf t || [35,88].isPrefixOf t
def dOk (b : Bool) : UInt8 → Bool := if b then hexB else digB
def fr (b : Bool) : Nat := if b then 2 else 1
def digs (t : List UInt8) : List UInt8 := (t.drop (fr (isHx t))).takeWhile (dOk (isHx t))
def decCap (l : List UInt8) : Int := if numErr l 4294967295 = 0 then numNum l 4294967295 else 4294967295
def hexCap (l : List UInt8) : Int := if hexErr l = 0 then hexNum l else 4294967295
def val (b : Bool) (l : List UInt8) : Int := if b then hexCap l else decCap l
def isNo (t : List UInt8) : Bool := [35].isPrefixOf t && !(digs t).isEmpty
def semi (l : List UInt8) : Nat := if [59].isPrefixOf l then 1 else 0
def numSz (t : List UInt8) : Nat := if isNo t then fr (isHx t) + (digs t).length + semi (t.drop (fr (isHx t) + (digs t).length)) else 0
def numSg (t : List UInt8) : Int := if isNo t then numSign (val (isHx t) (digs t)) else 0
def wn (t : List UInt8) : List UInt8 := t.takeWhile ofName
def isWh (t : List UInt8) : Bool := [59].isPrefixOf (t.drop (wn t).length) && (sgn (wn t) != 0)
def whSz (t : List UInt8) : Nat := if isWh t then (wn t).length + 1 else 0
def whSg (t : List UInt8) : Int := if isWh t then sgn (wn t) else 0
def goesOn : List UInt8 → Bool
  | [] => false
  | c :: _ => c == 61 || ofName c
def shP (a : Bool) (t : List UInt8) (k : Nat) : Int × Nat := if a && goesOn (t.drop k) then (0, 0) else (look shortT (t.take k), k)
def shL (a : Bool) (t : List UInt8) : List Nat → Int × Nat
  | [] => (0, 0)
  | k :: r => if k ≤ t.length ∧ look shortT (t.take k) ≠ 0 then shP a t k else shL a t r
def sh (a : Bool) (t : List UInt8) : Int × Nat := shL a t [2, 3, 4]
/-- The reference's sign and size, behind its &; size 0: there is none. -/
def next (a : Bool) (t : List UInt8) : Int × Nat :=
  if numSz t ≠ 0 then (numSg t, numSz t) else if whSz t ≠ 0 then (whSg t, whSz t) else sh a t
/-! ### the reference's ways -/
def foldCap (base : Int) : Int → List UInt8 → Int
  | n, [] => n
  | n, c :: r => foldCap base (min (n * base + hexV (bt c)) 4294967295) r
theorem foldCap_full (base : Int) (hb : 1 ≤ base) : ∀ l, foldCap base 4294967295 l = 4294967295
  | [] => rfl
  | c :: r => by
    have := hexV_bd (bt c)
    have h2 : (4294967295 : Int) * 1 ≤ 4294967295 * base := Int.mul_le_mul_of_nonneg_left hb (by omega)
    rw [foldCap, Int.min_eq_right (by omega)]
    exact foldCap_full base hb r
theorem hexV_dig (c : UInt8) (h : digB c = true) : hexV (bt c) = bt c - 48 ∧ 0 ≤ bt c - 48 ∧ bt c - 48 ≤ 9 := by
  have h' : 48 ≤ bt c ∧ bt c ≤ 57 := by simpa [digB, isDig] using h
  unfold hexV
  rw [if_pos h']
  omega
theorem dec_fold : ∀ (l : List UInt8) (n : Int), l.all digB = true → 0 ≤ n → n ≤ 4294967295 → foldCap 10 n l = (numFold 4294967295 n l).getD 4294967295
  | [], n, _, _, _ => rfl
  | c :: r, n, h, h0, h1 => by
    rw [List.all_cons, Bool.and_eq_true] at h
    have hv := hexV_dig c h.1
    rw [foldCap, numFold, hv.1]
    by_cases hm : 4294967295 < n * 10 + (bt c - 48)
    · rw [if_pos hm, Int.min_eq_right (by omega), foldCap_full 10 (by omega)]
      rfl
    · rw [if_neg hm, Int.min_eq_left (by omega)]
      exact dec_fold r _ h.2 (by omega) (by omega)
theorem hex_fold : ∀ (l : List UInt8) (n : Int), 0 ≤ n → n ≤ 4294967295 → foldCap 16 n l = (hexFold n l).getD 4294967295
  | [], n, _, _ => rfl
  | c :: r, n, h0, h1 => by
    have hv := hexV_bd (bt c)
    rw [foldCap, hexFold]
    by_cases hm : 268435455 < n
    · rw [if_pos hm, Int.min_eq_right (by omega), foldCap_full 16 (by omega)]
      rfl
    · rw [if_neg hm, Int.min_eq_left (by omega)]
      exact hex_fold r _ (by omega) (by omega)
theorem decCap_fold (l : List UInt8) (h : l.all digB = true) (hn : l ≠ []) : decCap l = foldCap 10 0 l := by
  have hf : digForm l = true := by
    unfold digForm
    have h' : allDig l = true := h
    rw [h']
    cases l with
    | nil => exact absurd rfl hn
    | cons a r => rfl
  rw [dec_fold l 0 h (by omega) (by omega)]
  unfold decCap
  cases e : numFold 4294967295 0 l with
  | none =>
    have := num_many l 4294967295 hf (by omega) e
    rw [this.2, if_neg (by omega)]; rfl
  | some n =>
    have := num_ok l 4294967295 n hf (by omega) e
    rw [this.2, this.1, if_pos rfl]; rfl
theorem hexCap_fold (l : List UInt8) (h : l.all hexB = true) (hn : l ≠ []) : hexCap l = foldCap 16 0 l := by
  rw [hex_fold l 0 (by omega) (by omega)]
  unfold hexCap
  cases e : hexFold 0 l with
  | none =>
    have := hex_many l ⟨h, hn⟩ e
    rw [this.2, if_neg (by omega)]; rfl
  | some n =>
    have := hex_ok l n ⟨h, hn⟩ e
    rw [this.2, this.1, if_pos rfl]; rfl
theorem foldCap_bd (base : Int) (hb : 0 ≤ base) : ∀ (l : List UInt8) (n : Int), 0 ≤ n → n ≤ 4294967295 → 0 ≤ foldCap base n l ∧ foldCap base n l ≤ 4294967295
  | [], n, h0, h1 => ⟨h0, h1⟩
  | c :: r, n, h0, h1 => by
    have hv := hexV_bd (bt c)
    have hm := Int.mul_nonneg h0 hb
    exact foldCap_bd base hb r _ (by omega) (by omega)
def baseOf (b : Bool) : Int := if b then 16 else 10
theorem all_takeWhile (p : UInt8 → Bool) : ∀ l : List UInt8, (l.takeWhile p).all p = true
  | [] => rfl
  | c :: r => by
    rw [List.takeWhile_cons]
    cases h : p c
    · rfl
    · simp only [if_true, List.all_cons, h, Bool.true_and]
      exact all_takeWhile p r
theorem val_fold (t : List UInt8) (h : digs t ≠ []) : val (isHx t) (digs t) = foldCap (baseOf (isHx t)) 0 (digs t) := by
  have ha := all_takeWhile (dOk (isHx t)) (t.drop (fr (isHx t)))
  unfold val baseOf
  unfold digs at *
  cases hb : isHx t
  · rw [hb] at ha h
    exact decCap_fold _ ha h
  · rw [hb] at ha h
    exact hexCap_fold _ ha h
theorem val_bd (t : List UInt8) (h : digs t ≠ []) : 0 ≤ val (isHx t) (digs t) ∧ val (isHx t) (digs t) ≤ 4294967295 := by
  rw [val_fold t h]
  exact foldCap_bd _ (by unfold baseOf; split <;> omega) _ 0 (by omega) (by omega)
/-! ### names -/
def lookP (t : List UInt8) : Tab → Int × Nat
  | [] => (0, 0)
  | p :: r => if (p.1 ++ [59]).isPrefixOf t then (p.2, p.1.length + 1) else lookP t r
theorem semi_not : ofName 59 = false := by decide
theorem wn_pre (n r : List UInt8) (h : n.all ofName = true) : wn (n ++ 59 :: r) = n := by
  unfold wn
  induction n with
  | nil => rw [List.nil_append, List.takeWhile_cons, semi_not]; rfl
  | cons c n ih =>
    rw [List.all_cons, Bool.and_eq_true] at h
    rw [List.cons_append, List.takeWhile_cons, h.1, if_pos rfl, ih h.2]
theorem wn_drop (t : List UInt8) : wn t ++ t.drop (wn t).length = t := by
  have e := List.takeWhile_append_dropWhile (p := ofName) (l := t)
  have : t.drop (wn t).length = t.dropWhile ofName := by
    have h2 := congrArg (List.drop (wn t).length) e
    unfold wn at *
    rw [List.drop_left] at h2
    exact h2.symm
  rw [this]
  exact e
theorem pre_iff (n t : List UInt8) (h : n.all ofName = true) : (n ++ [59]).isPrefixOf t = ([59].isPrefixOf (t.drop (wn t).length) && decide (wn t = n)) := by
  rw [Bool.eq_iff_iff, Bool.and_eq_true, List.isPrefixOf_iff_prefix, List.isPrefixOf_iff_prefix, decide_eq_true_eq]
  constructor
  · rintro ⟨r, rfl⟩
    rw [List.append_assoc, List.singleton_append, wn_pre n r h, List.drop_left]
    exact ⟨⟨r, rfl⟩, rfl⟩
  · rintro ⟨⟨r, hr⟩, rfl⟩
    refine ⟨r, ?_⟩
    rw [List.append_assoc, hr, wn_drop]
theorem lookP_any (t : List UInt8) : ∀ T : Tab, (∀ p ∈ T, p.1.all ofName = true ∧ p.2 ≠ 0) → lookP t T = if [59].isPrefixOf (t.drop (wn t).length) && (look T (wn t) != 0) then (look T (wn t), (wn t).length + 1) else (0, 0)
  | [], _ => by simp [lookP, look]
  | p :: r, h => by
    have hp := h p (List.mem_cons_self ..)
    rw [lookP, look, pre_iff p.1 t hp.1, lookP_any t r (fun q hq => h q (List.mem_cons_of_mem _ hq))]
    cases h1 : [59].isPrefixOf (t.drop (wn t).length)
    · simp
    · by_cases e : wn t = p.1
      · rw [if_pos e, ← e]
        simp [hp.2]
      · rw [if_neg e]
        simp [e]
set_option maxRecDepth 100000 in
theorem names_fine : ∀ p ∈ names, p.1.all ofName = true ∧ p.2 ≠ 0 := by decide +kernel
theorem lookP_names (t : List UInt8) : lookP t names = (whSg t, whSz t) := by
  rw [lookP_any t names names_fine]
  unfold whSg whSz isWh sgn
  split <;> rfl
def lookS (a : Bool) (t : List UInt8) : Tab → Int × Nat
  | [] => (0, 0)
  | p :: r => if p.1.isPrefixOf t && !(a && goesOn (t.drop p.1.length)) then (p.2, p.1.length) else lookS a t r
theorem lookS_no (a : Bool) (t : List UInt8) : ∀ T : Tab, (∀ p ∈ T, p.1.isPrefixOf t = false) → lookS a t T = (0, 0)
  | [], _ => rfl
  | p :: r, h => by
    rw [lookS, h p (List.mem_cons_self ..)]
    exact lookS_no a t r fun q hq => h q (List.mem_cons_of_mem _ hq)
theorem shL_no (a : Bool) (t : List UInt8) (h : ∀ p ∈ shortT, p.1.isPrefixOf t = false) : ∀ l : List Nat, shL a t l = (0, 0)
  | [] => rfl
  | k :: r => by
    rw [shL, if_neg, shL_no a t h r]
    rintro ⟨hk, hl⟩
    obtain ⟨p, hp, e⟩ := List.mem_map.1 (look_mem _ _ hl)
    have := h p hp
    rw [Bool.eq_false_iff] at this
    exact this (List.isPrefixOf_iff_prefix.2 (e ▸ List.take_prefix k t))
theorem lookS_sh (a : Bool) (t : List UInt8) : lookS a t shortT = sh a t := by
  by_cases h : ∃ p ∈ shortT, p.1.isPrefixOf t = true
  · obtain ⟨p, hp, hx⟩ := h
    obtain ⟨r, rfl⟩ := List.isPrefixOf_iff_prefix.1 hx
    clear hx
    simp only [shortT, List.mem_cons, List.not_mem_nil, or_false] at hp
    rcases hp with rfl | rfl | rfl | rfl | rfl | rfl | rfl
    all_goals
      simp [lookS, shortT, sh, shL, shP, look]
      try (cases a <;> cases goesOn r <;> simp)
  · have h' : ∀ p ∈ shortT, p.1.isPrefixOf t = false := fun p hp => by
      rw [Bool.eq_false_iff]
      exact fun e => h ⟨p, hp, e⟩
    rw [lookS_no a t shortT h']
    exact (shL_no a t h' _).symm
/-- A number's sign stands ahead: there is no name. -/
theorem hash_none (a : Bool) (r : List UInt8) : whSz (35 :: r) = 0 ∧ whSg (35 :: r) = 0 ∧ sh a (35 :: r) = (0, 0) := by
  have hw : wn (35 :: r) = [] := by
    unfold wn
    rw [List.takeWhile_cons, show ofName 35 = false from by decide]
    rfl
  have hi : isWh (35 :: r) = false := by
    unfold isWh
    rw [hw]
    rfl
  refine ⟨by unfold whSz; rw [hi]; rfl, by unfold whSg; rw [hi]; rfl, ?_⟩
  refine shL_no a _ (fun p hp => ?_) _
  simp only [shortT, List.mem_cons, List.not_mem_nil, or_false] at hp
  rcases hp with rfl | rfl | rfl | rfl | rfl | rfl | rfl <;> rfl
/-- Without a number's sign there is no number. -/
theorem not_hash (t : List UInt8) (h : [35].isPrefixOf t = false) : numSz t = 0 ∧ numSg t = 0 := by
  have : isNo t = false := by unfold isNo; rw [h]; rfl
  unfold numSz numSg
  rw [this]
  exact ⟨rfl, rfl⟩
end Rf
