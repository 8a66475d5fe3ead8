/- Texts laid as one. -/
import Derived.Test.YtiodaahncadodaaGreatDoorKMath
set_option maxRecDepth 100000
set_option linter.unusedVariables false
set_option linter.unusedSimpArgs false
namespace Rf
open Asc
abbrev Tab:=List (List UInt8 × Int)
def zbj : Tab:=[([97,109,112],38),([108,116],60),([103,116],62),([113,117,111,116],34),([110,98,115,112],160),([99,111,112,121],169),([114,101,103],174)]
def zmw : Tab:=[([97,112,111,115],39),([99,101,110,116],162),([112,111,117,110,100],163),([121,101,110],165),([115,101,99,116],167),([100,101,103],176),([112,108,117,115,109,110],177),([112,97,114,97],182),([109,105,100,100,111,116],183),([108,97,113,117,111],171),([114,97,113,117,111],187),([102,114,97,99,49,50],189),([116,105,109,101,115],215),([100,105,118,105,100,101],247)]
def zfv : Tab:=[([97,103,114,97,118,101],224),([97,97,99,117,116,101],225),([97,99,105,114,99],226),([97,117,109,108],228),([97,114,105,110,103],229),([97,101,108,105,103],230),([99,99,101,100,105,108],231),([101,103,114,97,118,101],232),([101,97,99,117,116,101],233),([101,99,105,114,99],234),([105,97,99,117,116,101],237),([110,116,105,108,100,101],241),([111,97,99,117,116,101],243),([111,117,109,108],246),([111,115,108,97,115,104],248),([117,97,99,117,116,101],250),([117,117,109,108],252),([115,122,108,105,103],223),([65,117,109,108],196),([79,117,109,108],214),([85,117,109,108],220),([69,97,99,117,116,101],201)]
def zmx : Tab:=[([110,100,97,115,104],8211),([109,100,97,115,104],8212),([108,115,113,117,111],8216),([114,115,113,117,111],8217),([108,100,113,117,111],8220),([114,100,113,117,111],8221),([98,117,108,108],8226),([104,101,108,108,105,112],8230),([101,117,114,111],8364),([116,114,97,100,101],8482),([108,97,114,114],8592),([114,97,114,114],8594),([104,101,97,114,116,115],9829)]
def zaH : Tab:=[([97,109,112],38),([108,116],60),([103,116],62),([113,117,111,116],34),([97,112,111,115],39),([110,98,115,112],160),([99,111,112,121],169),([114,101,103],174),([99,101,110,116],162),([112,111,117,110,100],163),([121,101,110],165),([115,101,99,116],167),([100,101,103],176),([112,108,117,115,109,110],177),([112,97,114,97],182),([109,105,100,100,111,116],183),([108,97,113,117,111],171),([114,97,113,117,111],187),([102,114,97,99,49,50],189),([116,105,109,101,115],215),([100,105,118,105,100,101],247),([97,103,114,97,118,101],224),([97,97,99,117,116,101],225),([97,99,105,114,99],226),([97,117,109,108],228),([97,114,105,110,103],229),([97,101,108,105,103],230),([99,99,101,100,105,108],231),([101,103,114,97,118,101],232),([101,97,99,117,116,101],233),([101,99,105,114,99],234),([105,97,99,117,116,101],237),([110,116,105,108,100,101],241),([111,97,99,117,116,101],243),([111,117,109,108],246),([111,115,108,97,115,104],248),([117,97,99,117,116,101],250),([117,117,109,108],252),([115,122,108,105,103],223),([65,117,109,108],196),([79,117,109,108],214),([85,117,109,108],220),([69,97,99,117,116,101],201),([110,100,97,115,104],8211),([109,100,97,115,104],8212),([108,115,113,117,111],8216),([114,115,113,117,111],8217),([108,100,113,117,111],8220),([114,100,113,117,111],8221),([98,117,108,108],8226),([104,101,108,108,105,112],8230),([101,117,114,111],8364),([116,114,97,100,101],8482),([108,97,114,114],8592),([114,97,114,114],8594),([104,101,97,114,116,115],9829)]
def zmy : List Int:=[8364,0,8218,402,8222,8230,8224,8225,710,8240,352,8249,338,0,381,0,0,8216,8217,8220,8221,8226,8211,8212,732,8482,353,8250,339,0,382,376]
def zdL : Tab → List UInt8 → Int
 | [],_=>0
 | p :: r,s=>if s = p.1 then p.2 else zdL r s
def or1 (a b : Int) : Int:=if a ≠ 0 then a else b
def sgn (s : List UInt8) : Int:=zdL zaH s
theorem zdY : ∀ (T : Tab) (s : List UInt8),zdL T s ≠ 0 → s ∈ T.map Prod.fst
 | [],s,h=>absurd rfl h
 | p :: r,s,h=>by
  unfold zdL at h
  by_cases e : s = p.1
  ·simp [e]
  ·rw [if_neg e] at h
   exact List.mem_cons_of_mem _ (zdY r s h)
theorem zmz (T : Tab) (s : List UInt8) (h : s ∉ T.map Prod.fst) : zdL T s = 0:=by
 by_cases e : zdL T s = 0
 ·exact e
 ·exact absurd (zdY T s e) h
theorem zrw : ∀ s ∈ zaH.map Prod.fst,or1 (zdL zbj s) (or1 (zdL zmw s) (or1 (zdL zfv s) (zdL zmx s))) = sgn s:=by decide +kernel
theorem zrx : ∀ s ∈ (zbj ++ zmw ++ zfv ++ zmx).map Prod.fst,s ∈ zaH.map Prod.fst:=by decide +kernel
theorem sgn_or (s : List UInt8) : or1 (zdL zbj s) (or1 (zdL zmw s) (or1 (zdL zfv s) (zdL zmx s))) = sgn s:=by
 by_cases h : s ∈ zaH.map Prod.fst
 ·exact zrw s h
 ·have hs : ∀ T : Tab,(∀ x ∈ T,x ∈ zbj ++ zmw ++ zfv ++ zmx) → zdL T s = 0:=fun T hT=>zmz T s fun hm=>h (zrx s (by
   obtain ⟨x,hx,e⟩:=List.mem_map.1 hm
   exact List.mem_map.2 ⟨x,hT x hx,e⟩))
  rw [hs zbj (by intro x hx;simp only [List.mem_append];exact .inl (.inl (.inl hx))),hs zmw (by intro x hx;simp only [List.mem_append];exact .inl (.inl (.inr hx))),hs zfv (by intro x hx;simp only [List.mem_append];exact .inl (.inr hx)),hs zmx (by intro x hx;simp only [List.mem_append];exact .inr hx)]
  unfold sgn
  rw [zmz zaH s h]
  rfl
def win (i : Nat) : Int:=zmy.getD i 0
def zb1 (n : Int) : Int :=
 if n = 0 ∨ 1114111 < n ∨ (55296 ≤ n ∧ n ≤ 57343) then 65533 else if 128 ≤ n ∧ n ≤ 159 ∧ win (n - 128).toNat ≠ 0 then win (n - 128).toNat else n
theorem zry : ∀ x ∈ zmy,0 ≤ x ∧ x ≤ 8482:=by decide +kernel
theorem win_bd (i : Nat) : 0 ≤ win i ∧ win i ≤ 8482:=by
 unfold win
 rw [List.getD_eq_getElem?_getD]
 cases h : zmy[i]? with
 | none=>simp
 | some x=>exact zry x (List.mem_of_getElem? h)
theorem zlm (n : Int) (h : 0 ≤ n) : 0 ≤ zb1 n ∧ zb1 n ≤ 1114111 ∧ (zb1 n < 55296 ∨ 57343 < zb1 n):=by
 unfold zb1
 split
 ·omega
 ·split
  ·have:=win_bd (n - 128).toNat
   omega
  ·omega
theorem zjq (n : Int) (h : 0 ≤ n) (h2 : n ≤ 127) : zb1 n ≤ 65535:=by
 unfold zb1
 split
 ·omega
 ·rw [if_neg (by omega)];omega
def letZ (n : Int) : Bool:=decide ((65 ≤ n ∧ n ≤ 90) ∨ (97 ≤ n ∧ n ≤ 122))
def ofName (c : UInt8) : Bool:=letZ (bt c) || zhj (bt c)
def hexB (c : UInt8) : Bool:=zfp (bt c)
def zmA (c : UInt8) : Bool:=zhj (bt c)
def zc0 (t : List UInt8) : Bool:=[35,120].isPrefixOf t || [35,88].isPrefixOf t
def dOk (b : Bool) : UInt8 → Bool:=if b then hexB else zmA
def fr (b : Bool) : Nat:=if b then 2 else 1
def zc1 (t : List UInt8) : List UInt8:=(t.drop (fr (zc0 t))).takeWhile (dOk (zc0 t))
def zmB (l : List UInt8) : Int:=if zdX l 4294967295 = 0 then zdW l 4294967295 else 4294967295
def zmC (l : List UInt8) : Int:=if zfr l = 0 then zfq l else 4294967295
def val (b : Bool) (l : List UInt8) : Int:=if b then zmC l else zmB l
def zkq (t : List UInt8) : Bool:=[35].isPrefixOf t && !(zc1 t).isEmpty
def zqS (l : List UInt8) : Nat:=if [59].isPrefixOf l then 1 else 0
def zcT (t : List UInt8) : Nat:=if zkq t then fr (zc0 t) + (zc1 t).length + zqS (t.drop (fr (zc0 t) + (zc1 t).length)) else 0
def zfw (t : List UInt8) : Int:=if zkq t then zb1 (val (zc0 t) (zc1 t)) else 0
def wn (t : List UInt8) : List UInt8:=t.takeWhile ofName
def zmD (t : List UInt8) : Bool:=[59].isPrefixOf (t.drop (wn t).length) && (sgn (wn t) != 0)
def zkr (t : List UInt8) : Nat:=if zmD t then (wn t).length + 1 else 0
def zpa (t : List UInt8) : Int:=if zmD t then sgn (wn t) else 0
def zdy : List UInt8 → Bool
 | []=>false
 | c :: _=>c == 61 || ofName c
def shP (a : Bool) (t : List UInt8) (k : Nat) : Int × Nat:=if a && zdy (t.drop k) then (0,0) else (zdL zbj (t.take k),k)
def shL (a : Bool) (t : List UInt8) : List Nat → Int × Nat
 | []=>(0,0)
 | k :: r=>if k ≤ t.length ∧ zdL zbj (t.take k) ≠ 0 then shP a t k else shL a t r
def sh (a : Bool) (t : List UInt8) : Int × Nat:=shL a t [2,3,4]
def next (a : Bool) (t : List UInt8) : Int × Nat :=
 if zcT t ≠ 0 then (zfw t,zcT t) else if zkr t ≠ 0 then (zpa t,zkr t) else sh a t
def za5 (base : Int) : Int → List UInt8 → Int
 | n,[]=>n
 | n,c :: r=>za5 base (min (n * base + zjm (bt c)) 4294967295) r
theorem zc2 (base : Int) (hb : 1 ≤ base) : ∀ l,za5 base 4294967295 l = 4294967295
 | []=>rfl
 | c :: r=>by
  have:=zhh (bt c)
  have h2 : (4294967295 : Int) * 1 ≤ 4294967295 * base:=Int.mul_le_mul_of_nonneg_left hb (by omega)
  rw [za5,Int.min_eq_right (by omega)]
  exact zc2 base hb r
theorem zpf (c : UInt8) (h : zmA c = true) : zjm (bt c) = bt c - 48 ∧ 0 ≤ bt c - 48 ∧ bt c - 48 ≤ 9:=by
 have h' : 48 ≤ bt c ∧ bt c ≤ 57:=by simpa [zmA,zhj] using h
 unfold zjm
 rw [if_pos h']
 omega
theorem zks : ∀ (l : List UInt8) (n : Int),l.all zmA = true → 0 ≤ n → n ≤ 4294967295 → za5 10 n l = (zbE 4294967295 n l).getD 4294967295
 | [],n,_,_,_=>rfl
 | c :: r,n,h,h0,h1=>by
  rw [List.all_cons,Bool.and_eq_true] at h
  have hv:=zpf c h.1
  rw [za5,zbE,hv.1]
  by_cases hm : 4294967295 < n * 10 + (bt c - 48)
  ·rw [if_pos hm,Int.min_eq_right (by omega),zc2 10 (by omega)]
   rfl
  ·rw [if_neg hm,Int.min_eq_left (by omega)]
   exact zks r _ h.2 (by omega) (by omega)
theorem zkt : ∀ (l : List UInt8) (n : Int),0 ≤ n → n ≤ 4294967295 → za5 16 n l = (zbD n l).getD 4294967295
 | [],n,_,_=>rfl
 | c :: r,n,h0,h1=>by
  have hv:=zhh (bt c)
  rw [za5,zbD]
  by_cases hm : 268435455 < n
  ·rw [if_pos hm,Int.min_eq_right (by omega),zc2 16 (by omega)]
   rfl
  ·rw [if_neg hm,Int.min_eq_left (by omega)]
   exact zkt r _ (by omega) (by omega)
theorem zjr (l : List UInt8) (h : l.all zmA = true) (hn : l ≠ []) : zmB l = za5 10 0 l:=by
 have hf : zcA l = true:=by
  unfold zcA
  have h' : zdx l = true:=h
  rw [h']
  cases l with
  | nil=>exact absurd rfl hn
  | cons a r=>rfl
 rw [zks l 0 h (by omega) (by omega)]
 unfold zmB
 cases e : zbE 4294967295 0 l with
 | none =>
  have:=zpe l 4294967295 hf (by omega) e
  rw [this.2,if_neg (by omega)];rfl
 | some n =>
  have:=num_ok l 4294967295 n hf (by omega) e
  rw [this.2,this.1,if_pos rfl];rfl
theorem zjs (l : List UInt8) (h : l.all hexB = true) (hn : l ≠ []) : zmC l = za5 16 0 l:=by
 rw [zkt l 0 (by omega) (by omega)]
 unfold zmC
 cases e : zbD 0 l with
 | none =>
  have:=zpd l ⟨h,hn⟩ e
  rw [this.2,if_neg (by omega)];rfl
 | some n =>
  have:=hex_ok l n ⟨h,hn⟩ e
  rw [this.2,this.1,if_pos rfl];rfl
theorem zgG (base : Int) (hb : 0 ≤ base) : ∀ (l : List UInt8) (n : Int),0 ≤ n → n ≤ 4294967295 → 0 ≤ za5 base n l ∧ za5 base n l ≤ 4294967295
 | [],n,h0,h1=>⟨h0,h1⟩
 | c :: r,n,h0,h1=>by
  have hv:=zhh (bt c)
  have hm:=Int.mul_nonneg h0 hb
  exact zgG base hb r _ (by omega) (by omega)
def zia (b : Bool) : Int:=if b then 16 else 10
theorem zb9 (p : UInt8 → Bool) : ∀ l : List UInt8,(l.takeWhile p).all p = true
 | []=>rfl
 | c :: r=>by
  rw [List.takeWhile_cons]
  cases h : p c
  ·rfl
  ·simp only [if_true,List.all_cons,h,Bool.true_and]
   exact zb9 p r
theorem zhl (t : List UInt8) (h : zc1 t ≠ []) : val (zc0 t) (zc1 t) = za5 (zia (zc0 t)) 0 (zc1 t):=by
 have ha:=zb9 (dOk (zc0 t)) (t.drop (fr (zc0 t)))
 unfold val zia
 unfold zc1 at *
 cases hb : zc0 t
 ·rw [hb] at ha h
  exact zjr _ ha h
 ·rw [hb] at ha h
  exact zjs _ ha h
theorem zqT (t : List UInt8) (h : zc1 t ≠ []) : 0 ≤ val (zc0 t) (zc1 t) ∧ val (zc0 t) (zc1 t) ≤ 4294967295:=by
 rw [zhl t h]
 exact zgG _ (by unfold zia;split <;> omega) _ 0 (by omega) (by omega)
def zew (t : List UInt8) : Tab → Int × Nat
 | []=>(0,0)
 | p :: r=>if (p.1 ++ [59]).isPrefixOf t then (p.2,p.1.length + 1) else zew t r
theorem zpg : ofName 59 = false:=by decide
theorem zku (n r : List UInt8) (h : n.all ofName = true) : wn (n ++ 59 :: r) = n:=by
 unfold wn
 induction n with
 | nil=>rw [List.nil_append,List.takeWhile_cons,zpg];rfl
 | cons c n ih =>
  rw [List.all_cons,Bool.and_eq_true] at h
  rw [List.cons_append,List.takeWhile_cons,h.1,if_pos rfl,ih h.2]
theorem zmE (t : List UInt8) : wn t ++ t.drop (wn t).length = t:=by
 have e:=List.takeWhile_append_dropWhile (p:=ofName) (l:=t)
 have : t.drop (wn t).length = t.dropWhile ofName:=by
  have h2:=congrArg (List.drop (wn t).length) e
  unfold wn at *
  rw [List.drop_left] at h2
  exact h2.symm
 rw [this]
 exact e
theorem zrz (n t : List UInt8) (h : n.all ofName = true) : (n ++ [59]).isPrefixOf t = ([59].isPrefixOf (t.drop (wn t).length) && decide (wn t = n)):=by
 rw [Bool.eq_iff_iff,Bool.and_eq_true,List.isPrefixOf_iff_prefix,List.isPrefixOf_iff_prefix,decide_eq_true_eq]
 constructor
 ·rintro ⟨r,rfl⟩
  rw [List.append_assoc,List.singleton_append,zku n r h,List.drop_left]
  exact ⟨⟨r,rfl⟩,rfl⟩
 ·rintro ⟨⟨r,hr⟩,rfl⟩
  refine ⟨r,?_⟩
  rw [List.append_assoc,hr,zmE]
theorem zib (t : List UInt8) : ∀ T : Tab,(∀ p ∈ T,p.1.all ofName = true ∧ p.2 ≠ 0) → zew t T = if [59].isPrefixOf (t.drop (wn t).length) && (zdL T (wn t) != 0) then (zdL T (wn t),(wn t).length + 1) else (0,0)
 | [],_=>by simp [zew,zdL]
 | p :: r,h=>by
  have hp:=h p (List.mem_cons_self ..)
  rw [zew,zdL,zrz p.1 t hp.1,zib t r (fun q hq=>h q (List.mem_cons_of_mem _ hq))]
  cases h1 : [59].isPrefixOf (t.drop (wn t).length)
  ·simp
  ·by_cases e : wn t = p.1
   ·rw [if_pos e,← e]
    simp [hp.2]
   ·rw [if_neg e]
    simp [e]
theorem zln : ∀ p ∈ zaH,p.1.all ofName = true ∧ p.2 ≠ 0:=by decide +kernel
theorem zjt (t : List UInt8) : zew t zaH = (zpa t,zkr t):=by
 rw [zib t zaH zln]
 unfold zpa zkr zmD sgn
 split <;> rfl
def zex (a : Bool) (t : List UInt8) : Tab → Int × Nat
 | []=>(0,0)
 | p :: r=>if p.1.isPrefixOf t && !(a && zdy (t.drop p.1.length)) then (p.2,p.1.length) else zex a t r
theorem zkv (a : Bool) (t : List UInt8) : ∀ T : Tab,(∀ p ∈ T,p.1.isPrefixOf t = false) → zex a t T = (0,0)
 | [],_=>rfl
 | p :: r,h=>by
  rw [zex,h p (List.mem_cons_self ..)]
  exact zkv a t r fun q hq=>h q (List.mem_cons_of_mem _ hq)
theorem zmF (a : Bool) (t : List UInt8) (h : ∀ p ∈ zbj,p.1.isPrefixOf t = false) : ∀ l : List Nat,shL a t l = (0,0)
 | []=>rfl
 | k :: r=>by
  rw [shL,if_neg,zmF a t h r]
  rintro ⟨hk,hl⟩
  obtain ⟨p,hp,e⟩:=List.mem_map.1 (zdY _ _ hl)
  have:=h p hp
  rw [Bool.eq_false_iff] at this
  exact this (List.isPrefixOf_iff_prefix.2 (e ▸ List.take_prefix k t))
theorem zph (a : Bool) (t : List UInt8) : zex a t zbj = sh a t:=by
 by_cases h : ∃ p ∈ zbj,p.1.isPrefixOf t = true
 ·obtain ⟨p,hp,hx⟩:=h
  obtain ⟨r,rfl⟩:=List.isPrefixOf_iff_prefix.1 hx
  clear hx
  simp only [zbj,List.mem_cons,List.not_mem_nil,or_false] at hp
  rcases hp with rfl | rfl | rfl | rfl | rfl | rfl | rfl
  all_goals
   simp [zex,zbj,sh,shL,shP,zdL]
   try (cases a <;> cases zdy r <;> simp)
 ·have h' : ∀ p ∈ zbj,p.1.isPrefixOf t = false:=fun p hp=>by
   rw [Bool.eq_false_iff]
   exact fun e=>h ⟨p,hp,e⟩
  rw [zkv a t zbj h']
  exact (zmF a t h' _).symm
theorem zmG (a : Bool) (r : List UInt8) : zkr (35 :: r) = 0 ∧ zpa (35 :: r) = 0 ∧ sh a (35 :: r) = (0,0):=by
 have hw : wn (35 :: r) = []:=by
  unfold wn
  rw [List.takeWhile_cons,show ofName 35 = false from by decide]
  rfl
 have hi : zmD (35 :: r) = false:=by
  unfold zmD
  rw [hw]
  rfl
 refine ⟨by unfold zkr;rw [hi];rfl,by unfold zpa;rw [hi];rfl,?_⟩
 refine zmF a _ (fun p hp=>?_) _
 simp only [zbj,List.mem_cons,List.not_mem_nil,or_false] at hp
 rcases hp with rfl | rfl | rfl | rfl | rfl | rfl | rfl <;> rfl
theorem zkw (t : List UInt8) (h : [35].isPrefixOf t = false) : zcT t = 0 ∧ zfw t = 0:=by
 have : zkq t = false:=by unfold zkq;rw [h];rfl
 unfold zcT zfw
 rw [this]
 exact ⟨rfl,rfl⟩
open Asc Go.Lib
def dec (a : Bool) (l : List UInt8) : List UInt8 :=
 match l with
 | []=>[]
 | c :: t=>if c = 38 then (if (next a t).2 = 0 then 38 :: dec a t else encodeRune (next a t).1 ++ dec a (t.drop (next a t).2)) else c :: dec a t
termination_by l.length
decreasing_by
 all_goals simp only [List.length_cons,List.length_drop]
 all_goals omega
theorem zju (a : Bool) : dec a [] = []:=by rw [dec]
theorem zkx (a : Bool) (t : List UInt8) (h : (next a t).2 = 0) : dec a (38 :: t) = 38 :: dec a t:=by rw [dec,if_pos rfl,if_pos h]
theorem zfe (a : Bool) (t : List UInt8) (h : (next a t).2 ≠ 0) : dec a (38 :: t) = encodeRune (next a t).1 ++ dec a (t.drop (next a t).2):=by rw [dec,if_pos rfl,if_neg h]
theorem zfx (a : Bool) (c : UInt8) (t : List UInt8) (h : c ≠ 38) : dec a (c :: t) = c :: dec a t:=by rw [dec,if_neg h]
theorem zhm (a : Bool) : ∀ (p t : List UInt8),(38 : UInt8) ∉ p → dec a (p ++ t) = p ++ dec a t
 | [],t,_=>rfl
 | c :: p,t,h=>by
  rw [List.cons_append,zfx a c _ (fun e=>h (by rw [e];exact List.mem_cons_self ..)),zhm a p t (fun e=>h (List.mem_cons_of_mem _ e)),List.cons_append]
theorem dec_plain (a : Bool) (p : List UInt8) (h : (38 : UInt8) ∉ p) : dec a p = p:=by
 have:=zhm a p [] h
 rw [List.append_nil,zju,List.append_nil] at this
 exact this
def one (a : Bool) (l : List UInt8) : List UInt8 × Nat :=
 if l.take 1 = [38] then ([38,97,109,112,59],1)
 else if l.take 1 = [60] ∧ a = false then ([38,108,116,59],1)
 else if l.take 1 = [62] ∧ a = false then ([38,103,116,59],1)
 else if l.take 1 = [34] ∧ a = true then ([38,113,117,111,116,59],1)
 else if l.take 1 = [13] then ([38,35,49,51,59],1)
 else if [194,160].isPrefixOf l = true then ([38,110,98,115,112,59],2)
 else (l.take 1,1)
theorem zhn (a : Bool) (l : List UInt8) : 1 ≤ (one a l).2 ∧ (one a l).2 ≤ 2:=by
 unfold one
 repeat' split
 all_goals simp
theorem zjv (a : Bool) (l : List UInt8) (h : l ≠ []) : (one a l).2 ≤ l.length:=by
 have h1 : 1 ≤ l.length:=by cases l <;> simp at h ⊢
 unfold one
 repeat' split
 all_goals try exact h1
 rename_i hp
 obtain ⟨r,rfl⟩:=List.isPrefixOf_iff_prefix.1 hp
 simp
theorem zpi (a : Bool) (l : List UInt8) : (one a l).1.length ≤ 6:=by
 unfold one
 repeat' split
 all_goals simp
 omega
def enc (a : Bool) (l : List UInt8) : List UInt8 :=
 if h : l = [] then [] else (one a l).1 ++ enc a (l.drop (one a l).2)
termination_by l.length
decreasing_by
 have:=(zhn a l).1
 have : 1 ≤ l.length:=by cases l <;> simp at h ⊢
 rw [List.length_drop]
 omega
theorem zjw (a : Bool) : enc a [] = []:=by rw [enc];simp
theorem zmH (a : Bool) (l : List UInt8) (h : l ≠ []) : enc a l = (one a l).1 ++ enc a (l.drop (one a l).2):=by rw [enc];simp [h]
theorem zrn (a : Bool) (l : List UInt8) : (enc a l).length ≤ 6 * l.length:=by
 generalize hn : l.length = n
 induction n using Nat.strongRecOn generalizing l with
 | ind n ih =>
  by_cases h : l = []
  ·subst h;rw [zjw];simp
  ·have h1:=zhn a l
   have h2:=zjv a l h
   have h3:=zpi a l
   have:=ih (l.drop (one a l).2).length (by rw [List.length_drop];omega) _ rfl
   rw [zmH a l h,List.length_append]
   rw [List.length_drop] at this
   omega
theorem zmI (b : Bool) (n r : List UInt8) (c : UInt8) (m : List UInt8) (hn : n = c :: m) (hc : c ≠ 35) (ha : n.all ofName = true) (hs : sgn n ≠ 0) :
  next b (n ++ 59 :: r) = (sgn n,n.length + 1):=by
 have h35 : [35].isPrefixOf (n ++ 59 :: r) = false:=by
  subst hn
  have : (35 == c) = false:=by
   rw [beq_eq_false_iff_ne];exact fun e=>hc e.symm
  simp [List.isPrefixOf,this]
 have hw : zmD (n ++ 59 :: r) = true:=by
  unfold zmD
  rw [zku n r ha,List.drop_left]
  simp [List.isPrefixOf,hs]
 unfold next
 rw [(zkw _ h35).1]
 have hz : zkr (n ++ 59 :: r) = n.length + 1:=by unfold zkr;rw [hw,zku n r ha];rfl
 have hg : zpa (n ++ 59 :: r) = sgn n:=by unfold zpa;rw [hw,zku n r ha];rfl
 rw [hz,hg]
 simp
theorem zrA (b : Bool) (r : List UInt8) : next b (35 :: 49 :: 51 :: 59 :: r) = (13,4):=by
 have hx : zc0 (35 :: 49 :: 51 :: 59 :: r) = false:=by simp [zc0,List.isPrefixOf]
 have hd : zc1 (35 :: 49 :: 51 :: 59 :: r) = [49,51]:=by
  unfold zc1
  rw [hx]
  show (List.takeWhile zmA (49 :: 51 :: 59 :: r)) = _
  rw [List.takeWhile_cons,show zmA 49 = true from by decide,if_pos rfl,List.takeWhile_cons,show zmA 51 = true from by decide,if_pos rfl,List.takeWhile_cons,show zmA 59 = false from by decide]
  rfl
 have hi : zkq (35 :: 49 :: 51 :: 59 :: r) = true:=by
  unfold zkq
  rw [hd]
  simp [List.isPrefixOf]
 unfold next zcT zfw
 rw [hi,hx,hd]
 have hv : val false [49,51] = 13:=by decide +kernel
 rw [hv]
 have hs : zb1 13 = 13:=by decide +kernel
 rw [hs]
 simp [fr,zqS,List.isPrefixOf]
theorem zdZ (b : Bool) (n r : List UInt8) (c : UInt8) (m : List UInt8) (hn : n = c :: m) (hc : c ≠ 35) (ha : n.all ofName = true) (hs : sgn n ≠ 0) :
  dec b (38 :: (n ++ 59 :: r)) = encodeRune (sgn n) ++ dec b r:=by
 have e:=zmI b n r c m hn hc ha hs
 rw [zfe b _ (by rw [e];simp),e]
 have : (n ++ 59 :: r).drop (n.length + 1) = r:=by
  rw [List.drop_append]
  simp
 rw [this]
theorem zpj (a b : Bool) (l r : List UInt8) (h : l ≠ []) : dec b ((one a l).1 ++ r) = l.take (one a l).2 ++ dec b r:=by
 have hl : ∀ x : UInt8,l.take 1 = [x] → l.take 1 = [x]:=fun _ h=>h
 unfold one
 split
 ·rename_i e
  show dec b (38 :: ([97,109,112] ++ 59 :: r)) = l.take 1 ++ _
  rw [zdZ b _ r 97 _ rfl (by decide) (by decide) (by decide +kernel),e]
  rw [show encodeRune (sgn [97,109,112]) = [38] from by decide +kernel]
 split
 ·rename_i e
  show dec b (38 :: ([108,116] ++ 59 :: r)) = l.take 1 ++ _
  rw [zdZ b _ r 108 _ rfl (by decide) (by decide) (by decide +kernel),e.1]
  rw [show encodeRune (sgn [108,116]) = [60] from by decide +kernel]
 split
 ·rename_i e
  show dec b (38 :: ([103,116] ++ 59 :: r)) = l.take 1 ++ _
  rw [zdZ b _ r 103 _ rfl (by decide) (by decide) (by decide +kernel),e.1]
  rw [show encodeRune (sgn [103,116]) = [62] from by decide +kernel]
 split
 ·rename_i e
  show dec b (38 :: ([113,117,111,116] ++ 59 :: r)) = l.take 1 ++ _
  rw [zdZ b _ r 113 _ rfl (by decide) (by decide) (by decide +kernel),e.1]
  rw [show encodeRune (sgn [113,117,111,116]) = [34] from by decide +kernel]
 split
 ·rename_i e
  show dec b (38 :: 35 :: 49 :: 51 :: 59 :: r) = l.take 1 ++ _
  have e2:=zrA b r
  rw [zfe b _ (by rw [e2];simp),e2,e]
  rw [show encodeRune (13 : Int) = [13] from by decide +kernel]
  rfl
 split
 ·rename_i e
  obtain ⟨q,rfl⟩:=List.isPrefixOf_iff_prefix.1 e
  show dec b (38 :: ([110,98,115,112] ++ 59 :: r)) = _
  rw [zdZ b _ r 110 _ rfl (by decide) (by decide) (by decide +kernel)]
  rw [show encodeRune (sgn [110,98,115,112]) = [194,160] from by decide +kernel]
  rfl
 ·rename_i e _ _ _ _ _
  cases l with
  | nil=>exact absurd rfl h
  | cons c t =>
   refine zhm b [c] r ?_
   intro hm
   rw [List.mem_singleton] at hm
   exact e (by rw [← hm];rfl)
theorem back (a b : Bool) (l : List UInt8) : dec b (enc a l) = l:=by
 generalize hn : l.length = n
 induction n using Nat.strongRecOn generalizing l with
 | ind n ih =>
  by_cases h : l = []
  ·subst h;rw [zjw,zju]
  ·have h1:=zhn a l
   have h2:=zjv a l h
   rw [zmH a l h,zpj a b l _ h,ih (l.drop (one a l).2).length (by rw [List.length_drop];omega) _ rfl,List.take_append_drop]
def zgn (a : Bool) (c : UInt8) : Bool:=if a then c != 34 else c != 60 && c != 62
theorem zmJ (a : Bool) (l : List UInt8) (h : l ≠ []) : (one a l).1.all (zgn a) = true:=by
 obtain ⟨x,t,rfl⟩ : ∃ x t,l = x :: t:=by
  cases l with
  | nil=>exact absurd rfl h
  | cons x t=>exact ⟨x,t,rfl⟩
 unfold one
 split
 ·cases a <;> decide
 split
 ·cases a <;> decide
 split
 ·cases a <;> decide
 split
 ·cases a <;> decide
 split
 ·cases a <;> decide
 split
 ·cases a <;> decide
 ·rename_i _ h1 h2 h3 _ _
  simp only [List.take_succ_cons,List.take_zero,List.cons.injEq,and_true] at h1 h2 h3 ⊢
  cases a <;> simp [zgn] at * <;> simp [*]
theorem enc_clean (a : Bool) (l : List UInt8) : (enc a l).all (zgn a) = true:=by
 generalize hn : l.length = n
 induction n using Nat.strongRecOn generalizing l with
 | ind n ih =>
  by_cases h : l = []
  ·subst h;rw [zjw];rfl
  ·have h1:=zhn a l
   have h2:=zjv a l h
   rw [zmH a l h,List.all_append,zmJ a l h,ih (l.drop (one a l).2).length (by rw [List.length_drop];omega) _ rfl]
   rfl
def low (c : UInt8) : Bool:=decide (c.toNat < 128)
theorem zrB {c : UInt8} (h : zmA c = true) : low c = true:=by
 have h' : 48 ≤ bt c ∧ bt c ≤ 57:=by simpa [zmA,zhj] using h
 unfold low bt at *
 rw [decide_eq_true_eq];omega
theorem zrC {c : UInt8} (h : hexB c = true) : low c = true:=by
 have h' : ((48 ≤ bt c ∧ bt c ≤ 57) ∨ (97 ≤ bt c ∧ bt c ≤ 102)) ∨ (65 ≤ bt c ∧ bt c ≤ 70):=by simpa [hexB,zfp] using h
 unfold low bt at *
 rw [decide_eq_true_eq];omega
theorem zpk {c : UInt8} (h : ofName c = true) : low c = true:=by
 have h' : ((65 ≤ bt c ∧ bt c ≤ 90) ∨ (97 ≤ bt c ∧ bt c ≤ 122)) ∨ (48 ≤ bt c ∧ bt c ≤ 57):=by simpa [ofName,letZ,zhj] using h
 unfold low bt at *
 rw [decide_eq_true_eq];omega
theorem low_ok (b : Bool) {c : UInt8} (h : dOk b c = true) : low c = true:=by
 cases b
 ·exact zrB h
 ·exact zrC h
theorem zky {p q : UInt8 → Bool} (h : ∀ c,p c = true → q c = true) (l : List UInt8) (hl : l.all p = true) : l.all q = true:=by
 rw [List.all_eq_true] at *
 exact fun c hc=>h c (hl c hc)
theorem zpl (c : UInt8) (t : List UInt8) (h : low c = true) : Utf.zeS (c :: t) = Utf.zeS t:=by
 have h' : c.toNat < 128:=by simpa [low] using h
 have hp : Utf.zbs (c :: t) = (1,true):=by unfold Utf.zbs;rw [Utf.at0,Utf.zqI _ _ _ _ _ h']
 rw [Utf.zms _ (by simp),hp]
 rfl
theorem zmK : ∀ (p t : List UInt8),p.all low = true → Utf.zeS (p ++ t) = Utf.zeS t
 | [],t,_=>rfl
 | c :: p,t,h=>by
  rw [List.all_cons,Bool.and_eq_true] at h
  rw [List.cons_append,zpl c _ h.1,zmK p t h.2]
theorem zmL (l : List UInt8) : ∃ p,p.length = zqS l ∧ p.all low = true ∧ l = p ++ l.drop (zqS l):=by
 unfold zqS
 split
 ·rename_i h
  obtain ⟨r,rfl⟩:=List.isPrefixOf_iff_prefix.1 h
  exact ⟨[59],rfl,rfl,rfl⟩
 ·exact ⟨[],rfl,rfl,rfl⟩
theorem zgo (p : UInt8 → Bool) (t : List UInt8) : t = t.takeWhile p ++ t.drop (t.takeWhile p).length:=by
 have e:=List.takeWhile_append_dropWhile (p:=p) (l:=t)
 have : t.drop (t.takeWhile p).length = t.dropWhile p:=by
  have h2:=congrArg (List.drop (t.takeWhile p).length) e
  rw [List.drop_left] at h2
  exact h2.symm
 rw [this]
 exact e.symm
theorem zmM (t : List UInt8) (h : [35].isPrefixOf t = true) : ∃ p,p.length = fr (zc0 t) ∧ p.all low = true ∧ t = p ++ t.drop (fr (zc0 t)):=by
 cases hx : zc0 t
 ·obtain ⟨r,rfl⟩:=List.isPrefixOf_iff_prefix.1 h
  exact ⟨[35],rfl,rfl,rfl⟩
 ·unfold zc0 at hx
  rw [Bool.or_eq_true] at hx
  rcases hx with hx | hx
  ·obtain ⟨r,rfl⟩:=List.isPrefixOf_iff_prefix.1 hx
   exact ⟨[35,120],rfl,rfl,rfl⟩
  ·obtain ⟨r,rfl⟩:=List.isPrefixOf_iff_prefix.1 hx
   exact ⟨[35,88],rfl,rfl,rfl⟩
def Lows (t : List UInt8) (n : Nat) : Prop:=∃ p,p.length = n ∧ p.all low = true ∧ t = p ++ t.drop n
theorem zrD (t : List UInt8) : Lows t (zcT t):=by
 unfold zcT
 split
 ·rename_i h
  unfold zkq at h
  rw [Bool.and_eq_true] at h
  obtain ⟨p,hp1,hp2,hp3⟩:=zmM t h.1
  have hd:=zgo (dOk (zc0 t)) (t.drop (fr (zc0 t)))
  have ha:=zky (fun c h=>low_ok (zc0 t) h) _ (zb9 (dOk (zc0 t)) (t.drop (fr (zc0 t))))
  obtain ⟨q,hq1,hq2,hq3⟩:=zmL (t.drop (fr (zc0 t) + (zc1 t).length))
  refine ⟨p ++ (zc1 t ++ q),by rw [List.length_append,List.length_append,hp1,hq1];omega,by rw [List.all_append,List.all_append,hp2,hq2];unfold zc1;rw [ha];rfl,?_⟩
  rw [List.append_assoc,List.append_assoc]
  rw [← List.drop_drop (i:=zqS _)]
  rw [← hq3]
  rw [← List.drop_drop]
  unfold zc1
  rw [← hd]
  exact hp3
 ·exact ⟨[],rfl,rfl,rfl⟩
theorem wh_low (t : List UInt8) : Lows t (zkr t):=by
 unfold zkr
 split
 ·rename_i h
  unfold zmD at h
  rw [Bool.and_eq_true] at h
  obtain ⟨r,hr⟩:=List.isPrefixOf_iff_prefix.1 h.1
  refine ⟨wn t ++ [59],by rw [List.length_append];rfl,?_,?_⟩
  ·rw [List.all_append]
   unfold wn
   rw [zky (fun c h=>zpk h) _ (zb9 ofName t)]
   rfl
  ·rw [← List.drop_drop,← hr,List.append_assoc]
   exact ((congrArg (wn t ++ ·) hr).trans (zmE t)).symm
 ·exact ⟨[],rfl,rfl,rfl⟩
theorem zmN : ∀ p ∈ zbj,p.1.all low = true:=by decide +kernel
theorem sh_low (a : Bool) (t : List UInt8) : Lows t (sh a t).2:=by
 have key : ∀ l : List Nat,Lows t (shL a t l).2:=by
  intro l
  induction l with
  | nil=>exact ⟨[],rfl,rfl,rfl⟩
  | cons k r ih =>
   rw [shL]
   split
   ·rename_i h
    unfold shP
    split
    ·exact ⟨[],rfl,rfl,rfl⟩
    ·obtain ⟨p,hp,e⟩:=List.mem_map.1 (zdY _ _ h.2)
     refine ⟨t.take k,by rw [List.length_take];show min k t.length = k;omega,?_,(List.take_append_drop k t).symm⟩
     rw [← e]
     exact zmN p hp
   ·exact ih
 exact key _
theorem zpm (a : Bool) (t : List UInt8) : Lows t (next a t).2:=by
 unfold next
 split
 ·exact zrD t
 split
 ·exact wh_low t
 ·exact sh_low a t
theorem zff (a : Bool) (t : List UInt8) : (next a t).2 ≤ t.length:=by
 obtain ⟨p,h1,_,h3⟩:=zpm a t
 have:=congrArg List.length h3
 rw [List.length_append,h1] at this
 omega
theorem enc3 (c : Int) (h : c ≤ 65535) : (encodeRune c).length ≤ 3:=by
 unfold encodeRune encodeRuneZ
 repeat' split
 all_goals simp
 all_goals omega
theorem zfy (M : Int) (hM : 0 ≤ M) : ∀ (T : Tab) (s : List UInt8),(∀ p ∈ T,p.2 ≤ M) → zdL T s ≤ M
 | [],s,_=>hM
 | p :: r,s,h=>by
  rw [zdL]
  split
  ·exact h p (List.mem_cons_self ..)
  ·exact zfy M hM r s fun q hq=>h q (List.mem_cons_of_mem _ hq)
theorem zkz : ∀ p ∈ zaH,p.2 ≤ 65535:=by decide +kernel
theorem zkA : ∀ p ∈ zbj,p.2 ≤ 65535:=by decide +kernel
theorem zpn : ∀ s ∈ zaH.map Prod.fst,1 ≤ s.length:=by decide +kernel
theorem zlo (a : Bool) (t : List UInt8) (h : (next a t).2 ≠ 0) : (encodeRune (next a t).1).length ≤ (next a t).2 + 1:=by
 unfold next at *
 split at h
 ·rename_i hz
  rw [if_pos hz]
  show (encodeRune (zfw t)).length ≤ zcT t + 1
  have hi : zkq t = true:=by
   cases e : zkq t
   ·unfold zcT at hz;rw [e] at hz;exact absurd rfl hz
   ·rfl
  have hd : zc1 t ≠ []:=by
   unfold zkq at hi
   rw [Bool.and_eq_true] at hi
   intro e
   rw [e] at hi
   simp at hi
  have hf : 1 ≤ fr (zc0 t):=by unfold fr;split <;> omega
  unfold zcT zfw
  rw [hi]
  simp only [if_true]
  by_cases h1 : 2 ≤ (zc1 t).length
  ·have:=(Utf.zrn (zb1 (val (zc0 t) (zc1 t)))).1
   omega
  ·obtain ⟨c,hc⟩ : ∃ c,zc1 t = [c]:=by
    match zc1 t,hd,h1 with
    | [c],_,_=>exact ⟨c,rfl⟩
    | _ :: _ :: _,_,h1=>simp at h1
   have hv:=zhl t hd
   have hb:=zhh (bt c)
   have hval : val (zc0 t) (zc1 t) ≤ 127 ∧ 0 ≤ val (zc0 t) (zc1 t):=by
    rw [hv,hc]
    simp only [za5]
    omega
   have:=enc3 _ (zjq _ hval.2 hval.1)
   rw [hc] at *
   simp only [List.length_singleton]
   omega
 split at h
 ·rename_i hz hy
  rw [if_neg hz,if_pos hy]
  show (encodeRune (zpa t)).length ≤ zkr t + 1
  have hi : zmD t = true:=by
   cases e : zmD t
   ·unfold zkr at hy;rw [e] at hy;exact absurd rfl hy
   ·rfl
  have h3:=enc3 (sgn (wn t)) (zfy 65535 (by omega) _ _ zkz)
  have hl : 1 ≤ (wn t).length:=by
   unfold zmD at hi
   rw [Bool.and_eq_true] at hi
   exact zpn _ (zdY zaH (wn t) (by have h':=hi.2;unfold sgn at h';simpa using h'))
  unfold zkr zpa
  rw [hi]
  simp only [if_true]
  omega
 ·rename_i hz hy
  rw [if_neg hz,if_neg hy]
  have key : ∀ l : List Nat,(∀ k ∈ l,2 ≤ k) → (shL a t l).2 ≠ 0 → (encodeRune (shL a t l).1).length ≤ (shL a t l).2 + 1:=by
   intro l
   induction l with
   | nil=>intro _ h;exact absurd rfl h
   | cons k r ih =>
    intro hk
    rw [shL]
    split
    ·unfold shP
     split
     ·intro h;exact absurd rfl h
     ·intro _
      have h3:=enc3 (zdL zbj (t.take k)) (zfy 65535 (by omega) _ _ zkA)
      have:=hk k (List.mem_cons_self ..)
      show (encodeRune (zdL zbj (t.take k))).length ≤ k + 1
      omega
    ·exact ih fun q hq=>hk q (List.mem_cons_of_mem _ hq)
  exact key _ (by decide) h
theorem dec_len (a : Bool) (l : List UInt8) : (dec a l).length ≤ l.length:=by
 generalize hn : l.length = n
 induction n using Nat.strongRecOn generalizing l with
 | ind n ih =>
  cases l with
  | nil=>rw [zju];simp
  | cons c t =>
   rw [List.length_cons] at hn
   by_cases hc : c = 38
   ·subst hc
    by_cases hz : (next a t).2 = 0
    ·rw [zkx a t hz,List.length_cons]
     have:=ih t.length (by omega) t rfl
     omega
    ·rw [zfe a t hz,List.length_append]
     have h1:=zlo a t hz
     have h2:=zff a t
     have:=ih _ (by rw [List.length_drop];omega) (t.drop (next a t).2) rfl
     rw [List.length_drop] at this
     omega
   ·rw [zfx a c t hc,List.length_cons]
    have:=ih t.length (by omega) t rfl
    omega
def nx (a : Bool) : List UInt8 → Int × Nat × Bool
 | []=>(0,0,false)
 | c :: t=>if c = 38 ∧ (next a t).2 ≠ 0 then ((next a t).1,(next a t).2 + 1,true) else (0,0,false)
theorem zho (a : Bool) (c : UInt8) (t : List UInt8) : nx a (c :: t) = if c = 38 ∧ (next a t).2 ≠ 0 then ((next a t).1,(next a t).2 + 1,true) else (0,0,false):=rfl
theorem nx_none (a : Bool) (l : List UInt8) (h : [38].isPrefixOf l = false) : nx a l = (0,0,false):=by
 cases l with
 | nil=>rfl
 | cons c t =>
  rw [nx,if_neg]
  rintro ⟨e,_⟩
  subst e
  simp [List.isPrefixOf] at h
theorem zqU (a : Bool) (t : List UInt8) : nx a (38 :: t) = if (next a t).2 = 0 then (0,0,false) else ((next a t).1,(next a t).2 + 1,true):=by
 rw [nx]
 by_cases h : (next a t).2 = 0
 ·rw [if_neg (by simp [h]),if_pos h]
 ·rw [if_pos ⟨rfl,h⟩,if_neg h]
theorem amp_form (l : List UInt8) (h : [38].isPrefixOf l = true) : ∃ t,l = 38 :: t:=by
 obtain ⟨r,rfl⟩:=List.isPrefixOf_iff_prefix.1 h
 exact ⟨r,rfl⟩
theorem dec_nx (a : Bool) (l : List UInt8) (h : (nx a l).2.2 = true) : dec a l = Go.Lib.encodeRune (nx a l).1 ++ dec a (l.drop (nx a l).2.1):=by
 cases l with
 | nil=>cases h
 | cons c t =>
  rw [zho] at *
  by_cases hc : c = 38 ∧ (next a t).2 ≠ 0
  ·rw [if_pos hc]
   obtain ⟨rfl,hn⟩:=hc
   rw [zfe a t hn]
   rfl
  ·rw [if_neg hc] at h
   cases h
theorem dec_nx_no (a : Bool) (c : UInt8) (t : List UInt8) (h : (nx a (c :: t)).2.2 = false) : dec a (c :: t) = c :: dec a t:=by
 rw [zho] at h
 by_cases hc : c = 38
 ·subst hc
  by_cases hn : (next a t).2 = 0
  ·exact zkx a t hn
  ·rw [if_pos ⟨rfl,hn⟩] at h;cases h
 ·exact zfx a c t hc
theorem nx_len (a : Bool) (l : List UInt8) : (nx a l).2.1 ≤ l.length ∧ ((nx a l).2.2 = true → 1 ≤ (nx a l).2.1):=by
 cases l with
 | nil=>exact ⟨Nat.le_refl _,fun h=>by cases h⟩
 | cons c t =>
  rw [zho]
  have:=zff a t
  by_cases hc : c = 38 ∧ (next a t).2 ≠ 0
  ·rw [if_pos hc]
   simp only [List.length_cons]
   exact ⟨by omega,fun _=>by omega⟩
  ·rw [if_neg hc]
   exact ⟨Nat.zero_le _,fun h=>by cases h⟩
theorem zrE (a : Bool) (t : List UInt8) : 0 ≤ (next a t).1 ∧ (next a t).1 ≤ 1114111:=by
 have look_pos : ∀ (T : Tab) (s : List UInt8),(∀ p ∈ T,0 ≤ p.2) → 0 ≤ zdL T s:=by
  intro T
  induction T with
  | nil=>intro s _;exact Int.le_refl 0
  | cons p r ih =>
   intro s h
   rw [zdL]
   split
   ·exact h p (List.mem_cons_self ..)
   ·exact ih s fun q hq=>h q (List.mem_cons_of_mem _ hq)
 unfold next
 split
 ·rename_i h
  unfold zfw
  split
  ·rename_i hi
   have hd : zc1 t ≠ []:=by
    unfold zkq at hi
    rw [Bool.and_eq_true] at hi
    intro e
    rw [e] at hi
    simp at hi
   have:=zlm _ (zqT t hd).1
   exact ⟨this.1,this.2.1⟩
  ·exact ⟨Int.le_refl 0,by show (0 : Int) ≤ 1114111;omega⟩
 split
 ·unfold zpa
  split
  ·have h1:=zfy 65535 (by omega) zaH (wn t) zkz
   have h2:=look_pos zaH (wn t) (by decide +kernel)
   exact ⟨h2,by show zdL zaH (wn t) ≤ _;omega⟩
  ·exact ⟨Int.le_refl 0,by show (0 : Int) ≤ 1114111;omega⟩
 ·have key : ∀ l : List Nat,0 ≤ (shL a t l).1 ∧ (shL a t l).1 ≤ 1114111:=by
   intro l
   induction l with
   | nil=>exact ⟨Int.le_refl 0,by show (0 : Int) ≤ 1114111;omega⟩
   | cons k r ih =>
    rw [shL]
    split
    ·unfold shP
     split
     ·exact ⟨Int.le_refl 0,by show (0 : Int) ≤ 1114111;omega⟩
     ·have h1:=zfy 65535 (by omega) zbj (t.take k) zkA
      have h2:=look_pos zbj (t.take k) (by decide +kernel)
      exact ⟨h2,by show zdL zbj (t.take k) ≤ _;omega⟩
    ·exact ih
  exact key _
theorem nx_bd (a : Bool) (l : List UInt8) : 0 ≤ (nx a l).1 ∧ (nx a l).1 ≤ 1114111:=by
 cases l with
 | nil=>exact ⟨Int.le_refl 0,by show (0 : Int) ≤ 1114111;omega⟩
 | cons c t =>
  rw [zho]
  by_cases hc : c = 38 ∧ (next a t).2 ≠ 0
  ·rw [if_pos hc]
   exact zrE a t
  ·rw [if_neg hc]
   exact ⟨Int.le_refl 0,by show (0 : Int) ≤ 1114111;omega⟩
end Rf
namespace Tk
open Asc
structure Tok where
 kind : Nat
 name : List UInt8
 attrs : List (List UInt8 × List UInt8)
 self : Bool
 text : List UInt8
def zero : Tok:=⟨0,[],[],false,[]⟩
def zlp (c : UInt8) : Bool:=Rf.letZ (bt c)
def tn (c : UInt8) : Bool:=!zbn c && c != 47 && c != 62
def an (c : UInt8) : Bool:=tn c && c != 61
def vn (c : UInt8) : Bool:=!zbn c && c != 62
def isQ (c : UInt8) : Bool:=c == 34 || c == 39
def zey (l : List UInt8) : List UInt8:=l.take 1 ++ (l.drop 1).takeWhile an
def zd0 (l : List UInt8) : List UInt8:=(l.drop 1).dropWhile an
def eqR (l : List UInt8) : Option (List UInt8) :=
 match l.dropWhile zbn with
 | []=>none
 | c :: r=>if c = 61 then some (r.dropWhile zbn) else none
def zcs : List UInt8 → List UInt8
 | []=>[]
 | q :: t=>if isQ q then t.takeWhile (· != q) else (q :: t).takeWhile vn
def zkB : List UInt8 → List UInt8
 | []=>[]
 | q :: t=>if isQ q then (t.dropWhile (· != q)).drop 1 else (q :: t).dropWhile vn
def zet (l : List UInt8) : (List UInt8 × List UInt8) × List UInt8 :=
 match eqR (zd0 l) with
 | none=>((zbJ (zey l),[]),zd0 l)
 | some r=>((zbJ (zey l),Rf.dec true (zcs r)),zkB r)
def has (as : List (List UInt8 × List UInt8)) (n : List UInt8) : Bool:=as.any fun a=>a.1 == n
def add (as : List (List UInt8 × List UInt8)) (a : List UInt8 × List UInt8) : List (List UInt8 × List UInt8):=if has as a.1 = false ∧ as.length < 64 then as ++ [a] else as
theorem zbH (p : UInt8 → Bool) (l : List UInt8) : (l.dropWhile p).length ≤ l.length:=by
 have:=congrArg List.length (List.takeWhile_append_dropWhile (p:=p) (l:=l))
 rw [List.length_append] at this
 omega
theorem zpo (l : List UInt8) (h : l ≠ []) : (zd0 l).length + 1 ≤ l.length:=by
 unfold zd0
 have:=zbH an (l.drop 1)
 rw [List.length_drop] at this
 have : 1 ≤ l.length:=by cases l <;> simp at h ⊢
 omega
theorem zqV (l r : List UInt8) (h : eqR l = some r) : r.length + 1 ≤ l.length:=by
 unfold eqR at h
 have h1:=zbH zbn l
 split at h
 ·cases h
 ·rename_i c q e
  split at h
  ·cases h
   rw [e,List.length_cons] at h1
   have:=zbH zbn q
   omega
  ·cases h
theorem zrF (r : List UInt8) : (zkB r).length ≤ r.length:=by
 cases r with
 | nil=>exact Nat.le_refl _
 | cons q t =>
  rw [zkB]
  split
  ·have:=zbH (· != q) t
   rw [List.length_drop,List.length_cons]
   omega
  ·exact zbH vn _
theorem zjx (l : List UInt8) (h : l ≠ []) : (zet l).2.length + 1 ≤ l.length:=by
 have h1:=zpo l h
 unfold zet
 split
 ·exact h1
 ·rename_i r e
  have h2:=zqV _ r e
  have h3:=zrF r
  show (zkB r).length + 1 ≤ _
  omega
def tgF : Nat → List UInt8 → List (List UInt8 × List UInt8) → Bool → Option (List (List UInt8 × List UInt8) × Bool × List UInt8)
 | 0,_,_,_=>none
 | _ + 1,[],_,_=>none
 | f + 1,c :: t,as,sl=>if c = 62 then some (as,sl,t) else if c = 47 ∨ zbn c = true then tgF f t as (c == 47) else tgF f (zet (c :: t)).2 (add as (zet (c :: t)).1) false
def tg (l : List UInt8) (as : List (List UInt8 × List UInt8)) (sl : Bool) : Option (List (List UInt8 × List UInt8) × Bool × List UInt8):=tgF l.length l as sl
theorem zpp : ∀ (f : Nat) (l : List UInt8) (as : List (List UInt8 × List UInt8)) (sl : Bool),l.length ≤ f → tgF f l as sl = tg l as sl:=by
 intro f
 induction f using Nat.strongRecOn with
 | ind f ih =>
  intro l as sl h
  cases l with
  | nil=>cases f <;> rfl
  | cons c t =>
   cases f with
   | zero=>simp at h
   | succ f =>
    rw [List.length_cons] at h
    have ha:=zjx (c :: t) (by simp)
    rw [List.length_cons] at ha
    show tgF (f + 1) (c :: t) as sl = tgF (t.length + 1) (c :: t) as sl
    rw [tgF,tgF,ih f (by omega) t as (c == 47) (by omega),ih f (by omega) (zet (c :: t)).2 _ false (by omega)]
    by_cases ht : t.length < f + 1
    ·rw [ih t.length ht t as (c == 47) (Nat.le_refl _),ih t.length ht (zet (c :: t)).2 _ false (by omega)]
    ·omega
theorem tg_end (t : List UInt8) (as : List (List UInt8 × List UInt8)) (sl : Bool) : tg (62 :: t) as sl = some (as,sl,t):=rfl
theorem zkC (c : UInt8) (t : List UInt8) (as : List (List UInt8 × List UInt8)) (sl : Bool) (h62 : c ≠ 62) (h : c = 47 ∨ zbn c = true) : tg (c :: t) as sl = tg t as (c == 47):=by
 show tgF (t.length + 1) (c :: t) as sl = _
 rw [tgF,if_neg h62,if_pos h]
 rfl
theorem zjy (c : UInt8) (t : List UInt8) (as : List (List UInt8 × List UInt8)) (sl : Bool) (h : tn c = true) : tg (c :: t) as sl = tg (zet (c :: t)).2 (add as (zet (c :: t)).1) false:=by
 have ha:=zjx (c :: t) (by simp)
 rw [List.length_cons] at ha
 unfold tn at h
 simp only [Bool.and_eq_true,bne_iff_ne,Bool.not_eq_true',ne_eq] at h
 show tgF (t.length + 1) (c :: t) as sl = _
 rw [tgF,if_neg h.2,if_neg (by rintro (e | e);exact h.1.2 e;rw [h.1.1] at e;cases e)]
 exact zpp _ _ _ _ (by omega)
def tag (l : List UInt8) : Option (Tok × List UInt8) :=
 match tg (l.dropWhile tn) [] false with
 | none=>none
 | some (as,sl,r)=>some (⟨1,zbJ (l.takeWhile tn),as,sl,[]⟩,r)
theorem zmO : ∀ (f : Nat) (l : List UInt8) (as : List (List UInt8 × List UInt8)) (sl : Bool) (x : List (List UInt8 × List UInt8) × Bool × List UInt8),tgF f l as sl = some x → x.2.2.length + 1 ≤ l.length
 | 0,l,as,sl,x,h=>by cases h
 | f + 1,[],as,sl,x,h=>by cases h
 | f + 1,c :: t,as,sl,x,h=>by
  rw [tgF] at h
  split at h
  ·cases h;simp
  split at h
  ·have:=zmO f _ _ _ x h
   rw [List.length_cons];omega
  ·have:=zmO f _ _ _ x h
   have ha:=zjx (c :: t) (by simp)
   omega
theorem zqW (l : List UInt8) (k : Tok) (r : List UInt8) (h : tag l = some (k,r)) : r.length + 1 ≤ l.length:=by
 unfold tag at h
 split at h
 ·cases h
 ·rename_i as sl q e
  cases h
  have h1:=zmO _ _ _ _ _ e
  have h2:=zbH tn l
  simp only at h1
  omega
def zca : List UInt8 → Bool
 | 60 :: c :: _=>zlp c || c == 47 || c == 33 || c == 63
 | _=>false
def zhp : List UInt8 → Nat
 | []=>0
 | c :: t=>if zca (c :: t) then 0 else zhp t + 1
def fd (w : List UInt8) : List UInt8 → Nat
 | []=>0
 | c :: t=>if w.isPrefixOf (c :: t) then 0 else fd w t + 1
def zkD (w s : List UInt8) : Bool:=decide (w.length ≤ s.length) && zbJ (s.take w.length) == w
def zrG : List UInt8:=[60,33,100,111,99,116,121,112,101]
def zd1 : List UInt8 → Bool
 | []=>false
 | c :: _=>zlp c
def zb2 (x : List UInt8) : Tok:=⟨3,[],[],false,x⟩
def next (s : List UInt8) : Tok × Nat :=
 if s = [] then (zero,0)
 else if zca s = false then (zb2 (Rf.dec false (s.take (zhp s))),zhp s)
 else if zd1 (s.drop 1) = true then
  (match tag (s.drop 1) with
  | none=>(zero,s.length)
  | some (k,r)=>(k,s.length - r.length))
 else if (s.drop 1).head? = some 47 ∧ zd1 (s.drop 2) = true then
  (match tag (s.drop 2) with
  | none=>(zero,s.length)
  | some (k,r)=>(⟨2,k.name,[],false,[]⟩,s.length - r.length))
 else if zkD [60,33,45,45] s = true then (⟨4,[],[],false,(s.drop 4).take (fd [45,45,62] (s.drop 4))⟩,min (fd [45,45,62] (s.drop 4) + 7) s.length)
 else if zkD zrG s = true then (⟨5,[],[],false,[]⟩,min (fd [62] (s.drop 2) + 3) s.length)
 else (⟨4,[],[],false,(s.drop 2).take (fd [62] (s.drop 2))⟩,min (fd [62] (s.drop 2) + 3) s.length)
theorem zmP : ∀ s : List UInt8,zhp s ≤ s.length
 | []=>Nat.le_refl _
 | c :: t=>by
  rw [zhp]
  split
  ·exact Nat.zero_le _
  ·have:=zmP t
   rw [List.length_cons];omega
theorem zkE (s : List UInt8) (h : s ≠ []) (ht : zca s = false) : 1 ≤ zhp s:=by
 cases s with
 | nil=>exact absurd rfl h
 | cons c t=>rw [zhp,ht];simp
theorem zmQ (s : List UInt8) (h : zca s = true) : 2 ≤ s.length:=by
 match s,h with
 | a :: b :: t,_=>simp
 | [a],h=>simp [zca] at h
 | [],h=>simp [zca] at h
theorem zff (s : List UInt8) (h : s ≠ []) : 1 ≤ (next s).2 ∧ (next s).2 ≤ s.length ∧ (next s).1.kind ≤ 5 ∧ ((next s).1.kind = 0 → (next s).2 = s.length):=by
 have hl : 1 ≤ s.length:=by cases s <;> simp at h ⊢
 unfold next
 rw [if_neg h]
 by_cases ht : zca s = false
 ·rw [if_pos ht]
  exact ⟨zkE s h ht,zmP s,by show 3 ≤ 5;omega,fun e=>by cases e⟩
 rw [if_neg ht]
 have h2:=zmQ s (by simpa using ht)
 split
 ·split
  ·exact ⟨hl,Nat.le_refl _,Nat.zero_le _,fun _=>rfl⟩
  ·rename_i k r e
   have:=zqW _ k r e
   rw [List.length_drop] at this
   refine ⟨by show 1 ≤ s.length - r.length;omega,by show s.length - r.length ≤ _;omega,?_,?_⟩
   ·unfold tag at e
    split at e
    ·cases e
    ·cases e;show 1 ≤ 5;omega
   ·intro hk
    unfold tag at e
    split at e
    ·cases e
    ·cases e;cases hk
 split
 ·split
  ·exact ⟨hl,Nat.le_refl _,Nat.zero_le _,fun _=>rfl⟩
  ·rename_i k r e
   have:=zqW _ k r e
   rw [List.length_drop] at this
   exact ⟨by show 1 ≤ s.length - r.length;omega,by show s.length - r.length ≤ _;omega,by show 2 ≤ 5;omega,fun e=>by cases e⟩
 split
 ·exact ⟨by show 1 ≤ min _ _;omega,by show min _ _ ≤ _;omega,by show 4 ≤ 5;omega,fun e=>by cases e⟩
 split
 ·exact ⟨by show 1 ≤ min _ _;omega,by show min _ _ ≤ _;omega,by show 5 ≤ 5;omega,fun e=>by cases e⟩
 ·exact ⟨by show 1 ≤ min _ _;omega,by show min _ _ ≤ _;omega,by show 4 ≤ 5;omega,fun e=>by cases e⟩
def zd2 (a : List UInt8 × List UInt8) : List UInt8:=32 :: (a.1 ++ 61 :: 34 :: (Rf.enc true a.2 ++ [34]))
def zaP (as : List (List UInt8 × List UInt8)) (self : Bool) : List UInt8:=as.flatMap zd2 ++ (if self then [47,62] else [62])
def zaX (k : Tok) : List UInt8 :=
 if k.kind = 1 then 60 :: (k.name ++ zaP k.attrs k.self) else if k.kind = 2 then 60 :: 47 :: (k.name ++ [62]) else if k.kind = 3 then Rf.enc false k.text else []
def zmR (n : List UInt8) : Prop:=(∃ c m,n = c :: m ∧ tn c = true ∧ m.all an = true) ∧ zbJ n = n
def zgp (as : List (List UInt8 × List UInt8)) : Prop:=as.length ≤ 64 ∧ as.Pairwise (fun a b=>a.1 ≠ b.1) ∧ ∀ a ∈ as,zmR a.1
def zgq (n : List UInt8) : Prop:=(∃ c m,n = c :: m ∧ zlp c = true) ∧ n.all tn = true ∧ zbJ n = n
theorem zb3 (p : UInt8 → Bool) (a : List UInt8) (c : UInt8) (r : List UInt8) (h : a.all p = true) (hc : p c = false) : (a ++ c :: r).takeWhile p = a ∧ (a ++ c :: r).dropWhile p = c :: r:=by
 induction a with
 | nil =>
  rw [List.nil_append,List.takeWhile_cons,List.dropWhile_cons,hc]
  exact ⟨rfl,rfl⟩
 | cons x a ih =>
  rw [List.all_cons,Bool.and_eq_true] at h
  rw [List.cons_append,List.takeWhile_cons,List.dropWhile_cons,h.1,if_pos rfl,if_pos rfl,(ih h.2).1,(ih h.2).2]
  exact ⟨rfl,rfl⟩
theorem zpq (v : List UInt8) : (Rf.enc true v).all (· != 34) = true:=Rf.enc_clean true v
theorem zmS (n v R : List UInt8) (hn : zmR n) : zet (n ++ 61 :: 34 :: (Rf.enc true v ++ 34 :: R)) = ((n,v),R):=by
 obtain ⟨⟨c,m,rfl,hc,hm⟩,hl⟩:=hn
 have h1:=zb3 an m 61 (34 :: (Rf.enc true v ++ 34 :: R)) hm (by decide)
 have hN : zey (c :: m ++ 61 :: 34 :: (Rf.enc true v ++ 34 :: R)) = c :: m:=by
  show [c] ++ (m ++ 61 :: 34 :: (Rf.enc true v ++ 34 :: R)).takeWhile an = _
  rw [h1.1]
  rfl
 have hR : zd0 (c :: m ++ 61 :: 34 :: (Rf.enc true v ++ 34 :: R)) = 61 :: 34 :: (Rf.enc true v ++ 34 :: R):=h1.2
 have hE : eqR (61 :: 34 :: (Rf.enc true v ++ 34 :: R)) = some (34 :: (Rf.enc true v ++ 34 :: R)):=by
  unfold eqR
  rw [List.dropWhile_cons,show zbn 61 = false from by decide]
  simp only [Bool.false_eq_true,if_false,if_true]
  rw [List.dropWhile_cons,show zbn 34 = false from by decide]
  rfl
 have h2:=zb3 (· != 34) (Rf.enc true v) 34 R (zpq v) (by decide)
 unfold zet
 rw [hN,hR,hE,hl]
 show ((c :: m,Rf.dec true ((Rf.enc true v ++ 34 :: R).takeWhile (· != 34))),((Rf.enc true v ++ 34 :: R).dropWhile (· != 34)).drop 1) = _
 rw [h2.1,h2.2,Rf.back]
 rfl
theorem has_no (as : List (List UInt8 × List UInt8)) (n : List UInt8) (h : ∀ a ∈ as,a.1 ≠ n) : has as n = false:=by
 unfold has
 rw [List.any_eq_false]
 intro a ha
 simpa using h a ha
theorem zmT (as : List (List UInt8 × List UInt8)) (self : Bool) : ∃ c r,zaP as self = c :: r ∧ tn c = false:=by
 cases as with
 | nil =>
  cases self
  ·exact ⟨62,[],rfl,by decide⟩
  ·exact ⟨47,[62],rfl,by decide⟩
 | cons a as=>exact ⟨32,_,rfl,by decide⟩
theorem zrH (c : UInt8) (t : List UInt8) (h : zlp c = true) : zca (60 :: c :: t) = true:=by
 show (zlp c || c == 47 || c == 33 || c == 63) = true
 rw [h]
 rfl
def norm : List UInt8 → List UInt8
 | []=>[]
 | c :: t=>(if c = 13 then (if t.head? = some 10 then [] else [10]) else if c = 0 then [239,191,189] else [c]) ++ norm t
def zgn (s : List UInt8) : List UInt8:=norm (Utf.rep s)
theorem zkF : ∀ l : List UInt8,(norm l).length ≤ 3 * l.length
 | []=>Nat.le_refl _
 | c :: t=>by
  have:=zkF t
  rw [norm,List.length_append,List.length_cons]
  have h : (if c = 13 then (if t.head? = some 10 then [] else [10]) else if c = 0 then [239,191,189] else [c]).length ≤ 3:=by
   repeat' split
   all_goals simp
  omega
theorem clean_len (s : List UInt8) : (zgn s).length ≤ 9 * s.length:=by
 have h1:=zkF (Utf.rep s)
 have h2:=Utf.rep_len s
 unfold zgn
 omega
def rawNames : List (List UInt8):=[[115,99,114,105,112,116],[115,116,121,108,101],[116,101,120,116,97,114,101,97],[116,105,116,108,101]]
def zrI (n : List UInt8) : Bool:=n == [115,99,114,105,112,116] || n == [115,116,121,108,101] || n == [116,101,120,116,97,114,101,97] || n == [116,105,116,108,101]
def isDec (n : List UInt8) : Bool:=n == [116,101,120,116,97,114,101,97] || n == [116,105,116,108,101]
def endsIt : List UInt8 → Bool
 | []=>true
 | c :: _=>zbn c || c == 47 || c == 62
def zrJ (name s : List UInt8) : Bool:=zkD (60 :: 47 :: name) s && endsIt (s.drop (2 + name.length))
def zpr (name : List UInt8) : List UInt8 → Nat
 | []=>0
 | c :: t=>if zrJ name (c :: t) then 0 else zpr name t + 1
theorem zmU (name : List UInt8) : ∀ s : List UInt8,zpr name s ≤ s.length
 | []=>Nat.le_refl _
 | c :: t=>by
  rw [zpr]
  split
  ·exact Nat.zero_le _
  ·have:=zmU name t
   rw [List.length_cons];omega
def zbK (s : List UInt8) : List Tok × List UInt8 :=
 if (next s).1.kind = 1 ∧ zrI (next s).1.name = true then
  ((next s).1 :: (if zpr (next s).1.name (s.drop (next s).2) = 0 then [] else [zb2 (if isDec (next s).1.name = true then Rf.dec false ((s.drop (next s).2).take (zpr (next s).1.name (s.drop (next s).2))) else (s.drop (next s).2).take (zpr (next s).1.name (s.drop (next s).2)))]),(s.drop (next s).2).drop (zpr (next s).1.name (s.drop (next s).2)))
 else (if (next s).1.kind = 0 then [] else [(next s).1],s.drop (next s).2)
theorem zjz (s : List UInt8) (h : s ≠ []) : (zbK s).2.length + 1 ≤ s.length ∧ (zbK s).1.length + (zbK s).2.length ≤ s.length:=by
 obtain ⟨h1,h2,_,_⟩:=zff s h
 unfold zbK
 split
 ·have h3:=zmU (next s).1.name (s.drop (next s).2)
  rw [List.length_drop] at h3
  refine ⟨?_,?_⟩
  ·show ((s.drop (next s).2).drop _).length + 1 ≤ _
   rw [List.length_drop,List.length_drop];omega
  ·show (_ :: _).length + ((s.drop (next s).2).drop _).length ≤ _
   rw [List.length_drop,List.length_drop,List.length_cons]
   split
   ·rename_i e
    rw [e];simp;omega
   ·rename_i e
    simp only [List.length_singleton]
    omega
 ·refine ⟨?_,?_⟩
  ·show (s.drop (next s).2).length + 1 ≤ _
   rw [List.length_drop];omega
  ·show (if _ then _ else _ : List Tok).length + (s.drop (next s).2).length ≤ _
   rw [List.length_drop]
   split
   ·simp
   ·simp only [List.length_singleton];omega
def zqX : Nat → List UInt8 → List Tok
 | 0,_=>[]
 | f + 1,s=>if s = [] then [] else (zbK s).1 ++ zqX f (zbK s).2
def all (s : List UInt8) : List Tok:=zqX s.length s
theorem zmV : ∀ (f : Nat) (s : List UInt8),s.length ≤ f → zqX f s = all s:=by
 intro f
 induction f using Nat.strongRecOn with
 | ind f ih =>
  intro s h
  by_cases hs : s = []
  ·subst hs
   cases f <;> rfl
  ·have hp : 1 ≤ s.length:=by cases s <;> simp at hs ⊢
   have hl:=(zjz s hs).1
   obtain ⟨n,hn⟩ : ∃ n,s.length = n + 1:=⟨s.length - 1,by omega⟩
   cases f with
   | zero=>omega
   | succ f =>
    show zqX (f + 1) s = zqX s.length s
    rw [hn,zqX,zqX,if_neg hs,if_neg hs,ih f (by omega) _ (by omega)]
    by_cases he : n = f
    ·rw [he,ih f (by omega) _ (by omega)]
    ·rw [ih n (by omega) _ (by omega)]
theorem zmW : all [] = []:=rfl
theorem zdz (s : List UInt8) (h : s ≠ []) : all s = (zbK s).1 ++ all (zbK s).2:=by
 have hp : 1 ≤ s.length:=by cases s <;> simp at h ⊢
 obtain ⟨n,hn⟩ : ∃ n,s.length = n + 1:=⟨s.length - 1,by omega⟩
 have hl:=(zjz s h).1
 conv=>lhs;unfold all
 rw [hn,zqX,if_neg h,zmV n _ (by omega)]
theorem zmX {P : List UInt8 → Prop} (h0 : P []) (h1 : ∀ s,s ≠ [] → P (zbK s).2 → P s) (s : List UInt8) : P s:=by
 generalize hn : s.length = n
 induction n using Nat.strongRecOn generalizing s with
 | ind n ih =>
  by_cases h : s = []
  ·subst h;exact h0
  ·exact h1 s h (ih _ (by have:=(zjz s h).1;omega) _ rfl)
theorem zfg {P : UInt8 → Bool} (h : ∀ n : Fin 256,P (UInt8.ofNat n.val) = true) (c : UInt8) : P c = true:=by
 have:=h ⟨c.toNat,c.toNat_lt⟩
 simpa using this
theorem zqY (c : UInt8) (h : tn c = true) : tn (zbX c) = true:=by
 have:=zfg (P:=fun c=>!tn c || tn (zbX c)) (by decide +kernel) c
 simpa [h] using this
theorem an_low (c : UInt8) (h : an c = true) : an (zbX c) = true:=by
 have:=zfg (P:=fun c=>!an c || an (zbX c)) (by decide +kernel) c
 simpa [h] using this
theorem zmY (c : UInt8) (h : zlp c = true) : zlp (zbX c) = true ∧ tn c = true:=by
 have:=zfg (P:=fun c=>!zlp c || (zlp (zbX c) && tn c)) (by decide +kernel) c
 simpa [h] using this
theorem zic (p : UInt8 → Bool) (hp : ∀ c,p c = true → p (zbX c) = true) (l : List UInt8) (h : l.all p = true) : (zbJ l).all p = true:=by
 unfold zbJ
 rw [List.all_eq_true] at *
 intro x hx
 obtain ⟨c,hc,rfl⟩:=List.mem_map.1 hx
 exact hp c (h c hc)
theorem zmZ (l : List UInt8) : (zet l).1.1 = zbJ (zey l):=by
 unfold zet
 split <;> rfl
theorem zm0 (c : UInt8) (t : List UInt8) (h : tn c = true) : zmR (zet (c :: t)).1.1:=by
 rw [zmZ]
 refine ⟨⟨zbX c,zbJ (t.takeWhile an),rfl,zqY c h,zic an an_low _ (Rf.zb9 an t)⟩,zfs _⟩
theorem zrK (as : List (List UInt8 × List UInt8)) (n : List UInt8) (h : has as n = false) : ∀ a ∈ as,a.1 ≠ n:=by
 unfold has at h
 rw [List.any_eq_false] at h
 intro a ha
 simpa using h a ha
theorem zps (as : List (List UInt8 × List UInt8)) (a : List UInt8 × List UInt8) (h : zgp as) (ha : zmR a.1) : zgp (add as a):=by
 unfold add
 split
 ·rename_i hc
  refine ⟨by rw [List.length_append,List.length_singleton];omega,?_,?_⟩
  ·rw [List.pairwise_append]
   refine ⟨h.2.1,by simp,?_⟩
   intro x hx y hy
   rw [List.mem_singleton.1 hy]
   exact zrK as a.1 hc.1 x hx
  ·intro x hx
   rw [List.mem_append,List.mem_singleton] at hx
   rcases hx with hx | rfl
   ·exact h.2.2 x hx
   ·exact ha
 ·exact h
theorem zrL (c : UInt8) (h62 : c ≠ 62) (h : ¬ (c = 47 ∨ zbn c = true)) : tn c = true:=by
 unfold tn
 simp only [Bool.and_eq_true,bne_iff_ne,Bool.not_eq_true',ne_eq]
 refine ⟨⟨?_,fun e=>h (.inl e)⟩,h62⟩
 cases hb : zbn c
 ·rfl
 ·exact absurd (.inr hb) h
theorem zhq : ∀ (f : Nat) (l : List UInt8) (as : List (List UInt8 × List UInt8)) (sl : Bool) (x : List (List UInt8 × List UInt8) × Bool × List UInt8),zgp as → tgF f l as sl = some x → zgp x.1
 | 0,l,as,sl,x,hg,h=>by cases h
 | f + 1,[],as,sl,x,hg,h=>by cases h
 | f + 1,c :: t,as,sl,x,hg,h=>by
  rw [tgF] at h
  split at h
  ·cases h;exact hg
  rename_i h62
  split at h
  ·exact zhq f _ _ _ x hg h
  ·rename_i hn
   exact zhq f _ _ _ x (zps as _ hg (zm0 c t (zrL c h62 hn))) h
theorem zkG (l : List UInt8) (k : Tok) (r : List UInt8) (hl : zd1 l = true) (h : tag l = some (k,r)) : k.kind = 1 ∧ zgq k.name ∧ zgp k.attrs ∧ k.text = []:=by
 unfold tag at h
 split at h
 ·cases h
 ·rename_i as sl q e
  cases h
  refine ⟨rfl,⟨?_,zic tn zqY _ (Rf.zb9 tn l),zfs _⟩,zhq _ _ _ _ _ ⟨by simp,List.Pairwise.nil,by simp⟩ e,rfl⟩
  cases l with
  | nil=>cases hl
  | cons c t =>
   have hc : zlp c = true:=hl
   refine ⟨zbX c,zbJ (t.takeWhile tn),?_,(zmY c hc).1⟩
   show zbJ ((c :: t).takeWhile tn) = _
   rw [List.takeWhile_cons,(zmY c hc).2,if_pos rfl]
   rfl
def Fine (k : Tok) : Prop :=
 (k.kind = 1 ∧ zgq k.name ∧ zgp k.attrs ∧ k.text = []) ∨ (k.kind = 2 ∧ zgq k.name ∧ k.attrs = [] ∧ k.self = false ∧ k.text = []) ∨
 (k.kind = 3 ∧ k.name = [] ∧ k.attrs = [] ∧ k.self = false ∧ k.text ≠ []) ∨ ((k.kind = 4 ∨ k.kind = 5) ∧ k.name = [] ∧ k.attrs = [] ∧ k.self = false)
theorem zqZ (a : Bool) (l : List UInt8) (h : l ≠ []) : Rf.dec a l ≠ []:=by
 cases l with
 | nil=>exact absurd rfl h
 | cons c t =>
  by_cases hc : c = 38
  ·subst hc
   by_cases hn : (Rf.next a t).2 = 0
   ·rw [Rf.zkx a t hn];simp
   ·rw [Rf.zfe a t hn]
    exact Utf.zqM _ _
  ·rw [Rf.zfx a c t hc];simp
theorem zm1 (s : List UInt8) (n : Nat) (h : s ≠ []) (hn : 1 ≤ n) : s.take n ≠ []:=by
 intro e
 have:=congrArg List.length e
 have hp : 1 ≤ s.length:=by cases s <;> simp at h ⊢
 rw [List.length_take,List.length_nil] at this
 omega
theorem zid (s : List UInt8) (h : s ≠ []) (hk : (next s).1.kind ≠ 0) : Fine (next s).1:=by
 unfold next at *
 rw [if_neg h] at *
 by_cases ht : zca s = false
 ·rw [if_pos ht] at *
  exact .inr (.inr (.inl ⟨rfl,rfl,rfl,rfl,zqZ _ _ (zm1 s _ h (zkE s h ht))⟩))
 rw [if_neg ht] at *
 split at hk
 ·rename_i hl
  rw [if_pos hl]
  split at hk
  ·exact absurd rfl hk
  ·rename_i k r e
   exact .inl (zkG _ k r hl e)
 ·rename_i hl
  rw [if_neg hl]
  split at hk
  ·rename_i hm
   rw [if_pos hm]
   split at hk
   ·exact absurd rfl hk
   ·rename_i k r e
    exact .inr (.inl ⟨rfl,(zkG _ k r hm.2 e).2.1,rfl,rfl,rfl⟩)
  ·rename_i hm
   rw [if_neg hm]
   split
   ·exact .inr (.inr (.inr ⟨.inl rfl,rfl,rfl,rfl⟩))
   split
   ·exact .inr (.inr (.inr ⟨.inr rfl,rfl,rfl,rfl⟩))
   ·exact .inr (.inr (.inr ⟨.inl rfl,rfl,rfl,rfl⟩))
theorem zm2 (s : List UInt8) (h : s ≠ []) : ∀ k ∈ (zbK s).1,Fine k:=by
 intro k hk
 unfold zbK at hk
 split at hk
 ·rename_i hr
  have hf:=zid s h (by rw [hr.1];simp)
  rcases List.mem_cons.1 hk with rfl | hk
  ·exact hf
  ·split at hk
   ·cases hk
   ·rename_i he
    rw [List.mem_singleton] at hk
    subst hk
    have hne : (s.drop (next s).2).take (zpr (next s).1.name (s.drop (next s).2)) ≠ []:=by
     apply zm1 _ _ _ (by omega)
     intro e
     rw [e] at he
     exact he rfl
    refine .inr (.inr (.inl ⟨rfl,rfl,rfl,rfl,?_⟩))
    show (if _ then _ else _) ≠ []
    split
    ·exact zqZ _ _ hne
    ·exact hne
 ·split at hk
  ·cases hk
  ·rename_i h0
   rw [List.mem_singleton] at hk
   subst hk
   exact zid s h h0
theorem all_fine (s : List UInt8) : ∀ k ∈ all s,Fine k:=by
 refine zmX (P:=fun s=>∀ k ∈ all s,Fine k) (by rw [zmW];simp) ?_ s
 intro s h ih k hk
 rw [zdz s h,List.mem_append] at hk
 exact hk.elim (zm2 s h k) (ih k)
theorem zrM (l : List UInt8) : zey l ++ zd0 l = l:=by
 unfold zey zd0
 rw [List.append_assoc,List.takeWhile_append_dropWhile,List.take_append_drop]
theorem fd_at (w : List UInt8) : ∀ s : List UInt8,fd w s = s.length ∨ ∃ r,s.drop (fd w s) = w ++ r
 | []=>.inl rfl
 | c :: t=>by
  rw [fd]
  split
  ·rename_i h
   obtain ⟨r,hr⟩:=List.isPrefixOf_iff_prefix.1 h
   exact .inr ⟨r,hr.symm⟩
  ·rcases fd_at w t with h | ⟨r,h⟩
   ·left;rw [h];rfl
   ·right;exact ⟨r,h⟩
theorem tag_front (s : List UInt8) (h : zca s = true) : ∃ c t,s = 60 :: c :: t ∧ Rf.low c = true:=by
 unfold zca at h
 split at h
 ·rename_i c t
  refine ⟨c,t,rfl,?_⟩
  have:=zfg (P:=fun c=>!(zlp c || c == 47 || c == 33 || c == 63) || Rf.low c) (by decide +kernel) c
  rw [h] at this
  simpa using this
 ·cases h
theorem drop_min (s : List UInt8) (n : Nat) : s.drop (min n s.length) = s.drop n:=by
 by_cases h : n ≤ s.length
 ·rw [Nat.min_eq_left h]
 ·rw [Nat.min_eq_right (by omega),List.drop_length,List.drop_eq_nil_of_le (by omega)]
def Sz (N : Nat) (k : Tok) : Prop:=k.name.length ≤ N ∧ (∀ a ∈ k.attrs,a.1.length ≤ N ∧ a.2.length ≤ N) ∧ k.text.length ≤ N
theorem Sz.mono {N M : Nat} {k : Tok} (h : Sz N k) (hm : N ≤ M) : Sz M k:=⟨Nat.le_trans h.1 hm,fun a ha=>⟨Nat.le_trans (h.2.1 a ha).1 hm,Nat.le_trans (h.2.1 a ha).2 hm⟩,Nat.le_trans h.2.2 hm⟩
theorem zez (l : List UInt8) : (zbJ l).length = l.length:=by unfold zbJ;rw [List.length_map]
def wt (as : List (List UInt8 × List UInt8)) : Nat:=(as.map fun a=>a.1.length + a.2.length).sum
theorem zq0 : ∀ (as : List (List UInt8 × List UInt8)) (a : List UInt8 × List UInt8),a ∈ as → a.1.length + a.2.length ≤ wt as
 | [],a,h=>by cases h
 | b :: as,a,h=>by
  unfold wt
  rw [List.map_cons,List.sum_cons]
  rcases List.mem_cons.1 h with rfl | h
  ·omega
  ·have:=zq0 as a h
   unfold wt at this
   omega
theorem zrN (as : List (List UInt8 × List UInt8)) (a : List UInt8 × List UInt8) : wt (as ++ [a]) = wt as + (a.1.length + a.2.length):=by
 unfold wt
 rw [List.map_append,List.sum_append]
 simp
def Wz (N : Nat) (k : Tok) : Prop:=k.name.length + wt k.attrs + k.text.length ≤ N
theorem Wz.mono {N M : Nat} {k : Tok} (h : Wz N k) (hm : N ≤ M) : Wz M k:=Nat.le_trans h hm
theorem Wz.sz {N : Nat} {k : Tok} (h : Wz N k) : Sz N k:=by
 unfold Wz at h
 refine ⟨by omega,fun a ha=>?_,by omega⟩
 have:=zq0 _ a ha
 omega
theorem zrO (l : List UInt8) : (zet l).1.1.length + (zet l).1.2.length + (zet l).2.length ≤ l.length:=by
 have h0:=congrArg List.length (zrM l)
 rw [List.length_append] at h0
 unfold zet
 split
 ·show (zbJ (zey l)).length + 0 + (zd0 l).length ≤ _
  rw [zez]
  omega
 ·rename_i r e
  have h3:=zqV _ r e
  have h5:=Rf.dec_len true (zcs r)
  have h6 : (zcs r).length + (zkB r).length ≤ r.length:=by
   cases r with
   | nil=>exact Nat.le_refl _
   | cons q t =>
    rw [zcs,zkB]
    split
    ·have:=congrArg List.length (List.takeWhile_append_dropWhile (p:=(· != q)) (l:=t))
     rw [List.length_append] at this
     rw [List.length_drop,List.length_cons]
     omega
    ·have:=congrArg List.length (List.takeWhile_append_dropWhile (p:=vn) (l:=q :: t))
     rw [List.length_append] at this
     omega
  show (zbJ (zey l)).length + (Rf.dec true (zcs r)).length + (zkB r).length ≤ _
  rw [zez]
  omega
theorem zm3 : ∀ (f : Nat) (l : List UInt8) (as : List (List UInt8 × List UInt8)) (sl : Bool) (x : List (List UInt8 × List UInt8) × Bool × List UInt8),tgF f l as sl = some x → wt x.1 + x.2.2.length ≤ wt as + l.length
 | 0,l,as,sl,x,h=>by cases h
 | f + 1,[],as,sl,x,h=>by cases h
 | f + 1,c :: t,as,sl,x,h=>by
  rw [tgF] at h
  split at h
  ·cases h
   show wt as + t.length ≤ _
   rw [List.length_cons]
   omega
  split at h
  ·have:=zm3 f _ _ _ x h
   rw [List.length_cons]
   omega
  ·have ha:=zrO (c :: t)
   have:=zm3 f _ _ _ x h
   have h2 : wt (add as (zet (c :: t)).1) ≤ wt as + ((zet (c :: t)).1.1.length + (zet (c :: t)).1.2.length):=by
    unfold add
    split
    ·rw [zrN]
     exact Nat.le_refl _
    ·omega
   omega
theorem zkH (l : List UInt8) (k : Tok) (r : List UInt8) (h : tag l = some (k,r)) : Wz l.length k:=by
 unfold tag at h
 split at h
 ·cases h
 ·rename_i as sl q e
  cases h
  have h1:=zm3 _ _ _ _ _ e
  have h2:=congrArg List.length (List.takeWhile_append_dropWhile (p:=tn) (l:=l))
  rw [List.length_append] at h2
  simp only [wt,List.map_nil,List.sum_nil] at h1
  show (zbJ (l.takeWhile tn)).length + wt as + 0 ≤ _
  rw [zez]
  unfold wt
  omega
theorem zfz (N : Nat) : Wz N zero:=Nat.zero_le _
theorem zc3 (N : Nat) (k : Nat) (x : List UInt8) (h : x.length ≤ N) : Wz N ⟨k,[],[],false,x⟩:=by
 show 0 + 0 + x.length ≤ N
 omega
theorem zm4 (s : List UInt8) : Wz s.length (next s).1:=by
 unfold next
 split
 ·exact zfz _
 split
 ·refine zc3 _ _ _ ?_
  have:=Rf.dec_len false (s.take (zhp s))
  rw [List.length_take] at this
  omega
 split
 ·split
  ·exact zfz _
  ·rename_i k r e
   exact (zkH _ k r e).mono (by rw [List.length_drop];omega)
 split
 ·split
  ·exact zfz _
  ·rename_i k r e
   have:=(zkH _ k r e).mono (show (s.drop 2).length ≤ s.length by rw [List.length_drop];omega)
   show k.name.length + 0 + 0 ≤ _
   unfold Wz at this
   omega
 split
 ·refine zc3 _ _ _ ?_
  rw [List.length_take,List.length_drop];omega
 split
 ·exact zc3 _ _ _ (Nat.zero_le _)
 ·refine zc3 _ _ _ ?_
  rw [List.length_take,List.length_drop];omega
theorem zm5 (s : List UInt8) : (∀ k ∈ (zbK s).1,Wz s.length k) ∧ (zbK s).2.length ≤ s.length:=by
 have h1:=zm4 s
 unfold zbK
 split
 ·refine ⟨?_,?_⟩
  ·intro k hk
   rcases List.mem_cons.1 hk with rfl | hk
   ·exact h1
   ·split at hk
    ·cases hk
    ·rw [List.mem_singleton] at hk
     subst hk
     refine zc3 _ _ _ ?_
     have hd:=Rf.dec_len false ((s.drop (next s).2).take (zpr (next s).1.name (s.drop (next s).2)))
     split
     ·rw [List.length_take,List.length_drop] at hd
      omega
     ·rw [List.length_take,List.length_drop]
      omega
  ·show ((s.drop (next s).2).drop _).length ≤ _
   rw [List.length_drop,List.length_drop]
   omega
 ·refine ⟨?_,?_⟩
  ·intro k hk
   split at hk
   ·cases hk
   ·rw [List.mem_singleton] at hk
    subst hk
    exact h1
  ·show (s.drop (next s).2).length ≤ _
   rw [List.length_drop]
   omega
theorem all_size (s : List UInt8) : ∀ k ∈ all s,Wz s.length k:=by
 refine zmX (P:=fun s=>∀ k ∈ all s,Wz s.length k) (by rw [zmW];simp) ?_ s
 intro s h ih k hk
 rw [zdz s h,List.mem_append] at hk
 have hs:=zm5 s
 rcases hk with hk | hk
 ·exact hs.1 k hk
 ·exact (ih k hk).mono hs.2
theorem zpt : ∀ as : List (List UInt8 × List UInt8),(as.flatMap zd2).length ≤ 6 * wt as + 4 * as.length
 | []=>by simp
 | a :: as=>by
  have ih:=zpt as
  have he:=Rf.zrn true a.2
  rw [List.flatMap_cons,List.length_append,List.length_cons]
  have h1 : (zd2 a).length = a.1.length + (Rf.enc true a.2).length + 4:=by
   unfold zd2
   simp only [List.length_cons,List.length_append,List.length_nil]
   omega
  have h2 : wt (a :: as) = a.1.length + a.2.length + wt as:=by
   unfold wt
   rw [List.map_cons,List.sum_cons]
  omega
theorem fine_ats (k : Tok) (hf : Fine k) : k.attrs.length ≤ 64:=by
 rcases hf with ⟨_,_,h,_⟩ | ⟨_,_,h,_⟩ | ⟨_,_,h,_⟩ | ⟨_,_,h,_⟩
 ·exact h.1
 ·rw [h];exact Nat.zero_le _
 ·rw [h];exact Nat.zero_le _
 ·rw [h];exact Nat.zero_le _
end Tk
