/- Plain functions: names of hosts, URLs of texts, texts of URLs. -/
import Derived.Test.YtlkhjloeonbjaaaGreatDoorUrlPath
import Derived.Test.YtlkhjloeonbjaaaGreatDoorAscBack
import Derived.Lib.IndexAny
namespace Url
open Go
structure U where
  sch : List UInt8
  host : List UInt8
  port : Int
  path : List UInt8
  query : List UInt8
  frag : List UInt8
  hq : Bool
  hf : Bool
def zero : U := ⟨[], [], 0, [], [], [], false, false⟩
def http : List UInt8 := [104, 116, 116, 112]
def https : List UInt8 := [104, 116, 116, 112, 115]
def isLet (c : UInt8) : Bool := decide ((65 ≤ c.toNat ∧ c.toNat ≤ 90) ∨ (97 ≤ c.toNat ∧ c.toNat ≤ 122))
def isDig (c : UInt8) : Bool := decide (48 ≤ c.toNat ∧ c.toNat ≤ 57)
def schB (c : UInt8) : Bool := c == 43 || c == 45 || c == 46 || isLet c || isDig c
def isScheme (s : List UInt8) : Bool := s.all schB && (match s with | [] => false | c :: _ => isLet c)
/-- What stands ahead of the first byte of some; and from it on. -/
def upto (e l : List UInt8) : List UInt8 := l.takeWhile fun c => !e.contains c
def rest (e l : List UInt8) : List UInt8 := l.dropWhile fun c => !e.contains c
def hasB (b : UInt8) (l : List UInt8) : Bool := l.head? == some b
def nameB (c : UInt8) : Bool := decide (97 ≤ c.toNat ∧ c.toNat ≤ 122) || isDig c || c == 45 || c == 95
def isLabel (p : List UInt8) : Bool := p.all nameB && decide (1 ≤ p.length ∧ p.length ≤ 63)
def isByte (p : List UInt8) : Bool := decide (Asc.numErr p 255 = 0) && decide (Lib.itoa (Asc.numNum p 255) = p)
def isAddr (ps : List (List UInt8)) : Bool := ps.all isByte && decide (ps.length = 4)
def lastP (ps : List (List UInt8)) : List UInt8 := ps.getLast?.getD []
def isName (h : List UInt8) : Bool := decide (h.length ≤ 253) && ((Asc.split h 46).all isLabel && (!Asc.digForm (lastP (Asc.split h 46)) || isAddr (Asc.split h 46)))
def hostT (l : List UInt8) : List UInt8 := Asc.lower (Pct.unmark l)
def hostE (l : List UInt8) : Int := if hostT l = [] then 4 else if isName (hostT l) = true then 0 else 17
def host (l : List UInt8) : List UInt8 := if hostE l = 0 then hostT l else []
def own (s : List UInt8) : Int := if s = https then 443 else 80
def portE (d : List UInt8) : Int := if d = [] ∨ Asc.numErr d 65535 = 0 then 0 else 3
def port (s d : List UInt8) : Int := if d = [] then 0 else if Asc.numNum d 65535 = own s then 0 else Asc.numNum d 65535
def str (u : U) : List UInt8 :=
  u.sch ++ [58, 47, 47] ++ u.host ++ (if u.port ≠ 0 then 58 :: Lib.itoa u.port else []) ++ u.path ++ (if u.hq = true then 63 :: u.query else []) ++ (if u.hf = true then 35 :: u.frag else [])
/-- What is left behind the query. -/
def behind (l : List UInt8) : List UInt8 := if hasB 63 (rest [63, 35] l) = true then rest [35] ((rest [63, 35] l).drop 1) else rest [63, 35] l
def tail (u : U) (l : List UInt8) : U :=
  { sch := u.sch, host := u.host, port := u.port, path := path (upto [63, 35] l),
    query := if hasB 63 (rest [63, 35] l) = true then Pct.mark freeQ (upto [35] ((rest [63, 35] l).drop 1)) else [],
    frag := if hasB 35 (behind l) = true then Pct.mark freeF ((behind l).drop 1) else [],
    hq := hasB 63 (rest [63, 35] l), hf := hasB 35 (behind l) }
/-- The scheme of a text, its error, and what is left behind it. -/
def sch (c : List UInt8) : List UInt8 := Asc.lower (upto [58] c)
def schE (c : List UInt8) : Int := if hasB 58 (rest [58] c) = true ∧ isScheme (sch c) = true then (if sch c = http ∨ sch c = https then 0 else 16) else 3
def schR (c : List UInt8) : List UInt8 := (rest [58] c).drop 1
/-- The place behind it. -/
def unsl (r : List UInt8) : List UInt8 := r.dropWhile slash
def place (r : List UInt8) : List UInt8 := upto [47, 92, 63, 35] (unsl r)
def placeR (r : List UInt8) : List UInt8 := rest [47, 92, 63, 35] (unsl r)
def nameT (r : List UInt8) : List UInt8 := upto [58] (place r)
def portT (r : List UInt8) : List UInt8 := (rest [58] (place r)).drop 1
def placeE (r : List UInt8) : Int :=
  if (unsl r).length = r.length then 3 else if (place r).contains 64 = true then 3 else if hostE (nameT r) ≠ 0 then hostE (nameT r) else portE (portT r)
def put (s r : List UInt8) : U := { zero with sch := s, host := host (nameT r), port := port s (portT r) }
def whole (c : List UInt8) : U := tail (put (sch c) (schR c)) (placeR (schR c))
def perr (l : List UInt8) : Int :=
  if 2048 < (clean l).length then 5 else if schE (clean l) ≠ 0 then schE (clean l) else if placeE (schR (clean l)) ≠ 0 then placeE (schR (clean l)) else if 2048 < (str (whole (clean l))).length then 5 else 0
def parse (l : List UInt8) : U := if perr l = 0 then whole (clean l) else zero
def bare (u : U) : U := { u with frag := [], hf := false }
def origin (u : U) : List UInt8 := str { zero with sch := u.sch, host := u.host, port := u.port }
def same (a b : U) : Bool := a.sch == b.sch && a.host == b.host && a.port == b.port && a.path == b.path && a.query == b.query && a.frag == b.frag && a.hq == b.hq && a.hf == b.hf
def may (u : U) : Bool := decide (perr (str u) = 0) && same (parse (str u)) u
theorem same_iff (a b : U) : same a b = true ↔ a = b := by
  cases a; cases b
  simp only [same, Bool.and_eq_true, beq_iff_eq, U.mk.injEq]
  constructor
  · rintro ⟨⟨⟨⟨⟨⟨⟨h1, h2⟩, h3⟩, h4⟩, h5⟩, h6⟩, h7⟩, h8⟩; exact ⟨h1, h2, h3, h4, h5, h6, h7, h8⟩
  · rintro ⟨h1, h2, h3, h4, h5, h6, h7, h8⟩; exact ⟨⟨⟨⟨⟨⟨⟨h1, h2⟩, h3⟩, h4⟩, h5⟩, h6⟩, h7⟩, h8⟩
theorem same_self (a : U) : same a a = true := (same_iff a a).2 rfl
theorem upto_rest (e l : List UInt8) : upto e l ++ rest e l = l := List.takeWhile_append_dropWhile
theorem upto_not (e l : List UInt8) : ∀ c ∈ upto e l, e.contains c = false := by
  induction l with
  | nil => intro c hc; simp [upto] at hc
  | cons x t ih =>
    intro c hc
    unfold upto at ih hc
    rw [List.takeWhile_cons] at hc
    cases hx : e.contains x
    · rw [hx] at hc
      rw [if_pos (by rfl), List.mem_cons] at hc
      rcases hc with rfl | hc
      · exact hx
      · exact ih c hc
    · rw [hx] at hc
      simp at hc
theorem rest_head (e l : List UInt8) : ∀ c, (rest e l).head? = some c → e.contains c = true := by
  intro c h
  have := List.head?_dropWhile_not (fun c => !e.contains c) l
  unfold rest at h
  rw [h] at this
  simpa using this
theorem upto_of (e a b : List UInt8) (h : ∀ c ∈ a, e.contains c = false) (hb : ∀ c, b.head? = some c → e.contains c = true) : upto e (a ++ b) = a ∧ rest e (a ++ b) = b := by
  unfold upto rest
  induction a with
  | nil =>
    cases b with
    | nil => exact ⟨rfl, rfl⟩
    | cons x t =>
      have hx := hb x rfl
      simp only [List.nil_append, List.takeWhile_cons, List.dropWhile_cons, hx]
      simp
  | cons x t ih =>
    have hx := h x (List.mem_cons_self ..)
    have := ih (fun c hc => h c (List.mem_cons_of_mem _ hc))
    simp only [List.cons_append, List.takeWhile_cons, List.dropWhile_cons, hx, Bool.not_false, if_true, this]
    exact ⟨trivial, trivial⟩
theorem rest_len (e l : List UInt8) : (rest e l).length ≤ l.length := (List.dropWhile_sublist _).length_le
theorem upto_len (e l : List UInt8) : (upto e l).length ≤ l.length := (List.takeWhile_sublist _).length_le
/-- strings.IndexAny's number. -/
theorem index_cut (e : List UInt8) : ∀ l : List UInt8, (Lib.indexAny l e < 0 → upto e l = l ∧ rest e l = []) ∧ (0 ≤ Lib.indexAny l e → upto e l = l.take (Lib.indexAny l e).toNat ∧ rest e l = l.drop (Lib.indexAny l e).toNat ∧ Lib.indexAny l e < l.length)
  | [] => by simp [Lib.indexAny, upto, rest]
  | c :: l => by
    have ih := index_cut e l
    have hge := Lib.indexAny_ge e l
    unfold Lib.indexAny
    unfold upto rest at ih ⊢
    by_cases hc : e.contains c = true
    · rw [if_pos hc]
      simp only [List.takeWhile_cons, List.dropWhile_cons, hc]
      simp
    · have hc' : e.contains c = false := by simpa using hc
      rw [if_neg hc]
      simp only [List.takeWhile_cons, List.dropWhile_cons, hc', Bool.not_false, if_true]
      by_cases hm : Lib.indexAny l e = -1
      · have := ih.1 (by omega)
        rw [hm, this.1, this.2]
        refine ⟨fun _ => ⟨rfl, rfl⟩, fun h => ?_⟩
        rw [if_pos (by rfl)] at h
        omega
      · have hb : (Lib.indexAny l e == -1) = false := beq_eq_false_iff_ne.2 hm
        obtain ⟨h1, h2, h3⟩ := ih.2 (by omega)
        rw [hb]
        simp only [Bool.false_eq_true, if_false]
        refine ⟨fun h => by omega, fun _ => ?_⟩
        rw [show (Lib.indexAny l e + 1).toNat = (Lib.indexAny l e).toNat + 1 by omega, List.take_succ_cons, List.drop_succ_cons, h1, h2]
        refine ⟨rfl, rfl, ?_⟩
        simp only [List.length_cons]
        omega
end Url
