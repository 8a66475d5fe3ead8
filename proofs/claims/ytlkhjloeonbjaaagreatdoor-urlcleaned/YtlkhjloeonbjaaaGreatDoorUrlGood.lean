/- Plain functions: what is parsed is a good URL; a good URL is parsed of its text. -/
import Derived.Test.YtlkhjloeonbjaaaGreatDoorUrlParse
namespace Url
open Go
theorem unmark_plain : ∀ l : List UInt8, (∀ c ∈ l, c ≠ 37) → Pct.unmark l = l
  | [], _ => Pct.unmark_nil
  | c :: r, h => by
    rw [Pct.unmark_go _ (by simp), Pct.first_other c r (h c (List.mem_cons_self ..))]
    show c :: Pct.unmark r = c :: r
    rw [unmark_plain r (fun x hx => h x (List.mem_cons_of_mem _ hx))]
/-- A URL as it is parsed. -/
structure Good (u : U) : Prop where
  sch : u.sch = http ∨ u.sch = https
  host : isName u.host = true
  port : 0 ≤ u.port ∧ u.port ≤ 65535 ∧ u.port ≠ own u.sch
  path : ∃ l, u.path = path l
  query : ∀ c ∈ u.query, Pct.stays freeQ c = true
  frag : ∀ c ∈ u.frag, Pct.stays freeF c = true
  noq : u.hq = false → u.query = []
  nof : u.hf = false → u.frag = []
  len : (str u).length ≤ 2048
theorem nameB_bytes {c : UInt8} (h : nameB c = true) : (97 ≤ c.toNat ∧ c.toNat ≤ 122) ∨ (48 ≤ c.toNat ∧ c.toNat ≤ 57) ∨ c.toNat = 45 ∨ c.toNat = 95 := by
  unfold nameB isDig at h
  simp only [Bool.or_eq_true, decide_eq_true_eq, beq_iff_eq] at h
  rcases h with ((h | h) | h) | h
  · exact .inl h
  · exact .inr (.inl h)
  · subst h; exact .inr (.inr (.inl rfl))
  · subst h; exact .inr (.inr (.inr rfl))
theorem name_bytes {h : List UInt8} (hn : isName h = true) : ∀ c ∈ h, nameB c = true ∨ c = 46 := by
  intro c hc
  unfold isName at hn
  simp only [Bool.and_eq_true] at hn
  have hl := List.all_eq_true.1 hn.2.1
  have hj := Asc.join_split 46 h
  rw [← hj] at hc
  rcases join_mem _ _ c hc with h1 | ⟨t, ht, hc⟩
  · exact .inr h1
  · have := hl t ht
    unfold isLabel at this
    simp only [Bool.and_eq_true] at this
    exact .inl (List.all_eq_true.1 this.1 c hc)
theorem name_ne {h : List UInt8} (hn : isName h = true) : h ≠ [] := by
  rintro rfl
  exact absurd hn (by decide)
theorem name_low {h : List UInt8} (hn : isName h = true) : ∀ c ∈ h, 45 ≤ c.toNat ∧ c.toNat ≤ 122 ∧ c.toNat ≠ 47 ∧ c.toNat ≠ 58 ∧ c.toNat ≠ 63 ∧ c.toNat ≠ 64 ∧ c.toNat ≠ 92 ∧ ¬ (65 ≤ c.toNat ∧ c.toNat ≤ 90) := by
  intro c hc
  rcases name_bytes hn c hc with h | rfl
  · have := nameB_bytes h
    omega
  · decide
theorem host_self {h : List UInt8} (hn : isName h = true) : hostT h = h := by
  have hb := name_low hn
  unfold hostT
  rw [unmark_plain h (fun c hc => by
    have := hb c hc
    rintro rfl
    simp at this)]
  unfold Asc.lower
  conv => rhs; rw [← List.map_id h]
  apply List.map_congr_left
  intro c hc
  have := hb c hc
  unfold Asc.lowerC
  rw [if_neg (by
    intro h
    have h1 : (65 : UInt8).toNat ≤ c.toNat := h.1
    have h2 : c.toNat ≤ (90 : UInt8).toNat := h.2
    have e1 : (65 : UInt8).toNat = 65 := rfl
    have e2 : (90 : UInt8).toNat = 90 := rfl
    omega)]
  rfl
theorem itoa_digits (n : Int) (h : 0 ≤ n) : Lib.itoa n = Lib.decDigits n.toNat ∧ Asc.allDig (Lib.itoa n) = true ∧ Lib.itoa n ≠ [] := by
  have e : Lib.itoa n = Lib.decDigits n.toNat := by
    rw [Lib.itoa, if_neg (by omega)]
  have := Asc.dec_facts n.toNat
  rw [e]
  exact ⟨rfl, this.1, this.2.2⟩
theorem itoa_byte (n : Int) (h : 0 ≤ n) : ∀ c ∈ Lib.itoa n, 48 ≤ c.toNat ∧ c.toNat ≤ 57 := by
  intro c hc
  have := List.all_eq_true.1 (itoa_digits n h).2.1 c hc
  unfold Asc.isDig Asc.bt at this
  have := of_decide_eq_true this
  omega
theorem itoa_read (n : Int) (h : 0 ≤ n) (h2 : n ≤ 65535) : Asc.numNum (Lib.itoa n) 65535 = n ∧ Asc.numErr (Lib.itoa n) 65535 = 0 := by
  have := Asc.read_digits 0 n.toNat 65535 (by omega)
  rw [List.replicate_zero, List.nil_append, ← (itoa_digits n h).1] at this
  exact ⟨by rw [this.1]; omega, this.2⟩
theorem stays_sign {more free : List UInt8} (hs : ∀ c, Pct.stays free c = !marks more c) {c : UInt8} (h : Pct.stays free c = true) : 33 ≤ c.toNat ∧ c.toNat ≤ 126 ∧ more.contains c = false := by
  rw [hs] at h
  have hm : marks more c = false := by simpa using h
  unfold marks at hm
  simp only [Bool.or_eq_false_iff, decide_eq_false_iff_not] at hm
  exact ⟨by omega, by omega, hm.2⟩
theorem path_signs (l : List UInt8) : ∀ c ∈ path l, 33 ≤ c.toNat ∧ c.toNat ≤ 126 ∧ c ≠ 63 ∧ c ≠ 35 := by
  intro c hc
  obtain ⟨h1, h2, h3⟩ := stays_sign stays_P (path_bytes l c hc).2
  refine ⟨h1, h2, ?_, ?_⟩
  · rintro rfl; exact absurd h3 (by decide)
  · rintro rfl; exact absurd h3 (by decide)
def portP (u : U) : List UInt8 := if u.port ≠ 0 then 58 :: Lib.itoa u.port else []
def queryP (u : U) : List UInt8 := if u.hq = true then 63 :: u.query else []
def fragP (u : U) : List UInt8 := if u.hf = true then 35 :: u.frag else []
theorem str_parts (u : U) : str u = u.sch ++ (58 :: ([47, 47] ++ ((u.host ++ portP u) ++ (u.path ++ (queryP u ++ fragP u))))) := by
  unfold str portP queryP fragP
  simp
/-- The bytes of a good URL's text. -/
theorem good_signs {u : U} (g : Good u) : ∀ c ∈ str u, 33 ≤ c.toNat ∧ c.toNat ≤ 126 := by
  intro c hc
  rw [str_parts] at hc
  simp only [List.mem_append, List.mem_cons] at hc
  rcases hc with hc | rfl | hc | (hc | hc) | hc | hc | hc
  · rcases g.sch with h | h
    · rw [h] at hc
      exact (by decide : ∀ c ∈ http, 33 ≤ c.toNat ∧ c.toNat ≤ 126) c hc
    · rw [h] at hc
      exact (by decide : ∀ c ∈ https, 33 ≤ c.toNat ∧ c.toNat ≤ 126) c hc
  · decide
  · rcases hc with rfl | rfl | hc
    · decide
    · decide
    · simp at hc
  · have := name_low g.host c hc
    omega
  · unfold portP at hc
    split at hc
    · rw [List.mem_cons] at hc
      rcases hc with rfl | hc
      · decide
      · have := itoa_byte u.port g.port.1 c hc
        omega
    · simp at hc
  · obtain ⟨l, hl⟩ := g.path
    rw [hl] at hc
    have := path_signs l c hc
    omega
  · unfold queryP at hc
    split at hc
    · rw [List.mem_cons] at hc
      rcases hc with rfl | hc
      · decide
      · have := stays_sign stays_Q (g.query c hc)
        omega
    · simp at hc
  · unfold fragP at hc
    split at hc
    · rw [List.mem_cons] at hc
      rcases hc with rfl | hc
      · decide
      · have := stays_sign stays_F (g.frag c hc)
        omega
    · simp at hc
theorem notin {e : List UInt8} {c : UInt8} (h : ∀ x ∈ e, c ≠ x) : e.contains c = false := by
  rw [Bool.eq_false_iff]
  intro hc
  exact h c (List.contains_iff_mem.1 hc) rfl
theorem byte_ne {c x : UInt8} (h : c.toNat ≠ x.toNat) : c ≠ x := fun e => h (by rw [e])
/-- The steps of the parse of a good URL's text. -/
theorem good_sch {u : U} (g : Good u) : upto [58] (str u) = u.sch ∧ rest [58] (str u) = 58 :: ([47, 47] ++ ((u.host ++ portP u) ++ (u.path ++ (queryP u ++ fragP u)))) := by
  rw [str_parts]
  refine upto_of [58] _ _ ?_ ?_
  · rcases g.sch with h | h
    · rw [h]; decide
    · rw [h]; decide
  · intro c hc
    simp only [List.head?_cons, Option.some.injEq] at hc
    subst hc
    decide
theorem good_schE {u : U} (g : Good u) : schE (str u) = 0 ∧ sch (str u) = u.sch ∧ schR (str u) = [47, 47] ++ ((u.host ++ portP u) ++ (u.path ++ (queryP u ++ fragP u))) := by
  obtain ⟨h1, h2⟩ := good_sch g
  have hs : sch (str u) = u.sch := by
    unfold sch
    rw [h1]
    rcases g.sch with h | h
    · rw [h]; decide
    · rw [h]; decide
  refine ⟨?_, hs, ?_⟩
  · unfold schE
    rw [hs, h2, if_pos, if_pos g.sch]
    refine ⟨by simp [hasB], ?_⟩
    rcases g.sch with h | h
    · rw [h]; decide
    · rw [h]; decide
  · unfold schR
    rw [h2]
    rfl
theorem unsl_two (h t : List UInt8) (hh : ∀ c, h.head? = some c → slash c = false) (hn : h ≠ []) : unsl ([47, 47] ++ (h ++ t)) = h ++ t := by
  unfold unsl
  show ((47 : UInt8) :: 47 :: (h ++ t)).dropWhile slash = h ++ t
  rw [List.dropWhile_cons_of_pos (by decide), List.dropWhile_cons_of_pos (by decide)]
  cases h with
  | nil => exact absurd rfl hn
  | cons a r => rw [List.cons_append, List.dropWhile_cons_of_neg (by rw [hh a rfl]; decide)]
theorem portP_bytes {u : U} (g : Good u) : ∀ c ∈ portP u, 48 ≤ c.toNat ∧ c.toNat ≤ 58 := by
  intro c hc
  unfold portP at hc
  split at hc
  · rw [List.mem_cons] at hc
    rcases hc with rfl | hc
    · decide
    · have := itoa_byte u.port g.port.1 c hc
      omega
  · simp at hc
theorem good_place {u : U} (g : Good u) : unsl (schR (str u)) = (u.host ++ portP u) ++ (u.path ++ (queryP u ++ fragP u)) ∧ place (schR (str u)) = u.host ++ portP u ∧ placeR (schR (str u)) = u.path ++ (queryP u ++ fragP u) := by
  have hr := (good_schE g).2.2
  have hn := name_ne g.host
  have hu : unsl (schR (str u)) = (u.host ++ portP u) ++ (u.path ++ (queryP u ++ fragP u)) := by
    rw [hr]
    refine unsl_two _ _ (fun c hc => ?_) (by simp [hn])
    have hm : c ∈ u.host := by
      cases hh : u.host with
      | nil => exact absurd hh hn
      | cons a r => rw [hh] at hc; simp at hc; subst hc; simp
    have := name_low g.host c hm
    unfold slash
    rw [beq_eq_false_iff_ne.2 (byte_ne (by show c.toNat ≠ 47; omega)), beq_eq_false_iff_ne.2 (byte_ne (by show c.toNat ≠ 92; omega))]
    rfl
  have hp : upto [47, 92, 63, 35] ((u.host ++ portP u) ++ (u.path ++ (queryP u ++ fragP u))) = u.host ++ portP u ∧ rest [47, 92, 63, 35] ((u.host ++ portP u) ++ (u.path ++ (queryP u ++ fragP u))) = u.path ++ (queryP u ++ fragP u) := by
    refine upto_of _ _ _ (fun c hc => ?_) (fun c hc => ?_)
    · rw [List.mem_append] at hc
      have hh : c.toNat ≠ 47 ∧ c.toNat ≠ 92 ∧ c.toNat ≠ 63 ∧ c.toNat ≠ 35 := by
        rcases hc with hc | hc
        · have := name_low g.host c hc; omega
        · have := portP_bytes g c hc; omega
      apply notin
      intro x hx
      simp only [List.mem_cons, List.not_mem_nil, or_false] at hx
      rcases hx with rfl | rfl | rfl | rfl
      · exact byte_ne hh.1
      · exact byte_ne hh.2.1
      · exact byte_ne hh.2.2.1
      · exact byte_ne hh.2.2.2
    · obtain ⟨l, hl⟩ := g.path
      rw [hl] at hc
      unfold path at hc
      rw [List.cons_append, List.head?_cons] at hc
      cases hc
      decide
  unfold place placeR
  rw [hu]
  exact ⟨rfl, hp⟩
theorem good_name {u : U} (g : Good u) : nameT (schR (str u)) = u.host ∧ portT (schR (str u)) = (portP u).drop 1 := by
  have hpl := (good_place g).2.1
  have : upto [58] (u.host ++ portP u) = u.host ∧ rest [58] (u.host ++ portP u) = portP u := by
    refine upto_of _ _ _ (fun c hc => ?_) (fun c hc => ?_)
    · have := name_low g.host c hc
      apply notin
      intro x hx
      simp only [List.mem_cons, List.not_mem_nil, or_false] at hx
      subst hx
      exact byte_ne (by show c.toNat ≠ 58; omega)
    · unfold portP at hc
      split at hc
      · simp only [List.head?_cons, Option.some.injEq] at hc
        subst hc
        decide
      · simp at hc
  unfold nameT portT
  rw [hpl, this.1, this.2]
  exact ⟨rfl, rfl⟩
theorem good_host {u : U} (g : Good u) : hostE u.host = 0 ∧ host u.host = u.host := by
  have hs := host_self g.host
  have h0 : hostE u.host = 0 := by
    unfold hostE
    rw [hs, if_neg (name_ne g.host), if_pos g.host]
  refine ⟨h0, ?_⟩
  unfold host
  rw [h0, if_pos rfl, hs]
theorem good_port {u : U} (g : Good u) : portE ((portP u).drop 1) = 0 ∧ port u.sch ((portP u).drop 1) = u.port := by
  unfold portP
  by_cases hp : u.port = 0
  · rw [if_neg (fun h => h hp)]
    refine ⟨if_pos (.inl rfl), ?_⟩
    rw [hp]
    exact if_pos rfl
  · rw [if_pos hp]
    show portE (Lib.itoa u.port) = 0 ∧ port u.sch (Lib.itoa u.port) = u.port
    obtain ⟨h1, h2⟩ := itoa_read u.port g.port.1 g.port.2.1
    refine ⟨if_pos (.inr h2), ?_⟩
    unfold port
    rw [if_neg (itoa_digits u.port g.port.1).2.2, h1, if_neg g.port.2.2]
theorem good_placeE {u : U} (g : Good u) : placeE (schR (str u)) = 0 := by
  obtain ⟨h1, h2, h3⟩ := good_place g
  obtain ⟨n1, n2⟩ := good_name g
  unfold placeE
  rw [h1, h2, n1, n2, (good_schE g).2.2, if_neg (by simp only [List.length_append, List.length_cons, List.length_nil]; omega), if_neg, if_neg (fun h => h (good_host g).1)]
  · exact (good_port g).1
  · intro hc
    have hm := List.contains_iff_mem.1 hc
    rw [List.mem_append] at hm
    rcases hm with hm | hm
    · have := name_low g.host _ hm
      simp at this
    · have := portP_bytes g _ hm
      simp at this
theorem good_tail {u : U} (g : Good u) (v : U) (h1 : v.sch = u.sch) (h2 : v.host = u.host) (h3 : v.port = u.port) : tail v (u.path ++ (queryP u ++ fragP u)) = u := by
  obtain ⟨l, hl⟩ := g.path
  have hu : upto [63, 35] (u.path ++ (queryP u ++ fragP u)) = u.path ∧ rest [63, 35] (u.path ++ (queryP u ++ fragP u)) = queryP u ++ fragP u := by
    refine upto_of _ _ _ (fun c hc => ?_) (fun c hc => ?_)
    · rw [hl] at hc
      have := path_signs l c hc
      apply notin
      intro x hx
      simp only [List.mem_cons, List.not_mem_nil, or_false] at hx
      rcases hx with rfl | rfl
      · exact this.2.2.1
      · exact this.2.2.2
    · unfold queryP fragP at hc
      split at hc
      · simp only [List.cons_append, List.head?_cons, Option.some.injEq] at hc
        subst hc
        decide
      · split at hc
        · simp only [List.nil_append, List.head?_cons, Option.some.injEq] at hc
          subst hc
          decide
        · simp at hc
  have hF : fragP u = [] ∨ ∃ f, fragP u = 35 :: f := by
    unfold fragP
    split
    · exact .inr ⟨_, rfl⟩
    · exact .inl rfl
  have hpath : path u.path = u.path := by rw [hl, path_path]
  have hq : hasB 63 (queryP u ++ fragP u) = u.hq ∧ behind (u.path ++ (queryP u ++ fragP u)) = fragP u ∧ (if hasB 63 (queryP u ++ fragP u) = true then Pct.mark freeQ (upto [35] ((queryP u ++ fragP u).drop 1)) else []) = u.query := by
    unfold behind
    rw [hu.2]
    cases hh : u.hq
    · have e : queryP u = [] := by unfold queryP; rw [hh]; rfl
      rw [e, List.nil_append]
      have hb : hasB 63 (fragP u) = false := by
        rcases hF with h | ⟨f, h⟩
        · rw [h]; rfl
        · rw [h]; rfl
      rw [hb]
      exact ⟨rfl, rfl, (g.noq hh).symm⟩
    · have e : queryP u = 63 :: u.query := by unfold queryP; rw [hh]; rfl
      rw [e]
      have hb : hasB 63 (63 :: u.query ++ fragP u) = true := by simp [hasB]
      have hd : (63 :: u.query ++ fragP u).drop 1 = u.query ++ fragP u := rfl
      have hx : upto [35] (u.query ++ fragP u) = u.query ∧ rest [35] (u.query ++ fragP u) = fragP u := by
        refine upto_of _ _ _ (fun c hc => ?_) (fun c hc => ?_)
        · have := (stays_sign stays_Q (g.query c hc)).2.2
          apply notin
          intro x hx
          simp only [List.mem_cons, List.not_mem_nil, or_false] at hx
          subst hx
          rintro rfl
          exact absurd this (by decide)
        · rcases hF with h | ⟨f, h⟩
          · rw [h] at hc; simp at hc
          · rw [h] at hc
            simp only [List.head?_cons, Option.some.injEq] at hc
            subst hc
            decide
      rw [hb, if_pos rfl, if_pos rfl, hd, hx.1, hx.2]
      exact ⟨rfl, rfl, mark_self _ _ g.query⟩
  have hf : hasB 35 (fragP u) = u.hf ∧ (if hasB 35 (fragP u) = true then Pct.mark freeF ((fragP u).drop 1) else []) = u.frag := by
    unfold fragP
    cases hh : u.hf
    · exact ⟨rfl, (g.nof hh).symm⟩
    · refine ⟨rfl, ?_⟩
      show Pct.mark freeF u.frag = u.frag
      exact mark_self _ _ g.frag
  unfold tail
  rw [hu.1, hu.2, hpath, hq.2.1, hq.2.2, hf.2, hq.1, hf.1, h1, h2, h3]
/-- A good URL is parsed of its text. -/
theorem good_parse {u : U} (g : Good u) : perr (str u) = 0 ∧ parse (str u) = u := by
  have hc : clean (str u) = str u := clean_high _ (fun c hc => by have := good_signs g c hc; omega)
  have hw : whole (str u) = u := by
    unfold whole
    rw [(good_place g).2.2]
    refine good_tail g _ ?_ ?_ ?_
    · exact (good_schE g).2.1
    · show host (nameT (schR (str u))) = u.host
      rw [(good_name g).1]
      exact (good_host g).2
    · show port (sch (str u)) (portT (schR (str u))) = u.port
      rw [(good_schE g).2.1, (good_name g).2]
      exact (good_port g).2
  have hp : perr (str u) = 0 := by
    have hl := g.len
    unfold perr
    rw [hc, if_neg (by omega), if_neg (fun h => h (good_schE g).1), if_neg (fun h => h (good_placeE g)), hw, if_neg (by omega)]
  refine ⟨hp, ?_⟩
  unfold parse
  rw [if_pos hp, hc, hw]
theorem good_may {u : U} (g : Good u) : may u = true := by
  obtain ⟨h1, h2⟩ := good_parse g
  unfold may
  rw [h1, h2, same_self]
  rfl
theorem good_bare {u : U} (g : Good u) : Good (bare u) := by
  refine ⟨g.sch, g.host, g.port, g.path, g.query, by simp [bare], g.noq, fun _ => rfl, ?_⟩
  have hl := g.len
  have e : str u = str (bare u) ++ fragP u := by
    have e1 : portP (bare u) = portP u := rfl
    have e2 : queryP (bare u) = queryP u := rfl
    have e3 : fragP (bare u) = [] := rfl
    rw [str_parts u, str_parts (bare u), e1, e2, e3]
    simp [bare]
  rw [e, List.length_append] at hl
  omega
theorem mark_stays_Q (l : List UInt8) : ∀ c ∈ Pct.mark freeQ l, Pct.stays freeQ c = true := mark_stay freeQ (by decide) l
theorem mark_stays_F (l : List UInt8) : ∀ c ∈ Pct.mark freeF l, Pct.stays freeF c = true := mark_stay freeF (by decide) l
theorem own_ne {s : List UInt8} (h : s = http ∨ s = https) : own s ≠ 0 := by
  rcases h with h | h
  · rw [h]; decide
  · rw [h]; decide
/-- What is parsed is a good URL. -/
theorem parse_good {l : List UInt8} (h : perr l = 0) : Good (parse l) := by
  unfold parse
  rw [if_pos h]
  generalize hc : clean l = c at h ⊢
  unfold perr at h
  rw [hc] at h
  by_cases h1 : 2048 < c.length
  · rw [if_pos h1] at h; omega
  rw [if_neg h1] at h
  by_cases h2 : schE c = 0
  · rw [if_neg (fun x => x h2)] at h
    by_cases h3 : placeE (schR c) = 0
    · rw [if_neg (fun x => x h3)] at h
      by_cases h4 : 2048 < (str (whole c)).length
      · rw [if_pos h4] at h; omega
      have hs : sch c = http ∨ sch c = https := by
        unfold schE at h2
        split at h2
        · split at h2
          · assumption
          · omega
        · omega
      have hpl : hostE (nameT (schR c)) = 0 ∧ portE (portT (schR c)) = 0 := by
        unfold placeE at h3
        split at h3
        · omega
        · split at h3
          · omega
          · split at h3
            · rename_i hx; exact absurd h3 hx
            · rename_i hx
              exact ⟨by simpa using hx, h3⟩
      have hh : isName (host (nameT (schR c))) = true := by
        unfold host
        rw [hpl.1, if_pos rfl]
        have := hpl.1
        unfold hostE at this
        split at this
        · omega
        · split at this
          · assumption
          · omega
      have hpo : 0 ≤ port (sch c) (portT (schR c)) ∧ port (sch c) (portT (schR c)) ≤ 65535 ∧ port (sch c) (portT (schR c)) ≠ own (sch c) := by
        have ho := own_ne hs
        have hp := hpl.2
        unfold port
        unfold portE at hp
        by_cases hd : portT (schR c) = []
        · rw [if_pos hd]
          exact ⟨by omega, by omega, fun e => ho e.symm⟩
        · rw [if_neg hd]
          have hn : Asc.numErr (portT (schR c)) 65535 = 0 := by
            by_cases hn : Asc.numErr (portT (schR c)) 65535 = 0
            · exact hn
            · rw [if_neg (fun x => x.elim hd hn)] at hp
              omega
          have hrb := Asc.read_back _ 65535 (by decide) hn
          split
          · exact ⟨by omega, by omega, fun e => ho e.symm⟩
          · rename_i hx
            exact ⟨hrb.1, hrb.2.1, hx⟩
      refine ⟨hs, hh, hpo, ⟨_, rfl⟩, ?_, ?_, ?_, ?_, by omega⟩
      · show ∀ c_1 ∈ (if hasB 63 (rest [63, 35] (placeR (schR c))) = true then Pct.mark freeQ (upto [35] ((rest [63, 35] (placeR (schR c))).drop 1)) else []), _
        intro x hx
        split at hx
        · exact mark_stays_Q _ x hx
        · simp at hx
      · show ∀ c_1 ∈ (if hasB 35 (behind (placeR (schR c))) = true then Pct.mark freeF ((behind (placeR (schR c))).drop 1) else []), _
        intro x hx
        split at hx
        · exact mark_stays_F _ x hx
        · simp at hx
      · intro hx
        have hx' : hasB 63 (rest [63, 35] (placeR (schR c))) = false := hx
        show (if hasB 63 (rest [63, 35] (placeR (schR c))) = true then Pct.mark freeQ (upto [35] ((rest [63, 35] (placeR (schR c))).drop 1)) else []) = []
        rw [hx']
        rfl
      · intro hx
        have hx' : hasB 35 (behind (placeR (schR c))) = false := hx
        show (if hasB 35 (behind (placeR (schR c))) = true then Pct.mark freeF ((behind (placeR (schR c))).drop 1) else []) = []
        rw [hx']
        rfl
    · rw [if_pos h3] at h
      exact absurd h h3
  · rw [if_pos h2] at h
    exact absurd h h2
/-- The probe. -/
def probe : List UInt8 := [72, 84, 84, 80, 58, 47, 47, 69, 120, 46, 111, 114, 103, 58, 56, 48, 47, 97, 47, 46, 47, 98, 47, 46, 46, 47, 99, 63, 120, 35, 121]
def probeU : U := ⟨http, [101, 120, 46, 111, 114, 103], 0, [47, 97, 47, 99], [120], [121], true, true⟩
theorem probe_host : hostT [69, 120, 46, 111, 114, 103] = [101, 120, 46, 111, 114, 103] := by
  unfold hostT
  rw [unmark_plain _ (by decide)]
  decide
theorem probe_yes : perr probe = 0 ∧ parse probe = probeU := by
  have hc : clean probe = probe := by decide +kernel
  have hE : schE probe = 0 := by decide +kernel
  have hR : schR probe = probe.drop 5 := by decide +kernel
  have hS : sch probe = http := by decide +kernel
  have hN : nameT (probe.drop 5) = [69, 120, 46, 111, 114, 103] := by decide +kernel
  have hP : portT (probe.drop 5) = [56, 48] := by decide +kernel
  have hT : placeR (probe.drop 5) = [47, 97, 47, 46, 47, 98, 47, 46, 46, 47, 99, 63, 120, 35, 121] := by decide +kernel
  have hh : hostE [69, 120, 46, 111, 114, 103] = 0 := by
    unfold hostE
    rw [probe_host]
    decide +kernel
  have hpl : placeE (probe.drop 5) = 0 := by
    unfold placeE
    rw [hN, hP, hh]
    decide +kernel
  have hw : whole probe = probeU := by
    unfold whole put
    rw [hR, hN, hP, hT, hS]
    unfold host
    rw [hh, if_pos rfl, probe_host]
    unfold tail
    have e1 : port http [56, 48] = 0 := by decide +kernel
    rw [e1]
    have e2 : upto [63, 35] [47, 97, 47, 46, 47, 98, 47, 46, 46, 47, 99, 63, 120, 35, 121] = [47, 97, 47, 46, 47, 98, 47, 46, 46, 47, 99] := by decide +kernel
    have e3 : rest [63, 35] [47, 97, 47, 46, 47, 98, 47, 46, 46, 47, 99, 63, 120, 35, 121] = [63, 120, 35, 121] := by decide +kernel
    have e4 : path [47, 97, 47, 46, 47, 98, 47, 46, 46, 47, 99] = [47, 97, 47, 99] := by decide +kernel
    have e5 : behind [47, 97, 47, 46, 47, 98, 47, 46, 46, 47, 99, 63, 120, 35, 121] = [35, 121] := by decide +kernel
    rw [e2, e3, e4, e5]
    rfl
  have hp : perr probe = 0 := by
    unfold perr
    rw [hc, hE, hR, hpl, hw]
    rfl
  refine ⟨hp, ?_⟩
  unfold parse
  rw [if_pos hp, hc, hw]
end Url
