/- Texts laid as one. -/
import Derived.Test.YtiodaahncadodaaGreatDoorKTreM
/- What is written of a tree that a document gave is parsed as that tree again: over trees that keep what a document's keep (Rp). -/
set_option linter.unusedVariables false
set_option linter.unusedSimpArgs false
namespace Tre
/-! ### the nodes ahead of a place -/
def trunc (ns : List Nd) (j : Nat) : List Nd := (List.range j).map fun u => { ndAt ns u with kids := kidsTo ns u j }
theorem trunc_len (ns : List Nd) (j : Nat) : (trunc ns j).length = j := by simp [trunc]
theorem trunc_at (ns : List Nd) {j u : Nat} (h : u < j) : ndAt (trunc ns j) u = { ndAt ns u with kids := kidsTo ns u j } := by
  apply ndAt_some
  unfold trunc
  rw [List.getElem?_map, List.getElem?_range h]
  rfl
theorem nd_ext {a b : List Nd} (hl : a.length = b.length) (h : ∀ i, i < a.length → ndAt a i = ndAt b i) : a = b := by
  apply List.ext_getElem?
  intro i
  by_cases hi : i < a.length
  · rw [ndAt_get hi, ndAt_get (by omega), h i hi]
  · rw [List.getElem?_eq_none (by omega), List.getElem?_eq_none (by omega)]
theorem trunc_all {ns : List Nd} (h : mayB ns = true) : trunc ns ns.length = ns := by
  refine nd_ext (trunc_len _ _) (fun i hi => ?_)
  rw [trunc_len] at hi
  rw [trunc_at ns hi, ← may_kids h hi]
/-! ### the nodes from the Root to one -/
def pathF (ns : List Nd) : Nat → Nat → List Nat
  | 0, _ => [0]
  | f + 1, i => if i = 0 then [0] else pathF ns f (ndAt ns i).up.toNat ++ [i]
def path (ns : List Nd) (i : Nat) : List Nat := pathF ns i i
def Ups (ns : List Nd) : Prop := ∀ i, i < ns.length → i ≠ 0 → 0 ≤ (ndAt ns i).up ∧ (ndAt ns i).up < (i : Int)
theorem pathF_fuel {ns : List Nd} (h : Ups ns) : ∀ f i, i < ns.length → i ≤ f → pathF ns f i = path ns i := by
  intro f
  induction f using Nat.strongRecOn with
  | ind f ih =>
    intro i hi hf
    cases f with
    | zero =>
      have : i = 0 := by omega
      subst this
      rfl
    | succ f =>
      by_cases h0 : i = 0
      · subst h0
        rfl
      · obtain ⟨h1, h2⟩ := h i hi h0
        obtain ⟨j, hj⟩ : ∃ j, i = j + 1 := ⟨i - 1, by omega⟩
        have e2 : path ns i = pathF ns j (ndAt ns i).up.toNat ++ [i] := by
          unfold path
          conv => lhs; rw [hj, pathF, if_neg (by omega), ← hj]
        rw [pathF, if_neg h0, e2, ih f (by omega) _ (by omega) (by omega)]
        by_cases hjf : j < f + 1
        · rw [ih j hjf _ (by omega) (by omega)]
        · omega
theorem path_zero (ns : List Nd) : path ns 0 = [0] := rfl
theorem path_up {ns : List Nd} (h : Ups ns) {i : Nat} (hi : i < ns.length) (h0 : i ≠ 0) : path ns i = path ns (ndAt ns i).up.toNat ++ [i] := by
  obtain ⟨h1, h2⟩ := h i hi h0
  obtain ⟨j, hj⟩ : ∃ j, i = j + 1 := ⟨i - 1, by omega⟩
  have e2 : path ns i = pathF ns j (ndAt ns i).up.toNat ++ [i] := by
    unfold path
    conv => lhs; rw [hj, pathF, if_neg (by omega), ← hj]
  rw [e2, pathF_fuel h j _ (by omega) (by omega)]
theorem path_last {ns : List Nd} (h : Ups ns) {i : Nat} (hi : i < ns.length) : (path ns i).getLastD 0 = i := by
  by_cases h0 : i = 0
  · subst h0
    rfl
  · rw [path_up h hi h0, List.getLastD_eq_getLast?, List.getLast?_append]
    rfl
theorem path_len {ns : List Nd} (h : Ups ns) : ∀ i, i < ns.length → (path ns i).length = dep ns i + 1 := by
  intro i
  induction i using Nat.strongRecOn with
  | ind i ih =>
    intro hi
    by_cases h0 : i = 0
    · subst h0
      rfl
    · obtain ⟨h1, h2⟩ := h i hi h0
      rw [path_up h hi h0, List.length_append, ih _ (by omega) (by omega), dep_up h hi h0]
      rfl
theorem path_in {ns : List Nd} (h : Ups ns) : ∀ i, i < ns.length → ∀ x ∈ path ns i, x ≤ i := by
  intro i
  induction i using Nat.strongRecOn with
  | ind i ih =>
    intro hi x hx
    by_cases h0 : i = 0
    · subst h0
      rw [path_zero, List.mem_singleton] at hx
      omega
    · obtain ⟨h1, h2⟩ := h i hi h0
      rw [path_up h hi h0, List.mem_append, List.mem_singleton] at hx
      rcases hx with hx | rfl
      · have := ih _ (by omega) (by omega) x hx
        omega
      · exact Nat.le_refl _
/-! ### what a document's trees keep -/
/-- A text that stands as it is ahead of the end tag of a name. -/
def RawX (n x : Bs) : Prop := ∀ R, Tk.ends n (x ++ Tk.tagText ⟨2, n, [], false, []⟩ ++ R) = x.length
structure Rp (ns : List Nd) : Prop where
  may : mayB ns = true
  pre : ∀ i j, i < ns.length → i ≠ 0 → (ndAt ns i).up.toNat < j → j < i → dep ns i ≤ dep ns j
  dp : ∀ i, i < ns.length → dep ns i ≤ 64
  sh : ∀ i, i < ns.length → i ≠ 0 → (ndAt ns i).kind = 2 → shutN ns (path ns (ndAt ns i).up.toNat) (closes (ndAt ns i).name).1 ((closes (ndAt ns i).name).2 ++ [body, html]) (path ns (ndAt ns i).up.toNat).length = (path ns (ndAt ns i).up.toNat).length
  un : ∀ i j, i < j → j < ns.length → (ndAt ns i).kind = 2 → (ndAt ns j).kind = 2 → isHB (ndAt ns j).name = true → (ndAt ns i).name ≠ (ndAt ns j).name
  ad : ∀ j, j < ns.length → (ndAt ns j).kind = 3 → ∀ k : Int, (kidsTo ns (ndAt ns j).up.toNat j).getLast? = some k → (ndAt ns k.toNat).kind ≠ 3
  vd : ∀ i, i < ns.length → i ≠ 0 → isVoid (ndAt ns (ndAt ns i).up.toNat).name = false
  nm : ∀ i, i < ns.length → (ndAt ns i).kind = 2 → Tk.goodT (ndAt ns i).name ∧ Tk.goodA (ndAt ns i).attrs
  rw : ∀ i, i < ns.length → (ndAt ns i).kind = 2 → Tk.isRaw (ndAt ns i).name = true → (ndAt ns i).kids = [] ∨ ∃ t : Nat, (ndAt ns i).kids = [(t : Int)] ∧ (ndAt ns t).kind = 3 ∧ (Tk.isDec (ndAt ns i).name = false → RawX (ndAt ns i).name (ndAt ns t).text)
section
variable {ns : List Nd}
theorem Rp.ups (h : Rp ns) : Ups ns := fun i hi h0 => may_up h.may hi h0
theorem Rp.kind (h : Rp ns) {i : Nat} (hi : i < ns.length) (h0 : i ≠ 0) : ((ndAt ns i).kind = 2 ∧ (ndAt ns i).text = []) ∨ ((ndAt ns i).kind = 3 ∧ (ndAt ns i).text ≠ [] ∧ (ndAt ns i).name = [] ∧ (ndAt ns i).attrs = []) := by
  have hs := may_shape h.may hi
  unfold shapeB at hs
  rw [if_neg h0, Bool.and_eq_true, Bool.or_eq_true] at hs
  rcases hs.2 with he | ht
  · unfold elemB at he
    simp only [Bool.and_eq_true, beq_iff_eq] at he
    exact .inl ⟨he.1, he.2.2.2⟩
  · unfold textB at ht
    simp only [Bool.and_eq_true, beq_iff_eq, Bool.not_eq_true', beq_eq_false_iff_ne] at ht
    exact .inr ⟨ht.1, ht.2.2.2, ht.2.1, List.length_eq_zero_iff.1 ht.2.2.1⟩
theorem Rp.depUp (h : Rp ns) {i : Nat} (hi : i < ns.length) (h0 : i ≠ 0) : dep ns i = dep ns (ndAt ns i).up.toNat + 1 := dep_up h.ups hi h0
theorem Rp.pos (h : Rp ns) {i : Nat} (hi : i < ns.length) (h0 : i ≠ 0) : (ndAt ns i).up.toNat < i ∧ (ndAt ns i).up = ((ndAt ns i).up.toNat : Int) := by
  have := h.ups i hi h0
  omega
/-- At a place behind i, up to which all is deeper than i, and that is no deeper than i's own: it lies in i. -/
theorem Rp.kidAt (h : Rp ns) {i j : Nat} (hij : i < j) (hj : j < ns.length) (hd : dep ns j = dep ns i + 1) (hk : ∀ k, i < k → k < j → dep ns i < dep ns k) : (ndAt ns j).up.toNat = i := by
  have h0 : j ≠ 0 := by omega
  have h1 := h.pos hj h0
  have h2 := h.depUp hj h0
  rcases Nat.lt_trichotomy (ndAt ns j).up.toNat i with hlt | he | hgt
  · have := h.pre j i hj h0 hlt hij
    omega
  · exact he
  · have := hk _ hgt h1.1
    omega
theorem Rp.next (h : Rp ns) {i : Nat} (hi : i + 1 < ns.length) : dep ns (i + 1) ≤ dep ns i + 1 := by
  have h1 := h.pos hi (by omega)
  have h2 := h.depUp hi (by omega)
  by_cases he : (ndAt ns (i + 1)).up.toNat = i
  · rw [he] at h2
    omega
  · have := h.pre (i + 1) i hi (by omega) (by omega) (by omega)
    omega
/-! ### a node's kids from a place on, written -/
def sub (ns : List Nd) (i j : Nat) : Bs := ((List.range' j (ns.length - j)).filter (fun k => (ndAt ns k).up == (i : Int))).flatMap (nodeT ns)
theorem sub_out (i j : Nat) (hj : ns.length ≤ j) : sub ns i j = [] := by
  unfold sub
  rw [show ns.length - j = 0 from by omega]
  rfl
theorem sub_at (i j : Nat) (hj : j < ns.length) : sub ns i j = (if (ndAt ns j).up = (i : Int) then nodeT ns j else []) ++ sub ns i (j + 1) := by
  unfold sub
  rw [show ns.length - j = (ns.length - (j + 1)) + 1 from by omega, List.range'_succ, List.filter_cons]
  by_cases h : (ndAt ns j).up = (i : Int)
  · rw [if_pos h, if_pos (by simpa using h), List.flatMap_cons]
  · rw [if_neg h, if_neg (by simpa using h)]
    rfl
/-- Past what doesn't lie in i. -/
theorem sub_skip (i : Nat) : ∀ m j, (∀ k, j ≤ k → k < j + m → k < ns.length → (ndAt ns k).up ≠ (i : Int)) → sub ns i j = sub ns i (j + m)
  | 0, j, _ => rfl
  | m + 1, j, h => by
    by_cases hj : j < ns.length
    · rw [sub_at i j hj, if_neg (h j (Nat.le_refl _) (by omega) hj), List.nil_append, sub_skip i m (j + 1) (fun k h1 h2 => h k (by omega) (by omega)), show j + 1 + m = j + (m + 1) from by omega]
    · rw [sub_out i j (by omega), sub_out i (j + (m + 1)) (by omega)]
theorem kidsTo_range (u : Nat) : ∀ n, kidsTo ns u n = ((List.range n).filter (fun k => (ndAt ns k).up == (u : Int))).map (fun k : Nat => (k : Int))
  | 0 => rfl
  | n + 1 => by
    rw [kidsTo, kidsTo_range u n, List.range_succ, List.filter_append, List.map_append]
    by_cases h : (ndAt ns n).up = (u : Int)
    · rw [if_pos h]
      simp [h]
    · rw [if_neg h]
      simp [h]
theorem inner_sub (h : Rp ns) {i : Nat} (hi : i < ns.length) : innerT ns i = sub ns i (i + 1) := by
  have h0 : innerT ns i = sub ns i 0 := by
    unfold innerT sub
    rw [may_kids h.may hi, kidsTo_range, List.flatMap_map, List.range_eq_range', Nat.sub_zero]
    apply flatMap_congr'
    intro k hk
    rw [show ((k : Int)).toNat = k from by omega]
  rw [h0]
  have := sub_skip (ns := ns) i (i + 1) 0 (fun k _ hk hkn e => by
    by_cases hk0 : k = 0
    · subst hk0
      have hs := may_shape h.may hkn
      unfold shapeB rootB at hs
      simp only [if_true, Bool.and_eq_true, beq_iff_eq] at hs
      rw [hs.2.1] at e
      omega
    · have := (h.ups k hkn hk0).2
      omega)
  rw [Nat.zero_add] at this
  exact this
/-! ### tokens with more behind -/
theorem tag_ne (k : Tk.Tok) (h : k.kind = 1 ∨ k.kind = 2) : ∃ c t, Tk.tagText k = 60 :: c :: t ∧ (k.kind = 2 → c = 47) ∧ (k.kind = 1 → Tk.goodT k.name → Tk.letB c = true) := by
  rcases h with h | h
  · by_cases hn : ∃ c m, k.name = c :: m ∧ Tk.letB c = true
    · obtain ⟨c, m, e, hc⟩ := hn
      refine ⟨c, m ++ Tk.tailText k.attrs k.self, by unfold Tk.tagText; rw [if_pos h, e]; rfl, fun h2 => by omega, fun _ _ => hc⟩
    · obtain ⟨c, r, e, _⟩ := Tk.tail_head k.attrs k.self
      cases hk : k.name with
      | nil => exact ⟨c, r, by unfold Tk.tagText; rw [if_pos h, hk, e]; rfl, fun h2 => by omega, fun _ hg => absurd (by rw [hk]; exact hg.1) hn⟩
      | cons d m => exact ⟨d, m ++ Tk.tailText k.attrs k.self, by unfold Tk.tagText; rw [if_pos h, hk]; rfl, fun h2 => by omega, fun _ hg => absurd (by rw [hk]; exact hg.1) hn⟩
  · refine ⟨47, _, by unfold Tk.tagText; rw [if_neg (by omega), if_pos h], fun _ => rfl, fun h2 => by omega⟩
theorem all_start (n : Nd) (X : Bs) (hn : Tk.goodT n.name) (ha : Tk.goodA n.attrs) (hr : Tk.isRaw n.name = false) : Tk.all (Tk.tagText (startTok n) ++ X) = startTok n :: Tk.all X := by
  have hx := Tk.more_start (startTok n) X rfl rfl hn ha
  obtain ⟨c, t, e, _⟩ := tag_ne (startTok n) (.inl rfl)
  rw [Tk.all_go _ (by rw [e]; simp)]
  unfold Tk.stepT
  rw [hx]
  simp only
  rw [if_neg (by rw [show (startTok n).name = n.name from rfl, hr]; simp), if_neg (by show ¬ (1 : Nat) = 0; decide), List.drop_left]
  rfl
theorem all_end (n : Nd) (X : Bs) (hn : Tk.goodT n.name) : Tk.all (Tk.tagText (endTok n) ++ X) = endTok n :: Tk.all X := by
  have hx := Tk.more_end (endTok n) X rfl rfl rfl rfl hn
  obtain ⟨c, t, e, _⟩ := tag_ne (endTok n) (.inr rfl)
  rw [Tk.all_go _ (by rw [e]; simp)]
  unfold Tk.stepT
  rw [hx]
  simp only
  rw [if_neg (fun h => by cases h.1), if_neg (by show ¬ (2 : Nat) = 0; decide), List.drop_left]
  rfl
theorem all_text (x X : Bs) (hx : x ≠ []) (hX : X = [] ∨ Tk.isTag X = true) : Tk.all (Rf.enc false x ++ X) = Tk.textTok x :: Tk.all X := by
  have hm := Tk.more_text x X hx hX
  rw [Tk.all_go _ (by simp [Tk.enc_ne x hx])]
  unfold Tk.stepT
  rw [hm]
  simp only
  rw [if_neg (fun h => by cases h.1), if_neg (by show ¬ (3 : Nat) = 0; decide), List.drop_left]
  rfl
theorem all_raw (n : Nd) (X : Bs) (hn : Tk.goodT n.name) (ha : Tk.goodA n.attrs) (hr : Tk.isRaw n.name = true) (x Y : Bs) (hX : X = x ++ Y) (he : Tk.ends n.name X = x.length) :
    Tk.all (Tk.tagText (startTok n) ++ X) = startTok n :: ((if x = [] then [] else [Tk.textTok (if Tk.isDec n.name = true then Rf.dec false x else x)]) ++ Tk.all Y) := by
  have hx := Tk.more_start (startTok n) X rfl rfl hn ha
  obtain ⟨c, t, e, _⟩ := tag_ne (startTok n) (.inl rfl)
  rw [Tk.all_go _ (by rw [e]; simp)]
  unfold Tk.stepT
  rw [hx]
  simp only
  rw [if_pos ⟨rfl, hr⟩, List.drop_left, show (startTok n).name = n.name from rfl, he, hX, List.take_left, List.drop_left]
  simp only [List.cons_append, List.length_eq_zero_iff]
theorem isTag_start (n : Nd) (X : Bs) (hn : Tk.goodT n.name) : Tk.isTag (Tk.tagText (startTok n) ++ X) = true := by
  obtain ⟨c, t, e, _, h⟩ := tag_ne (startTok n) (.inl rfl)
  rw [e]
  exact Tk.let_tag c _ (h rfl hn)
theorem isTag_end (n : Nd) (X : Bs) : Tk.isTag (Tk.tagText (endTok n) ++ X) = true := by
  obtain ⟨c, t, e, h, _⟩ := tag_ne (endTok n) (.inr rfl)
  rw [e, h rfl]
  show (Tk.letB 47 || (47 : UInt8) == 47 || (47 : UInt8) == 33 || (47 : UInt8) == 63) = true
  decide
/-! ### the builder over the nodes, one behind the other -/
theorem path_pos (h : Rp ns) {i : Nat} (hi : i < ns.length) : 1 ≤ (path ns i).length := by
  rw [path_len h.ups i hi]
  omega
theorem top_path (h : Rp ns) {i : Nat} (hi : i < ns.length) (l : List Nd) : top ⟨l, path ns i⟩ = i := path_last h.ups hi
theorem kidsTo_new (h : Rp ns) (j : Nat) (hj : j < ns.length) : kidsTo ns j (j + 1) = [] := by
  have : ∀ n, n ≤ j + 1 → kidsTo ns j n = [] := by
    intro n
    induction n with
    | zero => intro _; rfl
    | succ n ih =>
      intro hn
      rw [kidsTo, ih (by omega), if_neg]
      · rfl
      · intro e
        by_cases h0 : n = 0
        · subst h0
          have hs := may_shape h.may (i := 0) (by omega)
          unfold shapeB rootB at hs
          simp only [if_true, Bool.and_eq_true, beq_iff_eq] at hs
          rw [hs.2.1] at e
          omega
        · have := (h.ups n (by omega) h0).2
          omega
  exact this _ (Nat.le_refl _)
theorem trunc_lay (h : Rp ns) {j : Nat} (hj : j < ns.length) (h0 : j ≠ 0) (n : Nd) (hn : { n with up := (ndAt ns j).up, kids := [] } = { ndAt ns j with kids := [] }) (hnk : n.kids = []) :
    lay ⟨trunc ns j, path ns (ndAt ns j).up.toNat⟩ n = .ok ⟨trunc ns (j + 1), path ns (ndAt ns j).up.toNat⟩ := by
  have hp := h.pos hj h0
  have hl := ((mayB_iff ns).1 h.may).1.2
  have hpl := path_len h.ups (ndAt ns j).up.toNat (by omega)
  have hdj := h.depUp hj h0
  have hd := h.dp j hj
  have ht := top_path h (i := (ndAt ns j).up.toNat) (by omega) (trunc ns j)
  unfold lay
  rw [if_neg (by rw [trunc_len]; omega), if_neg (by show ¬ 64 < (path ns _).length; omega), ht]
  congr 2
  refine nd_ext (by simp [trunc_len]) (fun i hi => ?_)
  have hi2 : i < j + 1 := by simpa [trunc_len] using hi
  rw [ndAt_append, List.length_modify, trunc_len, trunc_at ns hi2]
  by_cases hij : i < j
  · rw [if_pos hij, ndAt_modify _ _ _ _ (by rw [trunc_len]; omega), trunc_at ns hij, kidsTo]
    by_cases he : (ndAt ns j).up.toNat = i
    · rw [if_pos he, if_pos (by omega)]
    · rw [if_neg he, if_neg (by omega), List.append_nil]
  · have : i = j := by omega
    subst this
    rw [if_neg (by omega), if_pos rfl, kidsTo_new h i hj, ← hn, ← hp.2]
    cases n
    simp only at hnk
    subst hnk
    rfl
theorem shutN_names {a b : List Nd} {op : List Nat} (names walls : List Bs) (hn : ∀ x ∈ op, (ndAt a x).name = (ndAt b x).name) : ∀ k, k ≤ op.length → shutN a op names walls k = shutN b op names walls k
  | 0, _ => rfl
  | 1, _ => rfl
  | k + 2, hk => by
    have hx : (ndAt a ((op[k + 1]?).getD 0)).name = (ndAt b ((op[k + 1]?).getD 0)).name := by
      rw [List.getElem?_eq_getElem (by omega)]
      exact hn _ (List.getElem_mem _)
    rw [shutN, shutN, hx, shutN_names names walls hn (k + 1) (by omega)]
theorem trunc_start (h : Rp ns) {j : Nat} (hj : j < ns.length) (h0 : j ≠ 0) (hk : (ndAt ns j).kind = 2) :
    step ⟨trunc ns j, path ns (ndAt ns j).up.toNat⟩ (startTok (ndAt ns j)) = .ok ⟨trunc ns (j + 1), if isVoid (ndAt ns j).name = true then path ns (ndAt ns j).up.toNat else path ns j⟩ := by
  have hp := h.pos hj h0
  have hf : firstN (trunc ns j) (ndAt ns j).name = none := by
    unfold firstN
    by_cases hb : isHB (ndAt ns j).name = true
    · rw [if_pos hb]
      cases hf : findN (trunc ns j) (ndAt ns j).name with
      | none => rfl
      | some i =>
        obtain ⟨h1, h2, h3⟩ := findN_is hf
        rw [trunc_len] at h1
        rw [trunc_at ns h1] at h2 h3
        exact absurd h3 (h.un i j h1 hj h2 hk hb)
    · rw [if_neg hb]
  have hs : shut ⟨trunc ns j, path ns (ndAt ns j).up.toNat⟩ (closes (ndAt ns j).name).1 ((closes (ndAt ns j).name).2 ++ [body, html]) = ⟨trunc ns j, path ns (ndAt ns j).up.toNat⟩ := by
    unfold shut
    simp only
    rw [shutN_names (b := ns) _ _ (fun x hx => by
      have := path_in h.ups _ (by omega) x hx
      rw [trunc_at ns (by omega)]) _ (Nat.le_refl _), h.sh j hj h0 hk, List.take_length]
  have hkind := h.kind hj h0
  have hl := trunc_lay h hj h0 ⟨2, (ndAt ns j).name, (ndAt ns j).attrs, [], 0, []⟩ (by
    rcases hkind with ⟨h1, h2⟩ | ⟨h1, _⟩
    · apply Nd.ext' <;> simp [h1, h2]
    · omega) rfl
  unfold step
  rw [if_pos (show (startTok (ndAt ns j)).kind = 1 from rfl)]
  unfold startT
  rw [show (startTok (ndAt ns j)).name = (ndAt ns j).name from rfl, show (startTok (ndAt ns j)).attrs = (ndAt ns j).attrs from rfl, show (St.mk (trunc ns j) (path ns (ndAt ns j).up.toNat)).nodes = trunc ns j from rfl, hf]
  simp only
  rw [hs, hl]
  simp only
  by_cases hv : isVoid (ndAt ns j).name = true
  · rw [if_pos hv, if_pos hv]
  · rw [if_neg hv, if_neg hv, trunc_len, ← path_up h.ups hj h0]
theorem trunc_text (h : Rp ns) {j : Nat} (hj : j < ns.length) (h0 : j ≠ 0) (hk : (ndAt ns j).kind = 3) :
    step ⟨trunc ns j, path ns (ndAt ns j).up.toNat⟩ (Tk.textTok (ndAt ns j).text) = .ok ⟨trunc ns (j + 1), path ns (ndAt ns j).up.toNat⟩ := by
  have hp := h.pos hj h0
  have ht := top_path h (i := (ndAt ns j).up.toNat) (by omega) (trunc ns j)
  have hkind := h.kind hj h0
  have hl := trunc_lay h hj h0 ⟨3, [], [], (ndAt ns j).text, 0, []⟩ (by
    rcases hkind with ⟨h1, _⟩ | ⟨h1, _, h3, h4⟩
    · omega
    · apply Nd.ext' <;> simp [h1, h3, h4]) rfl
  unfold step
  rw [if_neg (by show ¬ (3 : Nat) = 1; decide), if_neg (by show ¬ (3 : Nat) = 2; decide), if_pos (show (Tk.textTok (ndAt ns j).text).kind = 3 from rfl)]
  unfold textT
  rw [ht, show (St.mk (trunc ns j) (path ns (ndAt ns j).up.toNat)).nodes = trunc ns j from rfl, trunc_at ns (by omega)]
  show (match (kidsTo ns (ndAt ns j).up.toNat j).getLast? with
    | some i => _
    | none => _) = _
  cases hg : (kidsTo ns (ndAt ns j).up.toNat j).getLast? with
  | none => exact hl
  | some k =>
    obtain ⟨i, e1, e2, _⟩ := kidsTo_mem ns _ k _ (List.mem_of_getLast? hg)
    have ha := h.ad j hj hk k hg
    simp only
    rw [trunc_at ns (by omega)]
    simp only
    rw [if_neg ha]
    exact hl
theorem trunc_end (h : Rp ns) {j e : Nat} (hj : j < ns.length) (h0 : j ≠ 0) (he : j < e) :
    step ⟨trunc ns e, path ns j⟩ (endTok (ndAt ns j)) = .ok ⟨trunc ns e, path ns (ndAt ns j).up.toNat⟩ := by
  have hp := path_up h.ups hj h0
  have hpp := path_pos h (i := (ndAt ns j).up.toNat) (by have := h.pos hj h0; omega)
  unfold step
  rw [if_neg (by show ¬ (2 : Nat) = 1; decide), if_pos (show (endTok (ndAt ns j)).kind = 2 from rfl)]
  unfold endT shut
  simp only
  have hs : shutN (trunc ns e) (path ns j) [(endTok (ndAt ns j)).name] (endW (endTok (ndAt ns j)).name) (path ns j).length = (path ns (ndAt ns j).up.toNat).length := by
    obtain ⟨m, hm⟩ : ∃ m, (path ns (ndAt ns j).up.toNat).length = m + 1 := ⟨_, (Nat.sub_add_cancel hpp).symm⟩
    have hl : (path ns j).length = m + 2 := by rw [hp, List.length_append, hm]; rfl
    have hg : (path ns j)[m + 1]? = some j := by
      rw [hp, List.getElem?_append_right (by omega), hm]
      simp
    rw [hl, shutN, hg, hm, if_pos]
    show List.contains [(ndAt ns j).name] (ndAt (trunc ns e) j).name = true
    rw [trunc_at ns he]
    simp
  rw [hs, hp, List.take_left]
end
end Tre
/- What is written of a tree that a document gave is parsed as that tree again: node by node. -/
set_option linter.unusedVariables false
set_option linter.unusedSimpArgs false
namespace Tre
section
variable {ns : List Nd}
theorem build_cons {k : Tk.Tok} {ks : List Tk.Tok} {b b2 : St} (h : step b k = .ok b2) : build (k :: ks) b = build ks b2 := by rw [build, h]
theorem Rp.upKind (h : Rp ns) {i : Nat} (hi : i < ns.length) (h0 : i ≠ 0) : (ndAt ns (ndAt ns i).up.toNat).kind ≠ 3 := by
  have hs := may_shape h.may hi
  unfold shapeB liesB at hs
  rw [if_neg h0] at hs
  simp only [Bool.and_eq_true, decide_eq_true_eq, Bool.not_eq_true', beq_eq_false_iff_ne] at hs
  exact hs.1.2.2
theorem Rp.kidMem (h : Rp ns) {i k : Nat} (hi : i < ns.length) (hk : k < ns.length) (h0 : k ≠ 0) (hu : (ndAt ns k).up.toNat = i) : (k : Int) ∈ (ndAt ns i).kids := by
  have hp := h.pos hk h0
  rw [may_kids h.may hi, kidsTo_range, List.mem_map]
  refine ⟨k, ?_, rfl⟩
  rw [List.mem_filter, List.mem_range]
  refine ⟨hk, ?_⟩
  rw [hp.2, hu]
  simp
theorem sub_none (h : Rp ns) {i j : Nat} (hij : i < j) (hd : j = ns.length ∨ j < ns.length ∧ dep ns j ≤ dep ns i) : sub ns i j = [] := by
  rcases hd with rfl | ⟨hj, hd⟩
  · exact sub_out _ _ (Nat.le_refl _)
  · rw [sub_skip i (ns.length - j) j (fun k h1 h2 hk hu => ?_)]
    · exact sub_out _ _ (by omega)
    · have h0 : k ≠ 0 := by omega
      have hp := h.pos hk h0
      have hdk := h.depUp hk h0
      have hui : (ndAt ns k).up.toNat = i := by omega
      rw [hui] at hdk
      by_cases e : k = j
      · subst e
        omega
      · have := h.pre k j hk h0 (by omega) (by omega)
        omega
/-- What a node's text does. -/
def NodeOk (ns : List Nd) (j : Nat) : Prop :=
  ∃ e, j < e ∧ e ≤ ns.length ∧ (e = ns.length ∨ e < ns.length ∧ dep ns e ≤ dep ns j) ∧ (∀ k, j < k → k < e → dep ns j < dep ns k) ∧ ((ndAt ns j).kind = 3 → e = j + 1) ∧
    ∀ R, ((ndAt ns j).kind = 3 → R = [] ∨ Tk.isTag R = true) → build (Tk.all (nodeT ns j ++ R)) ⟨trunc ns j, path ns (ndAt ns j).up.toNat⟩ = build (Tk.all R) ⟨trunc ns e, path ns (ndAt ns j).up.toNat⟩ ∧ (Tk.all (nodeT ns j ++ R)).length ≤ 2 * (e - j) + (Tk.all R).length
theorem kids_end (h : Rp ns) {i j : Nat} (hj : j < ns.length) (hij : i < j) (hu : (ndAt ns j).up.toNat = i) : (kidsTo ns i (j + 1)).getLast? = some (j : Int) := by
  have hp := h.pos hj (by omega)
  rw [kidsTo, if_pos (by omega), List.getLast?_append]
  rfl
theorem run_sub (h : Rp ns) {i : Nat} (hi : i < ns.length) (N : ∀ j, i < j → j < ns.length → (ndAt ns j).up.toNat = i → NodeOk ns j) :
    ∀ m j, ns.length - j ≤ m → i < j → j ≤ ns.length → (j = ns.length ∨ j < ns.length ∧ dep ns j ≤ dep ns i + 1) → (∀ k, i < k → k < j → dep ns i < dep ns k) →
      ∃ e, j ≤ e ∧ e ≤ ns.length ∧ (e = ns.length ∨ e < ns.length ∧ dep ns e ≤ dep ns i) ∧ (∀ k, i < k → k < e → dep ns i < dep ns k) ∧
        ∀ R, (R = [] ∨ Tk.isTag R = true) → build (Tk.all (sub ns i j ++ R)) ⟨trunc ns j, path ns i⟩ = build (Tk.all R) ⟨trunc ns e, path ns i⟩ ∧ (Tk.all (sub ns i j ++ R)).length ≤ 2 * (e - j) + (Tk.all R).length := by
  intro m
  induction m with
  | zero =>
    intro j hm hij hj hb hk
    have : j = ns.length := by omega
    subst this
    exact ⟨_, Nat.le_refl _, Nat.le_refl _, .inl rfl, hk, fun R _ => by rw [sub_out _ _ (Nat.le_refl _)]; exact ⟨rfl, by rw [List.nil_append]; omega⟩⟩
  | succ m ih =>
    intro j hm hij hj hb hk
    by_cases hlast : j = ns.length ∨ j < ns.length ∧ dep ns j ≤ dep ns i
    · exact ⟨j, Nat.le_refl _, hj, hlast, hk, fun R _ => by rw [sub_none h hij hlast]; exact ⟨rfl, by rw [List.nil_append]; omega⟩⟩
    · have hjl : j < ns.length := by omega
      have hd : dep ns j = dep ns i + 1 := by omega
      have hu := h.kidAt hij hjl hd hk
      obtain ⟨e, he1, he2, he3, he4, he5, he6⟩ := N j hij hjl hu
      rw [hu] at he6
      have hk2 : ∀ k, i < k → k < e → dep ns i < dep ns k := fun k h1 h2 => by
        rcases Nat.lt_trichotomy k j with hlt | rfl | hgt
        · exact hk k h1 hlt
        · omega
        · have := he4 k hgt h2
          omega
      obtain ⟨f, hf1, hf2, hf3, hf4, hf5⟩ := ih e (by omega) (by omega) he2 (by omega) hk2
      refine ⟨f, by omega, hf2, hf3, hf4, fun R hR => ?_⟩
      have hp := h.pos hjl (by omega)
      have hskip : sub ns i (j + 1) = sub ns i e := by
        have := sub_skip (ns := ns) i (e - (j + 1)) (j + 1) (fun k h1 h2 hkl hu2 => by
          have h3 := he4 k (by omega) (by omega)
          have h4 := h.depUp hkl (by omega)
          rw [show (ndAt ns k).up.toNat = i from by omega] at h4
          omega)
        rw [this, show j + 1 + (e - (j + 1)) = e from by omega]
      have hcond : (ndAt ns j).kind = 3 → sub ns i e ++ R = [] ∨ Tk.isTag (sub ns i e ++ R) = true := fun h3 => ?_
      · have g6 := he6 (sub ns i e ++ R) hcond
        have g5 := hf5 R hR
        rw [sub_at i j hjl, if_pos (by omega), hskip, List.append_assoc]
        exact ⟨g6.1.trans g5.1, by have := g6.2; have := g5.2; omega⟩
      have hej := he5 h3
      by_cases hl2 : e = ns.length ∨ e < ns.length ∧ dep ns e ≤ dep ns i
      · rw [sub_none h (by omega) hl2]
        exact hR
      · have hel : e < ns.length := by omega
        have hde : dep ns e = dep ns i + 1 := by omega
        have hue := h.kidAt (by omega) hel hde hk2
        have hpe := h.pos hel (by omega)
        have hke : (ndAt ns e).kind = 2 := by
          rcases h.kind hel (by omega) with ⟨h1, _⟩ | ⟨h1, _⟩
          · exact h1
          · refine absurd h3 ?_
            have := h.ad e hel h1 (j : Int) (by rw [hue, hej]; exact kids_end h hjl hij hu)
            simpa using this
        rw [sub_at i e hel, if_pos (by omega), node_elem h.may hel (by omega), List.append_assoc, List.append_assoc]
        exact .inr (isTag_start _ _ (h.nm e hel hke).1)
theorem endHere_60 {n : Bs} {c : UInt8} {t : Bs} (h : c ≠ 60) : Tk.endHere n (c :: t) = false := by
  unfold Tk.endHere Tk.begins
  have : (Asc.lower (List.take (60 :: 47 :: n).length (c :: t)) == 60 :: 47 :: n) = false := by
    rw [List.length_cons, List.take_succ_cons]
    unfold Asc.lower
    rw [List.map_cons]
    have hc : Asc.lowerC c ≠ 60 := by
      have := Tk.byte_all (P := fun c => Asc.lowerC c != 60 || c == 60) (by decide +kernel) c
      simp only [Bool.or_eq_true, bne_iff_ne, beq_iff_eq] at this
      rcases this with h1 | h1
      · exact h1
      · exact absurd h1 h
    simp [hc]
  rw [this, Bool.and_false, Bool.false_and]
theorem ends_tag {n : Bs} (hn : Tk.goodT n) (R : Bs) : Tk.ends n (Tk.tagText ⟨2, n, [], false, []⟩ ++ R) = 0 := by
  have e : Tk.tagText ⟨2, n, [], false, []⟩ ++ R = (60 :: 47 :: n) ++ (62 :: R) := by
    unfold Tk.tagText
    simp
  have hh : Tk.endHere n ((60 :: 47 :: n) ++ (62 :: R)) = true := by
    unfold Tk.endHere Tk.begins
    rw [List.take_left, show 2 + n.length = (60 :: 47 :: n).length from by simp; omega, List.drop_left]
    have hl : Asc.lower (60 :: 47 :: n) = 60 :: 47 :: n := by
      show Asc.lowerC 60 :: Asc.lowerC 47 :: Asc.lower n = _
      rw [hn.2.2]
      rfl
    rw [hl]
    simp [Tk.endsIt]
  rw [e]
  rw [show (60 :: 47 :: n) ++ (62 :: R) = 60 :: (47 :: n ++ (62 :: R)) from rfl] at hh ⊢
  rw [Tk.ends, hh]
  rfl
theorem raw_no60 {n : Bs} (hn : Tk.goodT n) : ∀ x : Bs, x.all (· != 60) = true → RawX n x
  | [], _ => fun R => ends_tag hn R
  | c :: t, h => fun R => by
    rw [List.all_cons, Bool.and_eq_true] at h
    have hc : c ≠ 60 := by simpa using h.1
    rw [List.cons_append, List.cons_append, Tk.ends, endHere_60 hc, if_neg (by simp), raw_no60 hn t h.2 R, List.length_cons]
theorem void_raw {n : Bs} (h : isVoid n = true) : Tk.isRaw n = false := by
  have : ∀ m ∈ voidNames, Tk.isRaw m = false := by decide +kernel
  unfold isVoid at h
  exact this n (List.contains_iff_mem.1 h)
theorem raw_b (h : Rp ns) {t : Nat} (hp : 0 ≤ (ndAt ns t).up) : rawB ns (ndAt ns t) = (Tk.isRaw (ndAt ns (ndAt ns t).up.toNat).name && !Tk.isDec (ndAt ns (ndAt ns t).up.toNat).name) := by
  unfold rawB Tk.isRaw Tk.isDec
  generalize (ndAt ns (ndAt ns t).up.toNat).name = n
  rw [decide_eq_true hp, Bool.true_and, show script = [115, 99, 114, 105, 112, 116] from rfl, show style = [115, 116, 121, 108, 101] from rfl]
  by_cases h1 : n = [115, 99, 114, 105, 112, 116]
  · subst h1; rfl
  by_cases h2 : n = [115, 116, 121, 108, 101]
  · subst h2; rfl
  rw [beq_false_of_ne h1, beq_false_of_ne h2]
  simp
  intro h3 h4
  exact h3.resolve_left h4
theorem node_ok (h : Rp ns) : ∀ m j, ns.length - j ≤ m → j < ns.length → j ≠ 0 → Tk.isRaw (ndAt ns (ndAt ns j).up.toNat).name = false → NodeOk ns j := by
  intro m
  induction m with
  | zero => intro j hm hj; omega
  | succ m ih =>
    intro j hm hj h0 hraw
    have hp := h.pos hj h0
    have hnext : j + 1 < ns.length → (ndAt ns (j + 1)).up.toNat ≠ j → dep ns (j + 1) ≤ dep ns j := fun h1 h2 => by
      have h3 := h.next h1
      by_cases h4 : dep ns (j + 1) = dep ns j + 1
      · exact absurd (h.kidAt (by omega) h1 h4 (fun k h5 h6 => by omega)) h2
      · omega
    rcases h.kind hj h0 with ⟨hk, htx⟩ | ⟨hk, htx, hnm, hat⟩
    · have hg := h.nm j hj hk
      by_cases hv : isVoid (ndAt ns j).name = true
      · have hno : ∀ k, k < ns.length → k ≠ 0 → (ndAt ns k).up.toNat ≠ j := fun k h1 h2 e => by
          have := h.vd k h1 h2
          rw [e, hv] at this
          cases this
        refine ⟨j + 1, by omega, by omega, ?_, fun k h1 h2 => by omega, fun e => by omega, fun R _ => ?_⟩
        · by_cases hl : j + 1 = ns.length
          · exact .inl hl
          · exact .inr ⟨by omega, hnext (by omega) (hno _ (by omega) (by omega))⟩
        · have hin : innerT ns j = [] := by
            unfold innerT
            rw [may_kids h.may hj]
            cases hks : kidsTo ns j ns.length with
            | nil => rfl
            | cons k ks =>
              obtain ⟨i, rfl, h1, h2⟩ := kidsTo_mem ns j k ns.length (by rw [hks]; exact List.mem_cons_self ..)
              by_cases hi0 : i = 0
              · subst hi0
                have hs := may_shape h.may h1
                unfold shapeB rootB at hs
                simp only [if_true, Bool.and_eq_true, beq_iff_eq] at hs
                rw [hs.2.1] at h2
                omega
              · exact absurd (by omega) (hno i h1 hi0)
          rw [node_elem h.may hj (by omega), hin, if_pos hv, List.append_nil, List.append_nil, all_start _ _ hg.1 hg.2 (void_raw hv)]
          exact ⟨by rw [build_cons (trunc_start h hj h0 hk), if_pos hv], by rw [List.length_cons]; omega⟩
      · by_cases hr : Tk.isRaw (ndAt ns j).name = true
        · rcases h.rw j hj hk hr with hks | ⟨t, hks, ht, hrx⟩
          · have hno : ∀ k, k < ns.length → k ≠ 0 → (ndAt ns k).up.toNat ≠ j := fun k h1 h2 e => by
              have := h.kidMem hj h1 h2 e
              rw [hks] at this
              cases this
            refine ⟨j + 1, by omega, by omega, ?_, fun k h1 h2 => by omega, fun e => by omega, fun R _ => ?_⟩
            · by_cases hl : j + 1 = ns.length
              · exact .inl hl
              · exact .inr ⟨by omega, hnext (by omega) (hno _ (by omega) (by omega))⟩
            · have hin : innerT ns j = [] := by
                unfold innerT
                rw [hks]
                rfl
              rw [node_elem h.may hj (by omega), hin, if_neg hv, List.nil_append, List.append_assoc, all_raw _ (Tk.tagText (endTok (ndAt ns j)) ++ R) hg.1 hg.2 hr [] (Tk.tagText (endTok (ndAt ns j)) ++ R) rfl (ends_tag hg.1 R), if_pos rfl, List.nil_append, all_end _ _ hg.1]
              exact ⟨by rw [build_cons (trunc_start h hj h0 hk), if_neg hv, build_cons (trunc_end h hj h0 (by omega))], by rw [List.length_cons, List.length_cons]; omega⟩
          · obtain ⟨t2, ht2, htj, htl, htu⟩ := may_kid h.may hj (k := (t : Int)) (by rw [hks]; exact List.mem_singleton.2 rfl)
            have hte : t2 = t := by omega
            subst hte
            have hj1 : (ndAt ns (j + 1)).up.toNat = j := by
              by_cases e : t2 = j + 1
              · rw [← e, htu]
                omega
              · have h1 := h.pre t2 (j + 1) htl (by omega) (by rw [htu]; omega) (by omega)
                have h2 := h.depUp htl (by omega)
                have h3 := h.next (i := j) (by omega)
                rw [htu, show ((j : Int)).toNat = j from by omega] at h2
                exact h.kidAt (by omega) (by omega) (by omega) (fun k h5 h6 => by omega)
            have hmem : ∀ k, k < ns.length → k ≠ 0 → (ndAt ns k).up.toNat = j → k = t2 := fun k h1 h2 e => by
              have := h.kidMem hj h1 h2 e
              rw [hks, List.mem_singleton] at this
              omega
            have ht1 : t2 = j + 1 := (hmem (j + 1) (by omega) (by omega) hj1).symm
            subst ht1
            have hd1 := h.depUp htl (by omega)
            rw [hj1] at hd1
            refine ⟨j + 1 + 1, by omega, by omega, ?_, fun k h1 h2 => ?_, fun e => by omega, fun R _ => ?_⟩
            · by_cases hl : j + 1 + 1 = ns.length
              · exact .inl hl
              · refine .inr ⟨by omega, ?_⟩
                have h3 := h.next (i := j + 1) (by omega)
                have h5 := h.depUp (i := j + 1 + 1) (by omega) (by omega)
                by_cases h4 : dep ns (j + 1 + 1) = dep ns (j + 1) + 1
                · have := h.kidAt (i := j + 1) (by omega) (by omega) h4 (fun k h5 h6 => by omega)
                  have h6 := h.upKind (i := j + 1 + 1) (by omega) (by omega)
                  rw [this] at h6
                  exact absurd ht h6
                · by_cases h6 : dep ns (j + 1 + 1) = dep ns j + 1
                  · have h7 := h.kidAt (i := j) (by omega) (by omega) h6 (fun k h8 h9 => by
                      have : k = j + 1 := by omega
                      subst this
                      omega)
                    have := hmem (j + 1 + 1) (by omega) (by omega) h7
                    omega
                  · omega
            · have : k = j + 1 := by omega
              subst this
              omega
            · have htk := h.kind htl (by omega)
              have htn : (ndAt ns (j + 1)).text ≠ [] := by
                rcases htk with ⟨h1, _⟩ | ⟨_, h1, _⟩
                · omega
                · exact h1
              have hin : innerT ns j = nodeT ns (j + 1) := by
                unfold innerT
                rw [hks, List.flatMap_cons, List.flatMap_nil, List.append_nil]
                congr 1
              have hnt := node_text h.may htl ht
              rw [raw_b h (by omega), hj1, hr, Bool.true_and] at hnt
              have hst := trunc_start h hj h0 hk
              rw [if_neg hv] at hst
              have htt := trunc_text h htl (by omega) ht
              rw [hj1] at htt
              have hto : ∃ x, nodeT ns (j + 1) = x ∧ x ≠ [] ∧ RawX (ndAt ns j).name x ∧ (if Tk.isDec (ndAt ns j).name = true then Rf.dec false x else x) = (ndAt ns (j + 1)).text := by
                cases hdc : Tk.isDec (ndAt ns j).name
                · rw [hdc] at hnt
                  exact ⟨_, hnt, htn, hrx hdc, rfl⟩
                · rw [hdc] at hnt
                  exact ⟨_, hnt, Tk.enc_ne _ htn, raw_no60 hg.1 _ (Tk.enc_no60 _), Rf.back false false _⟩
              obtain ⟨x, hx, hxn, hxr, hxd⟩ := hto
              rw [node_elem h.may hj (by omega), hin, hx, if_neg hv, List.append_assoc, List.append_assoc, all_raw _ _ hg.1 hg.2 hr x (Tk.tagText (endTok (ndAt ns j)) ++ R) rfl (by rw [← List.append_assoc]; exact hxr R), if_neg hxn, hxd, List.singleton_append, all_end _ _ hg.1]
              exact ⟨by rw [build_cons hst, build_cons htt, build_cons (trunc_end h hj h0 (by omega))], by rw [List.length_cons, List.length_cons, List.length_cons]; omega⟩
        · have hr2 : Tk.isRaw (ndAt ns j).name = false := by simpa using hr
          have hb : j + 1 = ns.length ∨ j + 1 < ns.length ∧ dep ns (j + 1) ≤ dep ns j + 1 := by
            by_cases hl : j + 1 = ns.length
            · exact .inl hl
            · exact .inr ⟨by omega, h.next (by omega)⟩
          obtain ⟨e, he1, he2, he3, he4, he5⟩ := run_sub h hj (fun k h1 h2 h3 => ih k (by omega) h2 (by omega) (by rw [h3]; exact hr2)) _ (j + 1) (Nat.le_refl _) (by omega) (by omega) hb (fun k h1 h2 => by omega)
          refine ⟨e, by omega, he2, he3, he4, fun e => by omega, fun R _ => ?_⟩
          have hst := trunc_start h hj h0 hk
          rw [if_neg hv] at hst
          rw [node_elem h.may hj (by omega), inner_sub h hj, if_neg hv, List.append_assoc, List.append_assoc, all_start _ _ hg.1 hg.2 hr2]
          have g5 := he5 (Tk.tagText (endTok (ndAt ns j)) ++ R) (.inr (isTag_end _ _))
          rw [all_end _ _ hg.1, List.length_cons] at g5
          exact ⟨by rw [build_cons hst, g5.1, build_cons (trunc_end h hj h0 (by omega))], by rw [List.length_cons]; have := g5.2; omega⟩
    · refine ⟨j + 1, by omega, by omega, ?_, fun k h1 h2 => by omega, fun _ => rfl, fun R hR => ?_⟩
      · by_cases hl : j + 1 = ns.length
        · exact .inl hl
        · refine .inr ⟨by omega, hnext (by omega) (fun e => ?_)⟩
          have h6 := h.upKind (i := j + 1) (by omega) (by omega)
          rw [e] at h6
          exact h6 hk
      · have hnt := node_text h.may hj hk
        rw [raw_b h (by omega), hraw, Bool.false_and, if_neg (by simp)] at hnt
        rw [hnt, all_text _ _ htx (hR hk)]
        exact ⟨build_cons (trunc_text h hj h0 hk), by rw [List.length_cons]; omega⟩
/-- What is written of the Root is parsed as the tree. -/
theorem write_parse (h : Rp ns) : parseT (Tk.all (textAt ns 0)) = .ok ns ∧ (Tk.all (textAt ns 0)).length ≤ 8192 := by
  have hl := ((mayB_iff ns).1 h.may).1
  have hs := may_shape h.may (i := 0) (by omega)
  unfold shapeB rootB at hs
  simp only [if_true, Bool.and_eq_true, beq_iff_eq] at hs
  have hup : (ndAt ns 0).up = -1 := hs.2.1
  have hst : (⟨trunc ns 1, path ns 0⟩ : St) = start0 := by
    have : trunc ns 1 = [root] := by
      refine nd_ext (by rw [trunc_len]; rfl) (fun i hi => ?_)
      rw [trunc_len] at hi
      have : i = 0 := by omega
      subst this
      rw [trunc_at ns (by omega)]
      apply Nd.ext'
      · exact hs.1
      · exact hs.2.2.1
      · exact List.length_eq_zero_iff.1 hs.2.2.2.1
      · exact hs.2.2.2.2
      · exact hup
      · show kidsTo ns 0 1 = []
        rw [kidsTo, if_neg (by rw [hup]; omega)]
        rfl
    rw [this]
    rfl
  have hb : 1 = ns.length ∨ 1 < ns.length ∧ dep ns 1 ≤ dep ns 0 + 1 := by
    by_cases hl1 : 1 = ns.length
    · exact .inl hl1
    · exact .inr ⟨by omega, h.next (i := 0) (by omega)⟩
  obtain ⟨e, he1, he2, he3, he4, he5⟩ := run_sub h (i := 0) (by omega) (fun k h1 h2 h3 => node_ok h _ k (Nat.le_refl _) h2 (by omega) (by rw [h3, hs.2.2.1]; rfl)) _ 1 (Nat.le_refl _) (by omega) (by omega) hb (fun k h1 h2 => by omega)
  have hel : e = ns.length := by
    rcases he3 with h1 | ⟨h1, h2⟩
    · exact h1
    · have := h.depUp h1 (by omega)
      rw [dep_zero] at h2
      omega
  have hR := he5 [] (.inl rfl)
  rw [List.append_nil, hst, hel, trunc_all h.may, Tk.all_nil, List.length_nil] at hR
  have ht : textAt ns 0 = sub ns 0 1 := by
    unfold textAt
    rw [if_neg (by rw [hs.1]; decide), inner_sub h (by omega)]
  refine ⟨?_, by rw [ht]; have := hR.2; omega⟩
  unfold parseT
  rw [ht, hR.1]
  rfl
end
end Tre
/- What a document's tokens are besides: raw texts stand ahead of their end tag; no byte 0; what is written is clean. -/
set_option linter.unusedVariables false
set_option linter.unusedSimpArgs false
namespace Tre
/-! ### no byte 0 -/
def Z0 (l : Bs) : Prop := ∀ c ∈ l, c ≠ 0
theorem Z0.nil : Z0 [] := fun c h => by cases h
theorem Z0.sub {a b : Bs} (h : Z0 b) (hs : ∀ c ∈ a, c ∈ b) : Z0 a := fun c hc => h c (hs c hc)
theorem Z0.take {l : Bs} (h : Z0 l) (n : Nat) : Z0 (l.take n) := h.sub fun c hc => List.mem_of_mem_take hc
theorem Z0.drop {l : Bs} (h : Z0 l) (n : Nat) : Z0 (l.drop n) := h.sub fun c hc => List.mem_of_mem_drop hc
theorem Z0.tw {l : Bs} (h : Z0 l) (p : UInt8 → Bool) : Z0 (l.takeWhile p) := h.sub fun c hc => (List.takeWhile_sublist p).mem hc
theorem Z0.dw {l : Bs} (h : Z0 l) (p : UInt8 → Bool) : Z0 (l.dropWhile p) := h.sub fun c hc => (List.dropWhile_sublist p).mem hc
theorem Z0.app {a b : Bs} (ha : Z0 a) (hb : Z0 b) : Z0 (a ++ b) := fun c hc => (List.mem_append.1 hc).elim (ha c) (hb c)
theorem Z0.tail {c : UInt8} {t : Bs} (h : Z0 (c :: t)) : Z0 t := h.sub fun x hx => List.mem_cons_of_mem _ hx
theorem Z0.lower {l : Bs} (h : Z0 l) : Z0 (Asc.lower l) := fun c hc => by
  unfold Asc.lower at hc
  obtain ⟨x, hx, rfl⟩ := List.mem_map.1 hc
  have h0 := h x hx
  have := Tk.byte_all (P := fun c => Asc.lowerC c != 0 || c == 0) (by decide +kernel) x
  simp only [Bool.or_eq_true, bne_iff_ne, beq_iff_eq] at this
  rcases this with h1 | h1
  · exact h1
  · exact absurd h1 h0
theorem rune_z0 {x : Int} (h : x ≠ 0) : Z0 (Go.Lib.encodeRune x) := fun c hc => by
  unfold Go.Lib.encodeRune at hc
  obtain ⟨z, hz, rfl⟩ := List.mem_map.1 hc
  have hzz : 0 < z ∧ z < 256 := by
    unfold Go.Lib.encodeRuneZ at hz
    repeat' split at hz
    all_goals simp only [List.mem_cons, List.not_mem_nil, or_false] at hz
    all_goals omega
  intro e
  have := congrArg UInt8.toNat e
  rw [Utf.byteZ z (by omega) hzz.2] at this
  have h2 : (0 : UInt8).toNat = 0 := rfl
  omega
theorem sign_ne (n : Int) : Rf.numSign n ≠ 0 := by
  unfold Rf.numSign
  split
  · decide
  · split
    · rename_i h
      exact h.2.2
    · omega
theorem shL_ne (a : Bool) (t : Bs) : ∀ ks : List Nat, (Rf.shL a t ks).2 ≠ 0 → (Rf.shL a t ks).1 ≠ 0
  | [], h => absurd rfl h
  | k :: ks, h => by
    unfold Rf.shL at h ⊢
    split
    · rename_i hk
      rw [if_pos hk] at h
      unfold Rf.shP at h ⊢
      split
      · rename_i hg
        rw [if_pos hg] at h
        exact absurd rfl h
      · exact hk.2
    · rename_i hk
      rw [if_neg hk] at h
      exact shL_ne a t ks h
theorem next_ne (a : Bool) (t : Bs) (h : (Rf.next a t).2 ≠ 0) : (Rf.next a t).1 ≠ 0 := by
  unfold Rf.next at h ⊢
  split
  · rename_i hn
    unfold Rf.numSz at hn
    show Rf.numSg t ≠ 0
    unfold Rf.numSg
    split
    · exact sign_ne _
    · rename_i hno
      rw [if_neg hno] at hn
      exact absurd rfl hn
  · rename_i hn
    rw [if_neg hn] at h
    split
    · rename_i hw
      unfold Rf.whSz at hw
      show Rf.whSg t ≠ 0
      unfold Rf.whSg
      split
      · rename_i hi
        unfold Rf.isWh at hi
        simp only [Bool.and_eq_true, bne_iff_ne] at hi
        exact hi.2
      · rename_i hi
        rw [if_neg hi] at hw
        exact absurd rfl hw
    · rename_i hw
      rw [if_neg hw] at h
      exact shL_ne a t _ h
theorem Z0.dec (a : Bool) {l : Bs} : Z0 l → Z0 (Rf.dec a l) := by
  generalize hn : l.length = n
  induction n using Nat.strongRecOn generalizing l with
  | ind n ih =>
    intro h
    cases l with
    | nil => rw [Rf.dec_nil]; exact Z0.nil
    | cons c t =>
      rw [List.length_cons] at hn
      by_cases hc : c = 38
      · subst hc
        by_cases h0 : (Rf.next a t).2 = 0
        · rw [Rf.dec_none a t h0]
          intro x hx
          rcases List.mem_cons.1 hx with rfl | hx
          · decide
          · exact ih t.length (by omega) rfl h.tail x hx
        · rw [Rf.dec_some a t h0]
          exact (rune_z0 (next_ne a t h0)).app (ih _ (by rw [List.length_drop]; omega) rfl (h.tail.drop _))
      · rw [Rf.dec_other a c t hc]
        intro x hx
        rcases List.mem_cons.1 hx with rfl | hx
        · exact h _ (List.mem_cons_self ..)
        · exact ih t.length (by omega) rfl h.tail x hx
def Z0A (as : List At) : Prop := ∀ a ∈ as, Z0 a.1 ∧ Z0 a.2
theorem Z0A.add {as : List At} {a : At} (h : Z0A as) (ha : Z0 a.1 ∧ Z0 a.2) : Z0A (Tk.add as a) := by
  unfold Tk.add
  split
  · intro x hx
    rcases List.mem_append.1 hx with hx | hx
    · exact h x hx
    · rw [List.mem_singleton.1 hx]
      exact ha
  · exact h
theorem attr_z0 {l : Bs} (h : Z0 l) : (Z0 (Tk.attr l).1.1 ∧ Z0 (Tk.attr l).1.2) ∧ Z0 (Tk.attr l).2 := by
  have hN : Z0 (Tk.attrN l) := (h.take 1).app ((h.drop 1).tw _)
  have hR : Z0 (Tk.attrR l) := (h.drop 1).dw _
  unfold Tk.attr
  cases he : Tk.eqR (Tk.attrR l) with
  | none => exact ⟨⟨hN.lower, Z0.nil⟩, hR⟩
  | some r =>
    have hr : Z0 r := by
      unfold Tk.eqR at he
      have hd := hR.dw Asc.isBlank
      split at he
      · cases he
      · rename_i c q e
        rw [e] at hd
        split at he
        · cases he
          exact hd.tail.dw _
        · cases he
    refine ⟨⟨hN.lower, Z0.dec true ?_⟩, ?_⟩
    · cases r with
      | nil => exact Z0.nil
      | cons q t =>
        rw [Tk.valRaw]
        split
        · exact hr.tail.tw _
        · exact hr.tw _
    · cases r with
      | nil => exact Z0.nil
      | cons q t =>
        show Z0 (Tk.valR (q :: t))
        rw [Tk.valR]
        split
        · exact (hr.tail.dw _).drop 1
        · exact hr.dw _
theorem tgF_z0 : ∀ (f : Nat) (l : Bs) (as : List At) (sl : Bool) (x : List At × Bool × Bs), Z0 l → Z0A as → Tk.tgF f l as sl = some x → Z0A x.1
  | 0, l, as, sl, x, _, _, h => by cases h
  | f + 1, [], as, sl, x, _, _, h => by cases h
  | f + 1, c :: t, as, sl, x, hl, ha, h => by
    rw [Tk.tgF] at h
    split at h
    · cases h; exact ha
    split at h
    · exact tgF_z0 f t _ _ x hl.tail ha h
    · have := attr_z0 hl
      exact tgF_z0 f _ _ _ x this.2 (ha.add this.1) h
def Z0T (k : Tk.Tok) : Prop := Z0 k.name ∧ Z0A k.attrs ∧ Z0 k.text
theorem Z0A.nil : Z0A [] := fun a h => by cases h
theorem tag_z0 {l : Bs} {k : Tk.Tok} {r : Bs} (hl : Z0 l) (h : Tk.tag l = some (k, r)) : Z0T k := by
  unfold Tk.tag at h
  split at h
  · cases h
  · rename_i as sl q e
    cases h
    exact ⟨(hl.tw _).lower, tgF_z0 _ _ _ _ _ (hl.dw _) Z0A.nil e, Z0.nil⟩
theorem next_z0 {s : Bs} (h : Z0 s) : Z0T (Tk.next s).1 := by
  unfold Tk.next
  repeat' split
  · exact ⟨Z0.nil, Z0A.nil, Z0.nil⟩
  · exact ⟨Z0.nil, Z0A.nil, Z0.dec _ (h.take _)⟩
  · exact ⟨Z0.nil, Z0A.nil, Z0.nil⟩
  · rename_i k r e
    exact tag_z0 (h.drop 1) e
  · exact ⟨Z0.nil, Z0A.nil, Z0.nil⟩
  · rename_i k r e
    exact ⟨(tag_z0 (h.drop 2) e).1, Z0A.nil, Z0.nil⟩
  · exact ⟨Z0.nil, Z0A.nil, (h.drop 4).take _⟩
  · exact ⟨Z0.nil, Z0A.nil, Z0.nil⟩
  · exact ⟨Z0.nil, Z0A.nil, (h.drop 2).take _⟩
theorem step_z0 {s : Bs} (h : Z0 s) : (∀ k ∈ (Tk.stepT s).1, Z0T k) ∧ Z0 (Tk.stepT s).2 := by
  unfold Tk.stepT
  split
  · refine ⟨fun k hk => ?_, (h.drop _).drop _⟩
    rcases List.mem_cons.1 hk with rfl | hk
    · exact next_z0 h
    · split at hk
      · cases hk
      · rw [List.mem_singleton] at hk
        subst hk
        refine ⟨Z0.nil, Z0A.nil, ?_⟩
        show Z0 (if _ then _ else _)
        split
        · exact Z0.dec _ ((h.drop _).take _)
        · exact (h.drop _).take _
  · refine ⟨fun k hk => ?_, h.drop _⟩
    split at hk
    · cases hk
    · rw [List.mem_singleton] at hk
      subst hk
      exact next_z0 h
theorem all_z0 (s : Bs) : Z0 s → ∀ k ∈ Tk.all s, Z0T k := by
  refine Tk.all_ind (P := fun s => Z0 s → ∀ k ∈ Tk.all s, Z0T k) (fun _ k hk => by rw [Tk.all_nil] at hk; cases hk) ?_ s
  intro s hs ih h k hk
  rw [Tk.all_go s hs, List.mem_append] at hk
  exact hk.elim ((step_z0 h).1 k) (ih (step_z0 h).2 k)
/-! ### clean texts -/
/-- A text with no byte 0, 13. -/
def TN (l : Bs) : Prop := Utf.isText l = true ∧ ∀ c ∈ l, c ≠ 13 ∧ c ≠ 0
/-- A text with no byte 0. -/
def T0 (l : Bs) : Prop := Utf.isText l = true ∧ Z0 l
theorem text_app (a b : Bs) (ha : Utf.isText a = true) (hb : Utf.isText b = true) : Utf.isText (a ++ b) = true := by
  refine Tk.text_ind (P := fun a => Utf.isText (a ++ b) = true) hb ?_ ?_ a ha
  · intro c t hc _ ih
    rw [List.cons_append, Rf.text_low c _ hc]
    exact ih
  · intro x r _ _ ih
    rw [List.append_assoc, Utf.isText_put]
    exact ih
theorem TN.nil : TN [] := ⟨Utf.isText_nil, fun c h => by cases h⟩
theorem TN.app {a b : Bs} (ha : TN a) (hb : TN b) : TN (a ++ b) := ⟨text_app a b ha.1 hb.1, fun c hc => (List.mem_append.1 hc).elim (ha.2 c) (hb.2 c)⟩
theorem TN.flat {α : Type} {f : α → Bs} : ∀ {l : List α}, (∀ x ∈ l, TN (f x)) → TN (l.flatMap f)
  | [], _ => TN.nil
  | a :: l, h => by
    rw [List.flatMap_cons]
    exact (h a (List.mem_cons_self ..)).app (TN.flat (fun x hx => h x (List.mem_cons_of_mem _ hx)))
theorem TN.lows {l : Bs} (h : l.all (fun c => Rf.low c && c != 13 && c != 0) = true) : TN l := by
  rw [List.all_eq_true] at h
  refine ⟨?_, fun c hc => ?_⟩
  · have := Rf.text_lows l [] (by
      rw [List.all_eq_true]
      intro c hc
      have := h c hc
      simp only [Bool.and_eq_true] at this
      exact this.1.1)
    rw [List.append_nil] at this
    rw [this]
    exact Utf.isText_nil
  · have := h c hc
    simp only [Bool.and_eq_true, bne_iff_ne] at this
    exact ⟨this.1.2, this.2⟩
theorem norm_id : ∀ l : Bs, (∀ c ∈ l, c ≠ 13 ∧ c ≠ 0) → Tk.norm l = l
  | [], _ => rfl
  | c :: t, h => by
    have hc := h c (List.mem_cons_self ..)
    rw [Tk.norm, if_neg hc.1, if_neg hc.2, norm_id t (fun x hx => h x (List.mem_cons_of_mem _ hx))]
    rfl
theorem TN.clean {l : Bs} (h : TN l) : Tk.clean l = l := by
  unfold Tk.clean
  rw [Utf.rep_self l h.1, norm_id l h.2]
theorem norm_tn : ∀ l : Bs, ∀ c ∈ Tk.norm l, c ≠ 13 ∧ c ≠ 0
  | [], c, h => by cases h
  | d :: t, c, h => by
    rw [Tk.norm, List.mem_append] at h
    rcases h with h | h
    · split at h
      · split at h
        · cases h
        · rw [List.mem_singleton] at h
          subst h
          decide
      split at h
      · simp only [List.mem_cons, List.not_mem_nil, or_false] at h
        rcases h with rfl | rfl | rfl <;> decide
      · rw [List.mem_singleton] at h
        subst h
        exact ⟨by assumption, by assumption⟩
    · exact norm_tn t c h
theorem clean_tn (s : Bs) : TN (Tk.clean s) := ⟨Tk.clean_text s, norm_tn _⟩
theorem enc_keep (a : Bool) : ∀ (q r : Bs), (∀ c ∈ q, Rf.low c = false ∧ c ≠ 194) → Rf.enc a (q ++ r) = q ++ Rf.enc a r
  | [], r, _ => rfl
  | c :: q, r, h => by
    obtain ⟨h1, h2⟩ := h c (List.mem_cons_self ..)
    have ho : Rf.one a (c :: (q ++ r)) = ([c], 1) := by
      unfold Rf.one
      have e : List.take 1 (c :: (q ++ r)) = [c] := rfl
      rw [e]
      have hne : ∀ d, Rf.low d = true → ¬ [c] = [d] := fun d hd e => by
        cases e
        rw [hd] at h1
        cases h1
      rw [if_neg (hne 38 (by decide)), if_neg (fun e => hne 60 (by decide) e.1), if_neg (fun e => hne 62 (by decide) e.1), if_neg (fun e => hne 34 (by decide) e.1), if_neg (hne 13 (by decide)), if_neg]
      simp [List.isPrefixOf]
      intro e
      exact absurd e.symm h2
    rw [List.cons_append, Rf.enc_go a _ (by simp), ho]
    show [c] ++ Rf.enc a (q ++ r) = _
    rw [enc_keep a q r (fun x hx => h x (List.mem_cons_of_mem _ hx))]
    rfl
theorem rune_shape (x : Int) (h : ∀ c ∈ Go.Lib.encodeRune x, Rf.low c = false) : (∀ c ∈ Go.Lib.encodeRune x, c ≠ 194) ∨ ∃ d, Go.Lib.encodeRune x = [194, d] ∧ d ≠ 194 := by
  by_cases h2 : 128 ≤ x ∧ x ≤ 2047
  · have e : Go.Lib.encodeRuneZ x = [192 + x / 64, 128 + x % 64] := Go.Lib.encodeRuneZ_two h2.1 h2.2
    have hb : ∀ z : Int, 0 ≤ z → z < 256 → z ≠ 194 → z.toNat.toUInt8 ≠ 194 := fun z h0 h1 hn e => by
      have := congrArg UInt8.toNat e
      rw [Utf.byteZ z h0 h1] at this
      have h2 : (194 : UInt8).toNat = 194 := rfl
      omega
    by_cases h3 : 192 + x / 64 = 194
    · refine .inr ⟨(128 + x % 64).toNat.toUInt8, ?_, hb _ (by omega) (by omega) (by omega)⟩
      unfold Go.Lib.encodeRune
      rw [e, h3]
      rfl
    · refine .inl fun c hc => ?_
      unfold Go.Lib.encodeRune at hc
      rw [e] at hc
      simp only [List.map_cons, List.map_nil, List.mem_cons, List.not_mem_nil, or_false] at hc
      rcases hc with rfl | rfl
      · exact hb _ (by omega) (by omega) h3
      · exact hb _ (by omega) (by omega) (by omega)
  · refine .inl fun c hc => ?_
    unfold Go.Lib.encodeRune at hc
    obtain ⟨z, hz, rfl⟩ := List.mem_map.1 hc
    have hzz : 0 ≤ z ∧ z < 256 ∧ z ≠ 194 := by
      unfold Go.Lib.encodeRuneZ at hz
      repeat' split at hz
      all_goals simp only [List.mem_cons, List.not_mem_nil, or_false] at hz
      all_goals omega
    intro e
    have := congrArg UInt8.toNat e
    rw [Utf.byteZ z hzz.1 hzz.2.1] at this
    have h2 : (194 : UInt8).toNat = 194 := rfl
    omega
theorem one_low (a : Bool) (c : UInt8) (t : Bs) (hc : Rf.low c = true) (h0 : c ≠ 0) : ∃ s, Rf.one a (c :: t) = (s, 1) ∧ s.all (fun c => Rf.low c && c != 13 && c != 0) = true := by
  unfold Rf.one
  have e : List.take 1 (c :: t) = [c] := rfl
  rw [e]
  split
  · exact ⟨_, rfl, by decide⟩
  split
  · exact ⟨_, rfl, by decide⟩
  split
  · exact ⟨_, rfl, by decide⟩
  split
  · exact ⟨_, rfl, by decide⟩
  split
  · exact ⟨_, rfl, by decide⟩
  · rename_i h13
    have h13 : c ≠ 13 := fun e => h13 (by rw [e])
    split
    · rename_i hp
      simp [List.isPrefixOf] at hp
      rw [← hp.1] at hc
      exact absurd hc (by decide)
    · refine ⟨_, rfl, ?_⟩
      simp [hc, h13, h0]
theorem enc_tn (a : Bool) (l : Bs) (h : T0 l) : TN (Rf.enc a l) := by
  have := Tk.text_ind (P := fun l => Z0 l → TN (Rf.enc a l)) (fun _ => by rw [Rf.enc_nil]; exact TN.nil) (by
    intro c t hc _ ih hz
    obtain ⟨s, e, hs⟩ := one_low a c t hc (hz c (List.mem_cons_self ..))
    rw [Rf.enc_go a _ (by simp), e]
    exact (TN.lows hs).app (ih hz.tail)) (by
    intro x r hx _ ih hz
    have ihr := ih (hz.sub fun c hc => List.mem_append_right _ hc)
    have hput : ∀ q, Go.Lib.encodeRune x = q → TN (q ++ Rf.enc a r) := fun q e => by
      subst e
      refine ⟨by rw [Utf.isText_put]; exact ihr.1, fun c hc => ?_⟩
      rcases List.mem_append.1 hc with hc | hc
      · have := hx c hc
        exact ⟨fun e => by subst e; revert this; decide, fun e => by subst e; revert this; decide⟩
      · exact ihr.2 c hc
    rcases rune_shape x hx with h1 | ⟨d, e, hd⟩
    · rw [enc_keep a _ r (fun c hc => ⟨hx c hc, h1 c hc⟩)]
      exact hput _ rfl
    · have hld : Rf.low d = false := hx d (by rw [e]; simp)
      by_cases h160 : d = 160
      · subst h160
        have ho : Rf.one a (194 :: 160 :: r) = ([38,110,98,115,112,59], 2) := by
          unfold Rf.one
          have e : List.take 1 (194 :: 160 :: r) = [194] := rfl
          rw [e]
          rw [if_neg (by decide), if_neg (by simp), if_neg (by simp), if_neg (by simp), if_neg (by decide), if_pos (by simp [List.isPrefixOf])]
        rw [e]
        show TN (Rf.enc a (194 :: 160 :: r))
        rw [Rf.enc_go a _ (by simp), ho]
        exact (TN.lows (by decide)).app ihr
      · have ho : Rf.one a (194 :: d :: r) = ([194], 1) := by
          unfold Rf.one
          have e : List.take 1 (194 :: d :: r) = [194] := rfl
          rw [e]
          rw [if_neg (by decide), if_neg (by simp), if_neg (by simp), if_neg (by simp), if_neg (by decide), if_neg]
          simp [List.isPrefixOf]
          exact fun e => h160 e.symm
        have e2 : Rf.enc a (194 :: d :: r) = [194, d] ++ Rf.enc a r := by
          rw [Rf.enc_go a _ (by simp), ho]
          show [194] ++ Rf.enc a ([d] ++ r) = _
          rw [enc_keep a [d] r (fun c hc => by rw [List.mem_singleton.1 hc]; exact ⟨hld, hd⟩)]
          rfl
        have h9 := hput _ e
        rw [e]
        show TN (Rf.enc a (194 :: d :: r))
        rw [e2]
        exact h9) l h.1
  exact this h.2
end Tre
/- What follows a start tag behind which a text stands as it is: that text, and its end tag. -/
set_option linter.unusedVariables false
set_option linter.unusedSimpArgs false
namespace Tre
theorem raw_good {n : Bs} (h : Tk.isRaw n = true) : Tk.goodT n ∧ ∀ c ∈ n, c ≠ 60 := by
  have h4 : n ∈ Tk.rawNames := by
    unfold Tk.isRaw at h
    simp only [Bool.or_eq_true, beq_iff_eq] at h
    unfold Tk.rawNames
    simp only [List.mem_cons, List.not_mem_nil, or_false]
    rcases h with ((h | h) | h) | h
    · exact .inl h
    · exact .inr (.inl h)
    · exact .inr (.inr (.inl h))
    · exact .inr (.inr (.inr h))
  unfold Tk.rawNames at h4
  simp only [List.mem_cons, List.not_mem_nil, or_false] at h4
  rcases h4 with rfl | rfl | rfl | rfl
  · exact ⟨⟨⟨_, _, rfl, by decide⟩, by decide +kernel, by decide +kernel⟩, by decide⟩
  · exact ⟨⟨⟨_, _, rfl, by decide⟩, by decide +kernel, by decide +kernel⟩, by decide⟩
  · exact ⟨⟨⟨_, _, rfl, by decide⟩, by decide +kernel, by decide +kernel⟩, by decide⟩
  · exact ⟨⟨⟨_, _, rfl, by decide⟩, by decide +kernel, by decide +kernel⟩, by decide⟩
theorem endsIt_head {a b : Bs} (h : a.head? = b.head?) : Tk.endsIt a = Tk.endsIt b := by
  cases a <;> cases b <;> simp at h
  · rfl
  · subst h; rfl
theorem endTag_eq (n R : Bs) : Tk.tagText ⟨2, n, [], false, []⟩ ++ R = 60 :: 47 :: (n ++ 62 :: R) := by
  unfold Tk.tagText
  simp
/-- Where no end tag stood, none stands once what is behind is cut off at a place ahead of which there is none, and the end tag laid there. -/
theorem endHere_cut {n : Bs} (hn : ∀ c ∈ n, c ≠ 60) (c : UInt8) (t : Bs) (m : Nat) (hm : m ≤ t.length) (h : Tk.endHere n (c :: t) = false) (R : Bs) : Tk.endHere n (c :: t.take m ++ (60 :: 47 :: (n ++ 62 :: R))) = false := by
  cases hh : Tk.endHere n (c :: t.take m ++ (60 :: 47 :: (n ++ 62 :: R)))
  · rfl
  exfalso
  have hyl : (c :: t.take m).length = m + 1 := by rw [List.length_cons, List.length_take, Nat.min_eq_left hm]
  have hy : c :: t.take m = (c :: t).take (m + 1) := rfl
  generalize hyy : c :: t.take m = y at *
  generalize hzz : c :: t = z at *
  have hzl : z.length = t.length + 1 := by rw [← hzz]; rfl
  unfold Tk.endHere Tk.begins at hh h
  simp only [Bool.and_eq_true, decide_eq_true_eq, beq_iff_eq, List.length_cons] at hh
  obtain ⟨⟨_, h2⟩, h3⟩ := hh
  rcases Nat.lt_or_ge (m + 1) (n.length + 2) with hlt | hge
  · -- the place of the laid end tag's first byte lies within the name
    have hx : (Asc.lower ((y ++ (60 :: 47 :: (n ++ 62 :: R))).take (n.length + 1 + 1)))[m + 1]? = some 60 := by
      unfold Asc.lower
      rw [List.getElem?_map, List.getElem?_take_of_lt (by omega), List.getElem?_append_right (by omega), hyl, Nat.sub_self]
      rfl
    rw [h2] at hx
    rw [show m + 1 = (m) + 1 from rfl, List.getElem?_cons_succ] at hx
    cases m with
    | zero =>
      rw [List.getElem?_cons_zero] at hx
      cases hx
    | succ m =>
      rw [List.getElem?_cons_succ] at hx
      exact hn 60 (List.mem_of_getElem? hx) rfl
  · have ht : (y ++ (60 :: 47 :: (n ++ 62 :: R))).take (n.length + 1 + 1) = z.take (n.length + 1 + 1) := by
      rw [List.take_append_of_le_length (by omega), hy, List.take_take, Nat.min_eq_left (by omega)]
    rw [ht] at h2
    have hb : (decide ((60 :: 47 :: n).length ≤ z.length) && Asc.lower (z.take (60 :: 47 :: n).length) == 60 :: 47 :: n) = true := by
      simp only [Bool.and_eq_true, decide_eq_true_eq, beq_iff_eq, List.length_cons]
      exact ⟨by omega, h2⟩
    rw [hb, Bool.true_and] at h
    have h3' : Tk.endsIt ((y ++ (60 :: 47 :: (n ++ 62 :: R))).drop (2 + n.length)) = true := h3
    by_cases he : m + 1 = n.length + 2
    · rw [show 2 + n.length = y.length from by omega, List.drop_left] at h3'
      cases h3'
    · have : ((y ++ (60 :: 47 :: (n ++ 62 :: R))).drop (2 + n.length)).head? = (z.drop (2 + n.length)).head? := by
        rw [List.head?_drop, List.head?_drop, List.getElem?_append_left (by omega), hy, List.getElem?_take_of_lt (by omega)]
      rw [endsIt_head this, h] at h3'
      cases h3'
theorem ends_take {n : Bs} (hn : ∀ c ∈ n, c ≠ 60) (hg : Tk.goodT n) : ∀ (s : Bs), RawX n (s.take (Tk.ends n s))
  | [] => fun R => by
    have := ends_tag hg R
    simpa [Tk.ends] using this
  | c :: t => fun R => by
    have hl := Tk.ends_le n t
    rw [Tk.ends]
    cases he : Tk.endHere n (c :: t)
    · have ih := ends_take hn hg t R
      have hc := endHere_cut hn c t (Tk.ends n t) hl he R
      rw [if_neg (by simp), List.take_succ_cons]
      rw [List.append_assoc, endTag_eq] at ih ⊢
      rw [List.cons_append] at hc ⊢
      rw [Tk.ends, hc, if_neg (by simp), ih, List.length_cons]
    · rw [if_pos rfl]
      exact ends_tag hg R
theorem ends_stop (n : Bs) : ∀ s : Bs, s.drop (Tk.ends n s) = [] ∨ Tk.endHere n (s.drop (Tk.ends n s)) = true
  | [] => .inl rfl
  | c :: t => by
    rw [Tk.ends]
    cases he : Tk.endHere n (c :: t)
    · rw [if_neg (by simp), List.drop_succ_cons]
      exact ends_stop n t
    · rw [if_pos rfl]
      exact .inr he
/-- What tokens follow one another: 1: right behind a start tag behind which a text stands as it is; 2: behind that text. -/
def sq : List Tk.Tok → Nat → Bs → Prop
  | [], _, _ => True
  | k :: ks, 0, _ => if k.kind = 1 ∧ Tk.isRaw k.name = true then sq ks 1 k.name else sq ks 0 []
  | k :: ks, 1, n => (k.kind = 3 ∧ (Tk.isDec n = false → RawX n k.text ∧ TN k.text) ∧ sq ks 2 n) ∨ (k.kind = 2 ∧ k.name = n ∧ sq ks 0 [])
  | k :: ks, _ + 2, n => k.kind = 2 ∧ k.name = n ∧ sq ks 0 []
/-- An end tag of a name is read as such a one, or as none. -/
theorem next_endHere {n s : Bs} (hr : Tk.isRaw n = true) (h : Tk.endHere n s = true) : (Tk.next s).1 = ⟨2, n, [], false, []⟩ ∨ (Tk.next s) = (Tk.zero, s.length) := by
  obtain ⟨hg, h60⟩ := raw_good hr
  unfold Tk.endHere Tk.begins at h
  simp only [Bool.and_eq_true, decide_eq_true_eq, beq_iff_eq, List.length_cons] at h
  obtain ⟨⟨h1, h2⟩, h3⟩ := h
  -- the bytes of s
  obtain ⟨a, s, rfl⟩ : ∃ a r, s = a :: r := by cases s with
    | nil => simp at h1
    | cons a r => exact ⟨a, r, rfl⟩
  obtain ⟨b, s, rfl⟩ : ∃ b r, s = b :: r := by cases s with
    | nil => simp at h1
    | cons a r => exact ⟨a, r, rfl⟩
  rw [List.take_succ_cons, List.take_succ_cons] at h2
  unfold Asc.lower at h2
  rw [List.map_cons, List.map_cons, List.cons.injEq, List.cons.injEq] at h2
  have hlow : ∀ c d : UInt8, Asc.lowerC c = d → (d = 60 ∨ d = 47) → c = d := fun c d e hd => by
    subst e
    have := Tk.byte_all (P := fun c => !(Asc.lowerC c == 60 || Asc.lowerC c == 47) || c == Asc.lowerC c) (by decide +kernel) c
    rcases hd with hd | hd <;> simpa [hd] using this
  have ea := hlow a 60 h2.1 (.inl rfl)
  have eb := hlow b 47 h2.2.1 (.inr rfl)
  subst ea eb
  have h2' : Asc.lower (s.take n.length) = n := h2.2.2
  rw [List.length_cons, List.length_cons] at h1
  have h3' : Tk.endsIt (s.drop n.length) = true := by
    rw [show 2 + n.length = n.length + 1 + 1 from by omega, List.drop_succ_cons, List.drop_succ_cons] at h3
    exact h3
  -- its name
  have hall : (s.take n.length).all Tk.tn = true := by
    rw [List.all_eq_true]
    intro c hc
    have hm : Asc.lowerC c ∈ n := by
      rw [← h2']
      exact List.mem_map.2 ⟨c, hc, rfl⟩
    have ht := List.all_eq_true.1 hg.2.1 _ hm
    have := Tk.byte_all (P := fun c => !Tk.tn (Asc.lowerC c) || Tk.tn c) (by decide +kernel) c
    simpa [ht] using this
  have htw : s.takeWhile Tk.tn = s.take n.length := by
    have e : s = s.take n.length ++ s.drop n.length := (List.take_append_drop ..).symm
    conv => lhs; rw [e]
    refine Rf.takeWhile_all _ _ _ hall (fun c hc => ?_)
    cases hd : s.drop n.length with
    | nil => rw [hd] at hc; cases hc
    | cons d r =>
      rw [hd] at hc h3'
      have hcd : d = c := by simpa using hc
      subst hcd
      have h4 : (Asc.isBlank d || d == 47 || d == 62) = true := h3'
      unfold Tk.tn
      simp only [Bool.or_eq_true, beq_iff_eq] at h4
      rcases h4 with (h4 | h4) | h4
      · rw [h4]; rfl
      · subst h4; decide
      · subst h4; decide
  have hat : Tk.atLetter s = true := by
    obtain ⟨c, m, e, hc⟩ := hg.1
    cases s with
    | nil =>
      rw [e, List.length_cons] at h1
      simp at h1
    | cons d r =>
      rw [e, List.length_cons, List.take_succ_cons] at h2'
      unfold Asc.lower at h2'
      rw [List.map_cons, List.cons.injEq] at h2'
      show Tk.letB d = true
      have := Tk.byte_all (P := fun c => !Tk.letB (Asc.lowerC c) || Tk.letB c) (by decide +kernel) d
      rw [h2'.1, hc] at this
      simpa using this
  have hi : Tk.isTag (60 :: 47 :: s) = true := by
    show (Tk.letB 47 || (47 : UInt8) == 47 || (47 : UInt8) == 33 || (47 : UInt8) == 63) = true
    decide
  unfold Tk.next
  rw [if_neg (by simp), if_neg (by rw [hi]; simp), if_neg (by show ¬ (Tk.letB 47 = true); decide), if_pos ⟨rfl, hat⟩]
  show (match Tk.tag s with
    | none => _
    | some (k, r) => _ : Tk.Tok × Nat).1 = _ ∨ (match Tk.tag s with
    | none => _
    | some (k, r) => _ : Tk.Tok × Nat) = _
  cases ht : Tk.tag s with
  | none => exact .inr rfl
  | some x =>
    obtain ⟨k, r⟩ := x
    refine .inl ?_
    unfold Tk.tag at ht
    split at ht
    · cases ht
    · cases ht
      show (⟨2, Asc.lower (s.takeWhile Tk.tn), [], false, []⟩ : Tk.Tok) = _
      rw [htw, h2']
theorem all_sq (s : Bs) : TN s → sq (Tk.all s) 0 [] ∧ ∀ n, Tk.isRaw n = true → Tk.endHere n s = true → sq (Tk.all s) 1 n ∧ sq (Tk.all s) 2 n := by
  have main : ∀ s : Bs, (∀ c ∈ s, c ≠ 13 ∧ c ≠ 0) → Utf.isText s = true → sq (Tk.all s) 0 [] ∧ ∀ n, Tk.isRaw n = true → Tk.endHere n s = true → sq (Tk.all s) 1 n ∧ sq (Tk.all s) 2 n := by
    intro s
    refine Tk.all_ind (P := fun s => (∀ c ∈ s, c ≠ 13 ∧ c ≠ 0) → Utf.isText s = true → sq (Tk.all s) 0 [] ∧ ∀ n, Tk.isRaw n = true → Tk.endHere n s = true → sq (Tk.all s) 1 n ∧ sq (Tk.all s) 2 n) ?_ ?_ s
    · intro _ _
      rw [Tk.all_nil]
      exact ⟨trivial, fun n _ _ => ⟨trivial, trivial⟩⟩
    · intro s hs ih hb ht
      have hst := Tk.step_text s ht
      have hb2 : ∀ c ∈ (Tk.stepT s).2, c ≠ 13 ∧ c ≠ 0 := fun c hc => by
        refine hb c ?_
        unfold Tk.stepT at hc
        split at hc
        · exact List.mem_of_mem_drop (List.mem_of_mem_drop hc)
        · exact List.mem_of_mem_drop hc
      have ih := ih hb2 hst.2
      rw [Tk.all_go s hs]
      refine ⟨?_, fun n hr hh => ?_⟩
      · unfold Tk.stepT at ih hst ⊢
        by_cases hr : (Tk.next s).1.kind = 1 ∧ Tk.isRaw (Tk.next s).1.name = true
        · rw [if_pos hr] at ih hst ⊢
          simp only at ih hst ⊢
          obtain ⟨hg, h60⟩ := raw_good hr.2
          rw [List.cons_append, sq, if_pos hr]
          have hx := ends_take h60 hg (s.drop (Tk.next s).2)
          have hz := ends_stop (Tk.next s).1.name (s.drop (Tk.next s).2)
          generalize (Tk.next s).1.name = n at *
          generalize hq : s.drop (Tk.next s).2 = q at *
          have hsub : ∀ c ∈ q, c ≠ 13 ∧ c ≠ 0 := fun c hc => hb c (by rw [← hq] at hc; exact List.mem_of_mem_drop hc)
          have hrest : sq (Tk.all (q.drop (Tk.ends n q))) 1 n ∧ sq (Tk.all (q.drop (Tk.ends n q))) 2 n := by
            rcases hz with hz | hz
            · rw [hz, Tk.all_nil]
              exact ⟨trivial, trivial⟩
            · exact ih.2 n hr.2 hz
          by_cases h0 : Tk.ends n q = 0
          · rw [if_pos h0]
            exact hrest.1
          · rw [if_neg h0] at hst ⊢
            rw [List.singleton_append, sq]
            refine .inl ⟨rfl, fun hd => ?_, hrest.2⟩
            have ht2 := (hst.1 _ (List.mem_cons_of_mem _ (List.mem_singleton.2 rfl))).2.2
            show RawX n (if Tk.isDec n = true then _ else _) ∧ TN (if Tk.isDec n = true then _ else _)
            rw [if_neg (by rw [hd]; simp)]
            refine ⟨hx, ?_, fun c hc => hsub c (List.mem_of_mem_take hc)⟩
            have ht3 : Utf.isText (if Tk.isDec n = true then Rf.dec false (q.take (Tk.ends n q)) else q.take (Tk.ends n q)) = true := ht2
            rw [if_neg (by rw [hd]; simp)] at ht3
            exact ht3
        · rw [if_neg hr] at ih ⊢
          simp only at ih ⊢
          by_cases h0 : (Tk.next s).1.kind = 0
          · rw [if_pos h0]
            exact ih.1
          · rw [if_neg h0, List.singleton_append, sq, if_neg hr]
            exact ih.1
      · have hn := next_endHere hr hh
        unfold Tk.stepT at ih ⊢
        rcases hn with hn | hn
        · rw [hn] at ih ⊢
          rw [if_neg (fun h => by cases h.1)] at ih ⊢
          simp only at ih ⊢
          rw [if_neg (by decide), List.singleton_append]
          exact ⟨.inr ⟨rfl, rfl, ih.1⟩, rfl, rfl, ih.1⟩
        · rw [hn] at ih ⊢
          rw [if_neg (fun h => by cases h.1)] at ih ⊢
          simp only at ih ⊢
          rw [if_pos (show Tk.zero.kind = 0 from rfl), List.drop_length, Tk.all_nil]
          exact ⟨trivial, trivial⟩
  exact fun h => main s h.2 h.1
end Tre
/- A document's trees keep what Rp says: as they are built, token by token. -/
set_option linter.unusedVariables false
set_option linter.unusedSimpArgs false
namespace Tre
theorem dep_congr {a b : List Nd} {m i : Nat} (h : ∀ j, j < m → (ndAt a j).up = (ndAt b j).up) (hu : ∀ j, j < m → j ≠ 0 → 0 ≤ (ndAt b j).up ∧ (ndAt b j).up < (j : Int)) (hi : i < m) : dep a i = dep b i := depF_congr i i m h hu hi
theorem pathF_congr {a b : List Nd} : ∀ f i m, (∀ j, j < m → (ndAt a j).up = (ndAt b j).up) → (∀ j, j < m → j ≠ 0 → 0 ≤ (ndAt b j).up ∧ (ndAt b j).up < (j : Int)) → i < m → pathF a f i = pathF b f i
  | 0, _, _, _, _, _ => rfl
  | f + 1, i, m, h, hu, hi => by
    rw [pathF, pathF, h i hi]
    by_cases h0 : i = 0
    · rw [if_pos h0, if_pos h0]
    · have := hu i hi h0
      rw [if_neg h0, if_neg h0, pathF_congr f _ m h hu (by omega)]
theorem path_congr {a b : List Nd} {m i : Nat} (h : ∀ j, j < m → (ndAt a j).up = (ndAt b j).up) (hu : ∀ j, j < m → j ≠ 0 → 0 ≤ (ndAt b j).up ∧ (ndAt b j).up < (j : Int)) (hi : i < m) : path a i = path b i := pathF_congr i i m h hu hi
theorem Wl.open_path {b : St} (h : Wl b) : ∀ (j a : Nat), b.opn[j]? = some a → path b.nodes a = b.opn.take (j + 1)
  | 0, a, ha => by
    rw [h.op0] at ha
    cases ha
    rw [List.take_add_one, List.take_zero, h.op0]
    rfl
  | j + 1, a, ha => by
    have hj : j + 1 < b.opn.length := (List.getElem?_eq_some_iff.1 ha).1
    obtain ⟨p, hp⟩ : ∃ p, b.opn[j]? = some p := ⟨_, List.getElem?_eq_getElem (by omega)⟩
    have ih := h.open_path j p hp
    have hc := (h.chain j p a hp ha).1
    have hin := (h.opin a (List.mem_of_getElem? ha)).1
    have h0 : a ≠ 0 := by
      rintro rfl
      have h0 := h.root
      unfold rootB at h0
      simp only [Bool.and_eq_true, beq_iff_eq] at h0
      rw [h0.2.1] at hc
      omega
    rw [path_up h.ups hin h0, hc, show ((p : Int)).toNat = p from by omega, ih]
    conv => rhs; rw [List.take_add_one, ha]
    rfl
theorem Wl.top_path {b : St} (h : Wl b) : path b.nodes (top b) = b.opn := by
  have := h.open_path _ _ h.top_at
  have hl := h.oplen
  rw [this, List.take_of_length_le (by omega)]
structure Jv (b : St) : Prop where
  pre : ∀ i j, i < b.nodes.length → i ≠ 0 → (ndAt b.nodes i).up.toNat < j → j < i → dep b.nodes i ≤ dep b.nodes j
  opd : ∀ a ∈ b.opn, ∀ j, a < j → j < b.nodes.length → dep b.nodes a < dep b.nodes j
  sh : ∀ i, i < b.nodes.length → i ≠ 0 → (ndAt b.nodes i).kind = 2 → shutN b.nodes (path b.nodes (ndAt b.nodes i).up.toNat) (closes (ndAt b.nodes i).name).1 ((closes (ndAt b.nodes i).name).2 ++ [body, html]) (path b.nodes (ndAt b.nodes i).up.toNat).length = (path b.nodes (ndAt b.nodes i).up.toNat).length
  un : ∀ i j, i < j → j < b.nodes.length → (ndAt b.nodes i).kind = 2 → (ndAt b.nodes j).kind = 2 → isHB (ndAt b.nodes j).name = true → (ndAt b.nodes i).name ≠ (ndAt b.nodes j).name
  ad : ∀ j, j < b.nodes.length → (ndAt b.nodes j).kind = 3 → ∀ k : Int, (kidsTo b.nodes (ndAt b.nodes j).up.toNat j).getLast? = some k → (ndAt b.nodes k.toNat).kind ≠ 3
  vd : ∀ i, i < b.nodes.length → i ≠ 0 → isVoid (ndAt b.nodes (ndAt b.nodes i).up.toNat).name = false
  ovd : ∀ a ∈ b.opn, isVoid (ndAt b.nodes a).name = false
/-- As far as Up, kind and name go, the first m nodes are the same. -/
def S3 (a b : List Nd) (m : Nat) : Prop := ∀ j, j < m → (ndAt a j).up = (ndAt b j).up ∧ (ndAt a j).kind = (ndAt b j).kind ∧ (ndAt a j).name = (ndAt b j).name
theorem pathIn {ns : List Nd} {m : Nat} (hu : ∀ j, j < m → j ≠ 0 → 0 ≤ (ndAt ns j).up ∧ (ndAt ns j).up < (j : Int)) : ∀ f i, i < m → ∀ x ∈ pathF ns f i, x ≤ i
  | 0, i, hi, x, hx => by
    rw [pathF, List.mem_singleton] at hx
    omega
  | f + 1, i, hi, x, hx => by
    rw [pathF] at hx
    split at hx
    · rw [List.mem_singleton] at hx
      omega
    · rename_i h0
      have := hu i hi h0
      rw [List.mem_append, List.mem_singleton] at hx
      rcases hx with hx | rfl
      · have := pathIn hu f _ (by omega) x hx
        omega
      · exact Nat.le_refl _
theorem Jv.congr {b b' : St} (hw : Wl b) (hl : b'.nodes.length = b.nodes.length) (ho : b'.opn = b.opn) (h3 : S3 b'.nodes b.nodes b.nodes.length) (h : Jv b) : Jv b' := by
  have hu := hw.ups
  have hU : ∀ j, j < b.nodes.length → (ndAt b'.nodes j).up = (ndAt b.nodes j).up := fun j hj => (h3 j hj).1
  have hd : ∀ i, i < b.nodes.length → dep b'.nodes i = dep b.nodes i := fun i hi => dep_congr hU hu hi
  refine ⟨fun i j hi h0 h1 h2 => ?_, fun a ha j h1 h2 => ?_, fun i hi h0 hk => ?_, fun i j h1 h2 k1 k2 hb => ?_, fun j hj hk k hg => ?_, fun i hi h0 => ?_, fun a ha => ?_⟩
  · rw [hl] at hi
    rw [hU i hi] at h1
    rw [hd i hi, hd j (by omega)]
    exact h.pre i j hi h0 h1 h2
  · rw [ho] at ha
    rw [hl] at h2
    rw [hd a (by omega), hd j h2]
    exact h.opd a ha j h1 h2
  · rw [hl] at hi
    have hup := hu i hi h0
    rw [(h3 i hi).2.1] at hk
    rw [hU i hi, (h3 i hi).2.2, path_congr hU hu (by omega), shutN_names (b := b.nodes) _ _ (fun x hx => by
      have := pathIn hu _ _ (by omega) x hx
      exact (h3 x (by omega)).2.2) _ (Nat.le_refl _)]
    exact h.sh i hi h0 hk
  · rw [hl] at h2
    rw [(h3 i (by omega)).2.1] at k1
    rw [(h3 j h2).2.1] at k2
    rw [(h3 j h2).2.2] at hb ⊢
    rw [(h3 i (by omega)).2.2]
    exact h.un i j h1 h2 k1 k2 hb
  · rw [hl] at hj
    rw [(h3 j hj).2.1] at hk
    rw [hU j hj, kidsTo_congr _ _ (fun i hi => hU i (by omega))] at hg
    obtain ⟨i, rfl, h1, _⟩ := kidsTo_mem _ _ _ _ (List.mem_of_getLast? hg)
    rw [(h3 _ (by omega)).2.1]
    exact h.ad j hj hk _ hg
  · rw [hl] at hi
    have hup := hu i hi h0
    rw [hU i hi, (h3 _ (by omega)).2.2]
    exact h.vd i hi h0
  · rw [ho] at ha
    rw [(h3 a (hw.opin a ha).1).2.2]
    exact h.ovd a ha
theorem Jv.take {b : St} (h : Jv b) (m : Nat) : Jv ⟨b.nodes, b.opn.take m⟩ := ⟨h.pre, fun a ha => h.opd a (List.mem_of_mem_take ha), h.sh, h.un, h.ad, h.vd, fun a ha => h.ovd a (List.mem_of_mem_take ha)⟩
theorem Jv.shut {b : St} (h : Jv b) (names walls : List Bs) : Jv (shut b names walls) := h.take _
theorem Jv.lay {b : St} {n : Nd} (hw : Wl b) (hw2 : Wl ⟨laid b n, b.opn⟩) (h : Jv b)
    (h2 : n.kind = 2 → shutN b.nodes b.opn (closes n.name).1 ((closes n.name).2 ++ [body, html]) b.opn.length = b.opn.length ∧ (isHB n.name = true → ∀ i, i < b.nodes.length → (ndAt b.nodes i).kind = 2 → (ndAt b.nodes i).name ≠ n.name))
    (hk3 : n.kind = 3 → ∀ k : Int, (ndAt b.nodes (top b)).kids.getLast? = some k → (ndAt b.nodes k.toNat).kind ≠ 3) : Jv ⟨laid b n, b.opn⟩ := by
  have ht := hw.top_in
  have hl := laid_len b n
  have hu := hw.ups
  have h3 : S3 (laid b n) b.nodes b.nodes.length := fun j hj => by
    obtain ⟨e1, e2, e3, _⟩ := laid_old (n := n) ht.1 hj
    exact ⟨e1, e2, e3⟩
  have hU : ∀ j, j < b.nodes.length → (ndAt (laid b n) j).up = (ndAt b.nodes j).up := fun j hj => (h3 j hj).1
  have hd : ∀ i, i < b.nodes.length → dep (laid b n) i = dep b.nodes i := fun i hi => dep_congr hU hu hi
  have hne := laid_new (n := n) ht.1
  have hup : (ndAt (laid b n) b.nodes.length).up = ((top b : Nat) : Int) := by rw [hne]
  have hkn : (ndAt (laid b n) b.nodes.length).kind = n.kind := by rw [hne]
  have hnn : (ndAt (laid b n) b.nodes.length).name = n.name := by rw [hne]
  have hdn : dep (laid b n) b.nodes.length = dep b.nodes (top b) + 1 := by
    have := dep_up hw2.ups (i := b.nodes.length) (by show _ < (laid b n).length; rw [hl]; omega) (by have := hw.len; omega)
    rw [hup, show (((top b : Nat) : Int)).toNat = top b from by omega, hd _ ht.1] at this
    exact this
  have htd : ∀ a ∈ b.opn, dep b.nodes a ≤ dep b.nodes (top b) := fun a ha => by
    obtain ⟨j, hj⟩ := List.mem_iff_getElem?.1 ha
    have hjl := (List.getElem?_eq_some_iff.1 hj).1
    rw [hw.open_dep j a hj, hw.top_dep]
    omega
  have htm : top b ∈ b.opn := List.mem_of_getElem? hw.top_at
  refine ⟨fun i j hi h0 h1 h2' => ?_, fun a ha j h1 h2' => ?_, fun i hi h0 hk => ?_, fun i j h1 h2' k1 k2 hb => ?_, fun j hj hk k hg => ?_, fun i hi h0 => ?_, fun a ha => ?_⟩
  all_goals simp only at *
  · rw [hl] at hi
    by_cases e : i = b.nodes.length
    · subst e
      rw [hup] at h1
      rw [hdn, hd j h2']
      exact h.opd _ htm j (by omega) h2'
    · rw [hU i (by omega)] at h1
      rw [hd i (by omega), hd j (by omega)]
      exact h.pre i j (by omega) h0 h1 h2'
  · rw [hl] at h2'
    rw [hd a (by have := (hw.opin a ha).1; omega)]
    by_cases e : j = b.nodes.length
    · subst e
      rw [hdn]
      have := htd a ha
      omega
    · rw [hd j (by omega)]
      exact h.opd a ha j h1 (by omega)
  · rw [hl] at hi
    by_cases e : i = b.nodes.length
    · subst e
      rw [hkn] at hk
      rw [hup, hnn, show (((top b : Nat) : Int)).toNat = top b from by omega, path_congr hU hu ht.1, hw.top_path, shutN_names (b := b.nodes) _ _ (fun x hx => (h3 x (hw.opin x hx).1).2.2) _ (Nat.le_refl _)]
      exact (h2 hk).1
    · have hi2 : i < b.nodes.length := by omega
      have hup := hu i hi2 h0
      rw [(h3 i hi2).2.1] at hk
      rw [hU i hi2, (h3 i hi2).2.2, path_congr hU hu (by omega), shutN_names (b := b.nodes) _ _ (fun x hx => by
        have := pathIn hu _ _ (by omega) x hx
        exact (h3 x (by omega)).2.2) _ (Nat.le_refl _)]
      exact h.sh i hi2 h0 hk
  · rw [hl] at h2'
    rw [(h3 i (by omega)).2.1] at k1
    rw [(h3 i (by omega)).2.2]
    by_cases e : j = b.nodes.length
    · subst e
      rw [hkn] at k2
      rw [hnn] at hb ⊢
      exact (h2 k2).2 hb i h1 k1
    · have hj2 : j < b.nodes.length := by omega
      rw [(h3 j hj2).2.1] at k2
      rw [(h3 j hj2).2.2] at hb ⊢
      exact h.un i j h1 hj2 k1 k2 hb
  · rw [hl] at hj
    have hkt : kidsTo (laid b n) (ndAt (laid b n) j).up.toNat j = kidsTo b.nodes (ndAt (laid b n) j).up.toNat j := kidsTo_congr _ _ (fun i hi => hU i (by omega))
    rw [hkt] at hg
    obtain ⟨i, rfl, h1, _⟩ := kidsTo_mem _ _ _ _ (List.mem_of_getLast? hg)
    rw [(h3 _ (by omega)).2.1]
    by_cases e : j = b.nodes.length
    · subst e
      rw [hkn] at hk
      rw [hup, show (((top b : Nat) : Int)).toNat = top b from by omega, ← hw.kids _ ht.1] at hg
      exact hk3 hk _ hg
    · have hj2 : j < b.nodes.length := by omega
      rw [(h3 j hj2).2.1] at hk
      rw [hU j hj2] at hg
      exact h.ad j hj2 hk _ hg
  · rw [hl] at hi
    by_cases e : i = b.nodes.length
    · subst e
      rw [hup, show (((top b : Nat) : Int)).toNat = top b from by omega, (h3 _ ht.1).2.2]
      exact h.ovd _ htm
    · have hup := hu i (by omega) h0
      rw [hU i (by omega), (h3 _ (by omega)).2.2]
      exact h.vd i (by omega) h0
  · rw [(h3 a (hw.opin a ha).1).2.2]
    exact h.ovd a ha
theorem Jv.opened {b : St} {n : Nd} (hw : Wl b) (h : Jv ⟨laid b n, b.opn⟩) (hv : isVoid n.name = false) : Jv ⟨laid b n, b.opn ++ [b.nodes.length]⟩ := by
  have ht := hw.top_in
  have hl := laid_len b n
  have hne := laid_new (n := n) ht.1
  refine ⟨h.pre, fun a ha j h1 h2 => ?_, h.sh, h.un, h.ad, h.vd, fun a ha => ?_⟩
  · rcases List.mem_append.1 ha with ha | ha
    · exact h.opd a ha j h1 h2
    · rw [List.mem_singleton] at ha
      have h2' : j < (laid b n).length := h2
      omega
  · rcases List.mem_append.1 ha with ha | ha
    · exact h.ovd a ha
    · rw [List.mem_singleton] at ha
      subst ha
      show isVoid (ndAt (laid b n) b.nodes.length).name = false
      rw [hne]
      exact hv
/-! ### what was closed once needs no closing again -/
theorem closes_class {n x : Bs} (h : x ∈ (closes n).1) : closes x = closes n := by
  have hp : ∀ x : Bs, x ∈ (closes n).1 → x ∈ [[108, 105]] ∨ True := fun _ _ => .inr trivial
  by_cases h1 : n = [108, 105]
  · subst h1
    have : x = [108, 105] := by simpa [closes] using h
    rw [this]
  by_cases h2 : n = [100, 116]
  · subst h2
    have : x = [100, 116] ∨ x = [100, 100] := by simpa [closes] using h
    rcases this with rfl | rfl <;> rfl
  by_cases h3 : n = [100, 100]
  · subst h3
    have : x = [100, 116] ∨ x = [100, 100] := by simpa [closes] using h
    rcases this with rfl | rfl <;> rfl
  by_cases h4 : n = [111, 112, 116, 105, 111, 110]
  · subst h4
    have : x = [111, 112, 116, 105, 111, 110] := by simpa [closes] using h
    rw [this]
  by_cases h5 : n = [116, 114]
  · subst h5
    have : x = [116, 114] := by simpa [closes] using h
    rw [this]
  by_cases h6 : n = [116, 100]
  · subst h6
    have : x = [116, 100] ∨ x = [116, 104] := by simpa [closes] using h
    rcases this with rfl | rfl <;> rfl
  by_cases h7 : n = [116, 104]
  · subst h7
    have : x = [116, 100] ∨ x = [116, 104] := by simpa [closes] using h
    rcases this with rfl | rfl <;> rfl
  have hc : closes n = if isBlock n = true then ([[112]], [[98, 117, 116, 116, 111, 110], [116, 97, 98, 108, 101], [116, 100], [116, 104], [108, 105], [111, 98, 106, 101, 99, 116]]) else ([], []) := by
    unfold closes
    rw [if_neg h1, if_neg h2, if_neg h3, if_neg h4, if_neg h5, if_neg h6, if_neg h7]
  rw [hc] at h ⊢
  by_cases h8 : isBlock n = true
  · rw [if_pos h8] at h ⊢
    have : x = [112] := by simpa using h
    subst this
    decide +kernel
  · rw [if_neg h8] at h
    cases h
theorem shutN_cases (ns : List Nd) (op : List Nat) (names walls : List Bs) : ∀ k, shutN ns op names walls k = op.length ∨ ∃ r, 1 ≤ r ∧ r < k ∧ shutN ns op names walls k = r ∧ (ndAt ns ((op[r]?).getD 0)).name ∈ names
  | 0 => .inl rfl
  | 1 => .inl rfl
  | k + 2 => by
    rw [shutN]
    split
    · rename_i h
      exact .inr ⟨k + 1, by omega, by omega, rfl, List.contains_iff_mem.1 h⟩
    · split
      · exact .inl rfl
      · rcases shutN_cases ns op names walls (k + 1) with h | ⟨r, h1, h2, h3, h4⟩
        · exact .inl h
        · exact .inr ⟨r, h1, by omega, h3, h4⟩
theorem shut_twice {b : St} (hw : Wl b) (h : Jv b) (n : Bs) : shutN b.nodes (shut b (closes n).1 ((closes n).2 ++ [body, html])).opn (closes n).1 ((closes n).2 ++ [body, html]) (shut b (closes n).1 ((closes n).2 ++ [body, html])).opn.length = (shut b (closes n).1 ((closes n).2 ++ [body, html])).opn.length := by
  show shutN b.nodes (b.opn.take _) _ _ (b.opn.take _).length = (b.opn.take _).length
  rcases shutN_cases b.nodes b.opn (closes n).1 ((closes n).2 ++ [body, html]) b.opn.length with e | ⟨r, h1, h2, e, h4⟩
  · rw [e, List.take_length, e]
  · rw [e]
    obtain ⟨a, ha⟩ : ∃ a, b.opn[r]? = some a := ⟨_, List.getElem?_eq_getElem h2⟩
    rw [ha] at h4
    have h4' : (ndAt b.nodes a).name ∈ (closes n).1 := h4
    obtain ⟨q, rfl⟩ : ∃ q, r = q + 1 := ⟨r - 1, by omega⟩
    obtain ⟨p, hp⟩ : ∃ p, b.opn[q]? = some p := ⟨_, List.getElem?_eq_getElem (by omega)⟩
    have hc := (hw.chain q p a hp ha).1
    have hin := hw.opin a (List.mem_of_getElem? ha)
    have h0 : a ≠ 0 := by
      rintro rfl
      have h0 := hw.root
      unfold rootB at h0
      simp only [Bool.and_eq_true, beq_iff_eq] at h0
      rw [h0.2.1] at hc
      omega
    have hk : (ndAt b.nodes a).kind = 2 := by
      rcases hw.plain hin.1 h0 with he | he
      · exact elem_kind he
      · exact absurd (text_kind he) hin.2
    have hs := h.sh a hin.1 h0 hk
    rw [hc, show ((p : Int)).toNat = p from by omega, hw.open_path q p hp, closes_class h4'] at hs
    exact hs
theorem findN_no {ns : List Nd} {n : Bs} (h : findN ns n = none) : ∀ i, i < ns.length → (ndAt ns i).kind = 2 → (ndAt ns i).name ≠ n := fun i hi hk hn => by
  unfold findN at h
  rw [List.findIdx?_eq_none_iff] at h
  have := h (ndAt ns i) (List.mem_of_getElem? (ndAt_get hi))
  rw [hk, hn] at this
  simp at this
theorem Jv.step {b b2 : St} (hw : Wl b) (h : Jv b) {k : Tk.Tok} (hk : TokOk k) (hs : step b k = .ok b2) : Jv b2 := by
  have hmod : ∀ (i : Nat) (f : Nd → Nd), i < b.nodes.length → (∀ m, (f m).up = m.up ∧ (f m).kind = m.kind ∧ (f m).name = m.name) → Jv ⟨b.nodes.modify i f, b.opn⟩ := fun i f hi hf => by
    refine Jv.congr hw (by simp) rfl (fun j hj => ?_) h
    simp only
    rw [ndAt_modify _ _ _ _ hi]
    split
    · exact hf _
    · exact ⟨rfl, rfl, rfl⟩
  unfold Tre.step at hs
  split at hs
  · rename_i h1
    obtain ⟨hn, ha⟩ := hk.1 h1
    unfold startT at hs
    split at hs
    · rename_i i hf
      cases hs
      unfold firstN at hf
      split at hf
      · exact hmod i _ (findN_is hf).1 (fun m => ⟨rfl, rfl, rfl⟩)
      · cases hf
    · rename_i hf
      split at hs
      · cases hs
      · rename_i b3 e
        have hw3 := hw.shut (closes k.name).1 ((closes k.name).2 ++ [body, html])
        have h3 := h.shut (closes k.name).1 ((closes k.name).2 ++ [body, html])
        obtain ⟨l1, l2, rfl⟩ := lay_ok e
        have hel : elemB ⟨2, k.name, k.attrs, [], 0, []⟩ = true := by
          unfold elemB
          simp only [Bool.and_eq_true, Bool.not_eq_true', beq_iff_eq, beq_eq_false_iff_ne, ne_eq]
          exact ⟨trivial, hn, named_has ha, trivial⟩
        have hL := h3.lay hw3 (n := ⟨2, k.name, k.attrs, [], 0, []⟩) (hw3.lay rfl (.inl hel) l2) (fun _ => ⟨shut_twice hw h k.name, fun hb => by
          unfold firstN at hf
          rw [if_pos hb] at hf
          exact findN_no hf⟩) (fun e => by cases e)
        cases hs
        by_cases hv : isVoid k.name = true
        · rw [if_pos hv]
          exact hL
        · rw [if_neg hv]
          exact hL.opened hw3 (by simpa using hv)
  split at hs
  · cases hs
    exact h.shut _ _
  split at hs
  · rename_i h3
    have hx := hk.2 h3
    have htx : Plain ⟨3, [], [], k.text, 0, []⟩ := .inr (by
      unfold textB
      simp only [Bool.and_eq_true, Bool.not_eq_true', beq_iff_eq, beq_eq_false_iff_ne, ne_eq]
      exact ⟨trivial, trivial, rfl, hx⟩)
    unfold textT at hs
    split at hs
    · rename_i i hi
      split at hs
      · cases hs
        obtain ⟨j, rfl, j1, j0⟩ := hw.last_kid hi
        exact hmod _ _ (by omega) (fun m => ⟨rfl, rfl, rfl⟩)
      · rename_i hno
        obtain ⟨l1, l2, rfl⟩ := lay_ok hs
        exact h.lay hw (hw.lay rfl htx l2) (fun e => by cases e) (fun _ q hq => by
          rw [hi] at hq
          cases hq
          exact hno)
    · rename_i hi
      obtain ⟨l1, l2, rfl⟩ := lay_ok hs
      exact h.lay hw (hw.lay rfl htx l2) (fun e => by cases e) (fun _ q hq => by
        rw [hi] at hq
        cases hq)
  · cases hs
    exact h
theorem jv_start : Jv start0 := by
  refine ⟨?_, ?_, ?_, ?_, ?_, ?_, ?_⟩
  · intro i j hi h0
    simp [start0] at hi
    omega
  · intro a ha j h1 h2
    simp [start0] at ha h2
    omega
  · intro i hi h0
    simp [start0] at hi
    omega
  · intro i j h1 h2
    simp [start0] at h2
    omega
  · intro j hj hk
    simp [start0] at hj
    subst hj
    cases hk
  · intro i hi h0
    simp [start0] at hi
    omega
  · intro a ha
    simp [start0] at ha
    subst ha
    rfl
theorem Jv.build : ∀ (ks : List Tk.Tok) (b b2 : St), Wl b → Jv b → (∀ k ∈ ks, TokOk k) → build ks b = .ok b2 → Jv b2
  | [], b, b2, _, h, _, hb => by cases hb; exact h
  | k :: ks, b, b2, hw, h, hk, hb => by
    rw [Tre.build] at hb
    split at hb
    · cases hb
    · rename_i b3 e
      have hk1 := hk k (List.mem_cons_self ..)
      exact Jv.build ks b3 b2 (hw.step hk1 e) (h.step hw hk1 e) (fun x hx => hk x (List.mem_cons_of_mem _ hx)) hb
end Tre
/- A document's trees keep what Rp says: names, texts, and what lies in a script, style, textarea or title; what is written of them is parsed as they are (P13.6). -/
set_option linter.unusedVariables false
set_option linter.unusedSimpArgs false
namespace Tre
/-! ### names and texts -/
def AtsOk (as : List At) : Prop := Tk.goodA as ∧ ∀ a ∈ as, TN a.1 ∧ T0 a.2
def TokG (k : Tk.Tok) : Prop := (k.kind = 1 → Tk.goodT k.name ∧ AtsOk k.attrs ∧ TN k.name) ∧ (k.kind = 3 → T0 k.text)
theorem blank_tn {c : UInt8} (h : Tk.tn c = true) : c ≠ 13 := fun e => by
  subst e
  revert h
  decide
theorem tokG_of {k : Tk.Tok} (hf : Tk.Fine k) (ht : Tk.TextT k) (hz : Z0T k) : TokG k := by
  refine ⟨fun h1 => ?_, fun h3 => ⟨ht.2.2, hz.2.2⟩⟩
  have hk : Tk.goodT k.name ∧ Tk.goodA k.attrs := by
    rcases hf with ⟨_, h2, h3, _⟩ | ⟨h2, _⟩ | ⟨h2, _⟩ | ⟨h2, _⟩
    · exact ⟨h2, h3⟩
    · omega
    · omega
    · omega
  refine ⟨hk.1, ⟨hk.2, fun a ha => ⟨⟨(ht.2.1 a ha).1, fun c hc => ⟨?_, (hz.2.1 a ha).1 c hc⟩⟩, (ht.2.1 a ha).2, (hz.2.1 a ha).2⟩⟩, ht.1, fun c hc => ⟨blank_tn (List.all_eq_true.1 hk.1.2.1 c hc), hz.1 c hc⟩⟩
  obtain ⟨⟨d, m, e, hd, hm⟩, _⟩ := hk.2.2.2 a ha
  rw [e] at hc
  rcases List.mem_cons.1 hc with rfl | hc
  · exact blank_tn hd
  · have := List.all_eq_true.1 hm c hc
    unfold Tk.an at this
    simp only [Bool.and_eq_true] at this
    exact blank_tn this.1
theorem AtsOk.add {as : List At} {a : At} (h : AtsOk as) (hg : Tk.goodN a.1) (ha : TN a.1 ∧ T0 a.2) : AtsOk (Tk.add as a) := by
  refine ⟨Tk.add_good as a h.1 hg, fun x hx => ?_⟩
  unfold Tk.add at hx
  split at hx
  · rcases List.mem_append.1 hx with hx | hx
    · exact h.2 x hx
    · rw [List.mem_singleton.1 hx]
      exact ha
  · exact h.2 x hx
theorem AtsOk.addAll : ∀ {bs as : List At}, AtsOk as → AtsOk bs → AtsOk (addAll as bs)
  | [], as, h, _ => h
  | b :: bs, as, h, hb => by
    have h1 := h.add (hb.1.2.2 b (List.mem_cons_self ..)) (hb.2 b (List.mem_cons_self ..))
    have h2 : AtsOk bs := ⟨⟨by have := hb.1.1; rw [List.length_cons] at this; omega, (List.pairwise_cons.1 hb.1.2.1).2, fun a ha => hb.1.2.2 a (List.mem_cons_of_mem _ ha)⟩, fun a ha => hb.2 a (List.mem_cons_of_mem _ ha)⟩
    exact AtsOk.addAll (bs := bs) (as := Tk.add as b) h1 h2
structure Nv (b : St) : Prop where
  nm : ∀ i, i < b.nodes.length → (ndAt b.nodes i).kind = 2 → Tk.goodT (ndAt b.nodes i).name ∧ AtsOk (ndAt b.nodes i).attrs ∧ TN (ndAt b.nodes i).name
  tx : ∀ i, i < b.nodes.length → (ndAt b.nodes i).kind = 3 → T0 (ndAt b.nodes i).text
theorem Nv.lay {b : St} {n : Nd} (hw : Wl b) (h : Nv b) (h2 : n.kind = 2 → Tk.goodT n.name ∧ AtsOk n.attrs ∧ TN n.name) (h3 : n.kind = 3 → T0 n.text) (op : List Nat) : Nv ⟨laid b n, op⟩ := by
  have ht := hw.top_in
  have hl := laid_len b n
  have hne := laid_new (n := n) ht.1
  refine ⟨fun i hi hk => ?_, fun i hi hk => ?_⟩
  all_goals simp only at *
  all_goals rw [hl] at hi
  · by_cases e : i = b.nodes.length
    · subst e
      rw [hne] at hk ⊢
      exact h2 hk
    · obtain ⟨e1, e2, e3, e4, e5, _⟩ := laid_old (n := n) ht.1 (j := i) (by omega)
      rw [e2] at hk
      rw [e3, e4]
      exact h.nm i (by omega) hk
  · by_cases e : i = b.nodes.length
    · subst e
      rw [hne] at hk ⊢
      exact h3 hk
    · obtain ⟨e1, e2, e3, e4, e5, _⟩ := laid_old (n := n) ht.1 (j := i) (by omega)
      rw [e2] at hk
      rw [e5]
      exact h.tx i (by omega) hk
theorem T0.app {a b : Bs} (ha : T0 a) (hb : T0 b) : T0 (a ++ b) := ⟨text_app a b ha.1 hb.1, ha.2.app hb.2⟩
theorem Nv.step {b b2 : St} (hw : Wl b) (h : Nv b) {k : Tk.Tok} (hk : TokG k) (hs : step b k = .ok b2) : Nv b2 := by
  unfold Tre.step at hs
  split at hs
  · rename_i h1
    have hk1 := hk.1 h1
    unfold startT at hs
    split at hs
    · rename_i i hf
      cases hs
      unfold firstN at hf
      split at hf
      · obtain ⟨f1, f2, f3⟩ := findN_is hf
        refine ⟨fun j hj hkj => ?_, fun j hj hkj => ?_⟩
        all_goals simp only [List.length_modify] at hj
        all_goals simp only at hkj ⊢
        all_goals rw [ndAt_modify _ _ _ _ f1] at hkj ⊢
        all_goals split at hkj
        · rename_i e
          rw [if_pos e]
          have h9 := h.nm j hj hkj
          exact ⟨h9.1, h9.2.1.addAll hk1.2.1, h9.2.2⟩
        · rename_i e
          rw [if_neg e]
          exact h.nm j hj hkj
        · rename_i e
          rw [if_pos e]
          exact h.tx j hj hkj
        · rename_i e
          rw [if_neg e]
          exact h.tx j hj hkj
      · cases hf
    · split at hs
      · cases hs
      · rename_i b3 e
        have hw3 := hw.shut (closes k.name).1 ((closes k.name).2 ++ [body, html])
        have h3 : Nv (shut b (closes k.name).1 ((closes k.name).2 ++ [body, html])) := ⟨h.nm, h.tx⟩
        obtain ⟨l1, l2, rfl⟩ := lay_ok e
        cases hs
        split
        · exact h3.lay hw3 (fun _ => hk1) (fun e => by cases e) _
        · exact h3.lay hw3 (fun _ => hk1) (fun e => by cases e) _
  split at hs
  · cases hs
    exact ⟨h.nm, h.tx⟩
  split at hs
  · rename_i h3
    have hx := hk.2 h3
    unfold textT at hs
    split at hs
    · rename_i i hi
      split at hs
      · cases hs
        obtain ⟨j, rfl, j1, j0⟩ := hw.last_kid hi
        rw [show ((j : Int)).toNat = j from by omega]
        refine ⟨fun q hj hkj => ?_, fun q hj hkj => ?_⟩
        all_goals simp only [List.length_modify] at hj
        all_goals simp only at hkj ⊢
        all_goals rw [ndAt_modify _ _ _ _ j1] at hkj ⊢
        all_goals split at hkj
        · rename_i e
          rw [if_pos e]
          exact h.nm q hj hkj
        · rename_i e
          rw [if_neg e]
          exact h.nm q hj hkj
        · rename_i e
          rw [if_pos e]
          exact (h.tx q hj hkj).app hx
        · rename_i e
          rw [if_neg e]
          exact h.tx q hj hkj
      · obtain ⟨l1, l2, rfl⟩ := lay_ok hs
        exact h.lay hw (fun e => by cases e) (fun _ => hx) _
    · obtain ⟨l1, l2, rfl⟩ := lay_ok hs
      exact h.lay hw (fun e => by cases e) (fun _ => hx) _
  · cases hs
    exact h
theorem nv_start : Nv start0 := by
  refine ⟨fun i hi hk => ?_, fun i hi hk => ?_⟩
  all_goals simp [start0] at hi
  all_goals subst hi
  all_goals cases hk
/-! ### what lies in a script, style, textarea or title -/
def RwAt (ns : List Nd) (i : Nat) : Prop := (ndAt ns i).kids = [] ∨ ∃ t : Nat, (ndAt ns i).kids = [(t : Int)] ∧ (ndAt ns t).kind = 3 ∧ (Tk.isDec (ndAt ns i).name = false → RawX (ndAt ns i).name (ndAt ns t).text ∧ TN (ndAt ns t).text)
def Rw (b : St) : Prop := ∀ i, i < b.nodes.length → (ndAt b.nodes i).kind = 2 → Tk.isRaw (ndAt b.nodes i).name = true → RwAt b.nodes i
def Ph (b : St) : Nat → Bs → Prop
  | 0, _ => ∀ a ∈ b.opn, Tk.isRaw (ndAt b.nodes a).name = false
  | 1, n => (∀ a ∈ b.opn.dropLast, Tk.isRaw (ndAt b.nodes a).name = false) ∧ (ndAt b.nodes (top b)).name = n ∧ (ndAt b.nodes (top b)).kind = 2 ∧ Tk.isRaw n = true ∧ (ndAt b.nodes (top b)).kids = []
  | _ + 2, n => (∀ a ∈ b.opn.dropLast, Tk.isRaw (ndAt b.nodes a).name = false) ∧ (ndAt b.nodes (top b)).name = n ∧ (ndAt b.nodes (top b)).kind = 2 ∧ Tk.isRaw n = true
theorem Rw.lay {b : St} {n : Nd} (hw : Wl b) (h : Rw b) (hnk : n.kids = []) (htop : Tk.isRaw (ndAt b.nodes (top b)).name = false ∨ (ndAt b.nodes (top b)).kids = [] ∧ n.kind = 3 ∧ (Tk.isDec (ndAt b.nodes (top b)).name = false → RawX (ndAt b.nodes (top b)).name n.text ∧ TN n.text)) (op : List Nat) : Rw ⟨laid b n, op⟩ := by
  have ht := hw.top_in
  have hl := laid_len b n
  have hne := laid_new (n := n) ht.1
  intro i hi hk hr
  simp only at *
  rw [hl] at hi
  by_cases e : i = b.nodes.length
  · subst e
    refine .inl ?_
    rw [hne]
    exact hnk
  · have hi2 : i < b.nodes.length := by omega
    obtain ⟨e1, e2, e3, e4, e5, e6⟩ := laid_old (n := n) ht.1 hi2
    rw [e2] at hk
    rw [e3] at hr
    by_cases et : top b = i
    · subst et
      rcases htop with htop | ⟨hk0, hn3, hx⟩
      · rw [htop] at hr
        cases hr
      · refine .inr ⟨b.nodes.length, ?_, ?_, fun hd => ?_⟩
        · rw [e6, if_pos rfl, hk0]
          rfl
        · rw [hne]
          exact hn3
        · rw [e3] at hd ⊢
          rw [hne]
          exact hx hd
    · rw [if_neg et] at e6
      rcases h i hi2 hk hr with h1 | ⟨t, h1, h2, h3⟩
      · exact .inl (e6.trans h1)
      · have htl : t < b.nodes.length := by
          have hm : (t : Int) ∈ (ndAt b.nodes i).kids := by rw [h1]; exact List.mem_singleton.2 rfl
          rw [hw.kids i hi2] at hm
          obtain ⟨q, hq, hql, _⟩ := kidsTo_mem _ _ _ _ hm
          omega
        obtain ⟨_, f2, _, _, f5, _⟩ := laid_old (n := n) ht.1 htl
        refine .inr ⟨t, e6.trans h1, f2.trans h2, fun hd => ?_⟩
        rw [e3] at hd ⊢
        rw [f5]
        exact h3 hd
theorem laid_name {b : St} {n : Nd} (hw : Wl b) {a : Nat} (ha : a ∈ b.opn) : (ndAt (laid b n) a).name = (ndAt b.nodes a).name := (laid_old (n := n) hw.top_in.1 (hw.opin a ha).1).2.2.1
theorem raw_plain {n : Bs} (h : Tk.isRaw n = true) : isHB n = false ∧ isVoid n = false := by
  have h4 : n ∈ Tk.rawNames := by
    unfold Tk.isRaw at h
    simp only [Bool.or_eq_true, beq_iff_eq] at h
    unfold Tk.rawNames
    simp only [List.mem_cons, List.not_mem_nil, or_false]
    rcases h with ((h | h) | h) | h
    · exact .inl h
    · exact .inr (.inl h)
    · exact .inr (.inr (.inl h))
    · exact .inr (.inr (.inr h))
  have : ∀ m ∈ Tk.rawNames, isHB m = false ∧ isVoid m = false := by decide +kernel
  exact this n h4
/-- The end tag of the last open one closes it alone. -/
theorem end_top {b : St} (hw : Wl b) {n : Bs} (hn : (ndAt b.nodes (top b)).name = n) (hk : (ndAt b.nodes (top b)).kind = 2) : endT b n = ⟨b.nodes, b.opn.dropLast⟩ := by
  have hl := hw.oplen
  have hl2 : 2 ≤ b.opn.length := by
    by_cases e : b.opn.length = 1
    · have ht := hw.top_at
      rw [e] at ht
      have h0 := hw.op0
      have hr := hw.root
      unfold rootB at hr
      simp only [Bool.and_eq_true, beq_iff_eq] at hr
      have hz : (0 : Nat) = top b := by
        have := h0.symm.trans ht
        exact Option.some.inj this
      have hk' : (ndAt b.nodes 0).kind = 2 := by rw [hz]; exact hk
      rw [hr.1] at hk'
      cases hk'
    · omega
  obtain ⟨m, hm⟩ : ∃ m, b.opn.length = m + 2 := ⟨b.opn.length - 2, by omega⟩
  have ht := hw.top_at
  rw [hm, show m + 2 - 1 = m + 1 from by omega] at ht
  have hs : shutN b.nodes b.opn [n] (endW n) b.opn.length = m + 1 := by
    rw [hm, shutN, ht, if_pos]
    show List.contains [n] (ndAt b.nodes (top b)).name = true
    rw [hn]
    simp
  unfold endT shut
  rw [hs, List.dropLast_eq_take, hm]
  rfl
theorem top_mem {b : St} (hw : Wl b) : top b ∈ b.opn := List.mem_of_getElem? hw.top_at
theorem Rw.step {b b2 : St} (hw : Wl b) (h : Rw b) {ph : Nat} {n : Bs} (hp : Ph b ph n) {k : Tk.Tok} {ks : List Tk.Tok} (hk : TokOk k) (hq : sq (k :: ks) ph n) (hs : step b k = .ok b2) : Rw b2 ∧ ∃ ph' n', Ph b2 ph' n' ∧ sq ks ph' n' := by
  have hmod : ∀ (i : Nat) (f : Nd → Nd), i < b.nodes.length → (∀ m, (f m).kids = m.kids ∧ (f m).kind = m.kind ∧ (f m).name = m.name) → ((∀ m, (f m).text = m.text) ∨ (ndAt b.nodes i).kind = 3 ∧ Tk.isRaw (ndAt b.nodes (ndAt b.nodes i).up.toNat).name = false) → Rw ⟨b.nodes.modify i f, b.opn⟩ := fun i f hi hf htx => by
    have hn : ∀ j, ndAt (b.nodes.modify i f) j = if i = j then f (ndAt b.nodes j) else ndAt b.nodes j := fun j => ndAt_modify b.nodes i j f hi
    have hK : ∀ j, (ndAt (b.nodes.modify i f) j).kids = (ndAt b.nodes j).kids ∧ (ndAt (b.nodes.modify i f) j).kind = (ndAt b.nodes j).kind ∧ (ndAt (b.nodes.modify i f) j).name = (ndAt b.nodes j).name := fun j => by
      rw [hn]
      split
      · exact hf _
      · exact ⟨rfl, rfl, rfl⟩
    intro j hj hkj hr
    simp only [List.length_modify] at hj
    simp only at hkj hr
    rw [(hK j).2.1] at hkj
    rw [(hK j).2.2] at hr
    rcases h j hj hkj hr with h1 | ⟨t, h1, h2, h3⟩
    · exact .inl ((hK j).1.trans h1)
    · refine .inr ⟨t, (hK j).1.trans h1, (hK t).2.1.trans h2, fun hd => ?_⟩
      show RawX (ndAt (b.nodes.modify i f) j).name (ndAt (b.nodes.modify i f) t).text ∧ TN (ndAt (b.nodes.modify i f) t).text
      have hd' : Tk.isDec (ndAt (b.nodes.modify i f) j).name = false := hd
      rw [(hK j).2.2] at hd' ⊢
      have he : (ndAt (b.nodes.modify i f) t).text = (ndAt b.nodes t).text := by
        rw [hn]
        split
        · rename_i e
          subst e
          rcases htx with htx | ⟨_, htx⟩
          · exact htx _
          · have hm : (i : Int) ∈ (ndAt b.nodes j).kids := by rw [h1]; exact List.mem_singleton.2 rfl
            rw [hw.kids j hj] at hm
            obtain ⟨q, hq, hql, hqu⟩ := kidsTo_mem _ _ _ _ hm
            have : q = i := by omega
            subst this
            rw [hqu, show ((j : Int)).toNat = j from by omega, hr] at htx
            cases htx
        · rfl
      rw [he]
      exact h3 hd'
  match ph, hp, hq with
  | 0, hp, hq =>
    have hp0 : ∀ a ∈ b.opn, Tk.isRaw (ndAt b.nodes a).name = false := hp
    have htop := hp0 _ (top_mem hw)
    unfold Tre.step at hs
    split at hs
    · rename_i h1
      obtain ⟨hn, ha⟩ := hk.1 h1
      unfold startT at hs
      split at hs
      · rename_i i hf
        cases hs
        unfold firstN at hf
        split at hf
        · rename_i hb
          have hr : Tk.isRaw k.name = false := by
            cases hr : Tk.isRaw k.name
            · rfl
            · rw [(raw_plain hr).1] at hb
              cases hb
          rw [sq, if_neg (by rw [hr]; simp)] at hq
          have f1 := (findN_is hf).1
          refine ⟨hmod i _ f1 (fun m => ⟨rfl, rfl, rfl⟩) (.inl (fun m => rfl)), 0, [], fun a ha2 => ?_, hq⟩
          show Tk.isRaw (ndAt (b.nodes.modify i _) a).name = false
          rw [ndAt_modify _ _ _ _ f1]
          split
          · exact hp0 a ha2
          · exact hp0 a ha2
        · cases hf
      · split at hs
        · cases hs
        · rename_i b3 e
          have hw3 := hw.shut (closes k.name).1 ((closes k.name).2 ++ [body, html])
          have h3 : Rw (shut b (closes k.name).1 ((closes k.name).2 ++ [body, html])) := h
          have hp3 : ∀ a ∈ (shut b (closes k.name).1 ((closes k.name).2 ++ [body, html])).opn, Tk.isRaw (ndAt b.nodes a).name = false := fun a ha => hp0 a (List.mem_of_mem_take ha)
          have hnodes : (shut b (closes k.name).1 ((closes k.name).2 ++ [body, html])).nodes = b.nodes := rfl
          obtain ⟨l1, l2, rfl⟩ := lay_ok e
          generalize shut b (closes k.name).1 ((closes k.name).2 ++ [body, html]) = b' at *
          have ht3 := hp3 _ (top_mem hw3)
          rw [← hnodes] at ht3 hp3
          have hL : ∀ op, Rw ⟨laid b' ⟨2, k.name, k.attrs, [], 0, []⟩, op⟩ := fun op => h3.lay hw3 rfl (.inl ht3) op
          have hne := laid_new (n := ⟨2, k.name, k.attrs, [], 0, []⟩) hw3.top_in.1
          cases hs
          by_cases hv : isVoid k.name = true
          · have hr : Tk.isRaw k.name = false := by
              cases hr : Tk.isRaw k.name
              · rfl
              · rw [(raw_plain hr).2] at hv
                cases hv
            rw [sq, if_neg (by rw [hr]; simp)] at hq
            rw [if_pos hv]
            refine ⟨hL _, 0, [], fun a ha2 => ?_, hq⟩
            show Tk.isRaw (ndAt (laid b' _) a).name = false
            rw [laid_name hw3 ha2]
            exact hp3 a ha2
          · rw [if_neg hv]
            refine ⟨hL _, ?_⟩
            have htp : top (⟨laid b' ⟨2, k.name, k.attrs, [], 0, []⟩, b'.opn ++ [b.nodes.length]⟩ : St) = b.nodes.length := by
              unfold top
              simp
            rw [hnodes] at hne
            by_cases hr : Tk.isRaw k.name = true
            · rw [sq, if_pos ⟨h1, hr⟩] at hq
              refine ⟨1, k.name, ⟨fun a ha2 => ?_, ?_, ?_, hr, ?_⟩, hq⟩
              · simp only [List.dropLast_concat] at ha2
                show Tk.isRaw (ndAt (laid b' _) a).name = false
                rw [laid_name hw3 ha2]
                exact hp3 a ha2
              · rw [htp]
                show (ndAt (laid b' _) _).name = _
                rw [hne]
              · rw [htp]
                show (ndAt (laid b' _) _).kind = _
                rw [hne]
              · rw [htp]
                show (ndAt (laid b' _) _).kids = _
                rw [hne]
            · rw [sq, if_neg (fun h => hr h.2)] at hq
              refine ⟨0, [], fun a ha2 => ?_, hq⟩
              show Tk.isRaw (ndAt (laid b' _) a).name = false
              rcases List.mem_append.1 ha2 with ha2 | ha2
              · rw [laid_name hw3 ha2]
                exact hp3 a ha2
              · rw [List.mem_singleton] at ha2
                subst ha2
                rw [hne]
                simpa using hr
    rename_i h1
    rw [sq, if_neg (fun h => h1 h.1)] at hq
    split at hs
    · cases hs
      exact ⟨h, 0, [], fun a ha => hp0 a (List.mem_of_mem_take ha), hq⟩
    split at hs
    · unfold textT at hs
      have hlay : ∀ b2, Tre.lay b ⟨3, [], [], k.text, 0, []⟩ = .ok b2 → Rw b2 ∧ ∃ ph' n', Ph b2 ph' n' ∧ sq ks ph' n' := fun b2 e => by
        obtain ⟨l1, l2, rfl⟩ := lay_ok e
        refine ⟨h.lay hw rfl (.inl htop) _, 0, [], fun a ha2 => ?_, hq⟩
        show Tk.isRaw (ndAt (laid b _) a).name = false
        rw [laid_name hw ha2]
        exact hp0 a ha2
      split at hs
      · rename_i i hi
        split at hs
        · rename_i h3
          cases hs
          obtain ⟨j, rfl, j1, j0⟩ := hw.last_kid hi
          rw [show ((j : Int)).toNat = j from by omega] at h3 ⊢
          have hju : (ndAt b.nodes j).up.toNat = top b := by
            have hm := List.mem_of_getLast? hi
            rw [hw.kids _ hw.top_in.1] at hm
            obtain ⟨q, hq, hql, hqu⟩ := kidsTo_mem _ _ _ _ hm
            have : q = j := by omega
            subst this
            omega
          refine ⟨hmod j _ j1 (fun m => ⟨rfl, rfl, rfl⟩) (.inr ⟨h3, by rw [hju]; exact htop⟩), 0, [], fun a ha2 => ?_, hq⟩
          show Tk.isRaw (ndAt (b.nodes.modify j _) a).name = false
          rw [ndAt_modify _ _ _ _ j1]
          split
          · exact hp0 a ha2
          · exact hp0 a ha2
        · exact hlay _ hs
      · exact hlay _ hs
    · cases hs
      exact ⟨h, 0, [], hp0, hq⟩
  | 1, hp, hq =>
    obtain ⟨p1, p2, p3, p4, p5⟩ := hp
    rw [sq] at hq
    rcases hq with ⟨h3, hx, hq⟩ | ⟨h2, hn, hq⟩
    · unfold Tre.step at hs
      rw [if_neg (by omega), if_neg (by omega), if_pos h3] at hs
      unfold textT at hs
      rw [p5] at hs
      simp only [List.getLast?_nil] at hs
      obtain ⟨l1, l2, rfl⟩ := lay_ok hs
      have htl : (ndAt (laid b ⟨3, [], [], k.text, 0, []⟩) (top b)).kind = 2 ∧ (ndAt (laid b ⟨3, [], [], k.text, 0, []⟩) (top b)).name = n := by
        obtain ⟨_, e2, e3, _⟩ := laid_old (n := ⟨3, [], [], k.text, 0, []⟩) hw.top_in.1 hw.top_in.1
        exact ⟨e2.trans p3, e3.trans p2⟩
      refine ⟨h.lay hw rfl (.inr ⟨p5, rfl, by rw [p2]; exact hx⟩) _, 2, n, ⟨fun a ha2 => ?_, htl.2, htl.1, p4⟩, hq⟩
      show Tk.isRaw (ndAt (laid b _) a).name = false
      rw [laid_name hw (List.dropLast_subset _ ha2)]
      exact p1 a ha2
    · unfold Tre.step at hs
      rw [if_neg (by omega), if_pos h2, end_top hw (p2.trans hn.symm) p3] at hs
      cases hs
      exact ⟨h, 0, [], p1, hq⟩
  | q + 2, hp, hq =>
    obtain ⟨p1, p2, p3, p4⟩ := hp
    rw [sq] at hq
    obtain ⟨h2, hn, hq⟩ := hq
    unfold Tre.step at hs
    rw [if_neg (by omega), if_pos h2, end_top hw (p2.trans hn.symm) p3] at hs
    cases hs
    exact ⟨h, 0, [], p1, hq⟩
theorem Rw.build : ∀ (ks : List Tk.Tok) (b b2 : St) (ph : Nat) (n : Bs), Wl b → Rw b → Nv b → Ph b ph n → sq ks ph n → (∀ k ∈ ks, TokOk k ∧ TokG k) → build ks b = .ok b2 → Rw b2 ∧ Nv b2
  | [], b, b2, ph, n, _, h, hv, _, _, _, hb => by cases hb; exact ⟨h, hv⟩
  | k :: ks, b, b2, ph, n, hw, h, hv, hp, hq, hk, hb => by
    rw [Tre.build] at hb
    split at hb
    · cases hb
    · rename_i b3 e
      have hk1 := hk k (List.mem_cons_self ..)
      obtain ⟨h3, ph', n', hp', hq'⟩ := h.step hw hp hk1.1 hq e
      exact Rw.build ks b3 b2 ph' n' (hw.step hk1.1 e) h3 (hv.step hw hk1.2 e) hp' hq' (fun x hx => hk x (List.mem_cons_of_mem _ hx)) hb
theorem rw_start : Rw start0 := by
  intro i hi hk
  simp [start0] at hi
  subst hi
  cases hk
theorem ph_start : Ph start0 0 [] := fun a ha => by
  simp [start0] at ha
  subst ha
  rfl
/-! ### what is written -/
theorem tag_tn {n : Nd} (hn : TN n.name) (ha : AtsOk n.attrs) : TN (Tk.tagText (startTok n)) ∧ TN (Tk.tagText (endTok n)) := by
  constructor
  · have e : Tk.tagText (startTok n) = [60] ++ (n.name ++ (n.attrs.flatMap Tk.attrText ++ [62])) := by
      unfold Tk.tagText Tk.tailText
      rw [if_pos (show (startTok n).kind = 1 from rfl)]
      rfl
    rw [e]
    refine TN.app (TN.lows (by decide)) (hn.app (TN.app (TN.flat (fun a h => ?_)) (TN.lows (by decide))))
    have h2 := ha.2 a h
    have e2 : Tk.attrText a = [32] ++ (a.1 ++ ([61, 34] ++ (Rf.enc true a.2 ++ [34]))) := by
      unfold Tk.attrText
      simp
    rw [e2]
    exact TN.app (TN.lows (by decide)) (h2.1.app (TN.app (TN.lows (by decide)) ((enc_tn true _ h2.2).app (TN.lows (by decide)))))
  · have e : Tk.tagText (endTok n) = [60, 47] ++ (n.name ++ [62]) := by
      unfold Tk.tagText
      rw [if_neg (by show ¬ (2 : Nat) = 1; decide), if_pos (show (endTok n).kind = 2 from rfl)]
      simp [endTok]
    rw [e]
    exact TN.app (TN.lows (by decide)) (hn.app (TN.lows (by decide)))
theorem may_rootX {ns : List Nd} (h : mayB ns = true) : (ndAt ns 0).kind = 1 ∧ (ndAt ns 0).name = [] := by
  have hs := may_shape h (i := 0) (by have := ((mayB_iff ns).1 h).1; omega)
  unfold shapeB rootB at hs
  simp only [if_true, Bool.and_eq_true, beq_iff_eq] at hs
  exact ⟨hs.1, hs.2.2.1⟩
theorem node_tn {b : St} (hR : Rp b.nodes) (hv : Nv b) (hr : Rw b) : ∀ m i, b.nodes.length - i ≤ m → i < b.nodes.length → i ≠ 0 → TN (nodeT b.nodes i) := by
  intro m
  induction m with
  | zero => intro i hm hi; omega
  | succ m ih =>
    intro i hm hi h0
    rcases hR.kind hi h0 with ⟨hk, _⟩ | ⟨hk, _⟩
    · have h9 := hv.nm i hi hk
      have ht := tag_tn h9.2.2 h9.2.1
      rw [node_elem hR.may hi (by omega)]
      refine ht.1.app (TN.app (TN.flat (fun k hkk => ?_)) ?_)
      · obtain ⟨j, rfl, h1, h2, _⟩ := may_kid hR.may hi hkk
        exact ih _ (by omega) (by omega) (by omega)
      · split
        · exact TN.nil
        · exact ht.2
    · have hp := hR.pos hi h0
      rw [node_text hR.may hi hk, raw_b hR (by omega)]
      split
      · rename_i hb
        simp only [Bool.and_eq_true, Bool.not_eq_true'] at hb
        have hul : (ndAt b.nodes i).up.toNat < b.nodes.length := by omega
        have huk : (ndAt b.nodes (ndAt b.nodes i).up.toNat).kind = 2 := by
          by_cases hu0 : (ndAt b.nodes i).up.toNat = 0
          · rw [hu0, (may_rootX hR.may).2] at hb
            cases hb.1
          · rcases hR.kind hul hu0 with ⟨h1, _⟩ | ⟨h1, _⟩
            · exact h1
            · exact absurd h1 (hR.upKind hi h0)
        have hm := hR.kidMem hul hi h0 rfl
        rcases hr _ hul huk hb.1 with h1 | ⟨t, h1, h2, h3⟩
        · rw [h1] at hm
          cases hm
        · rw [h1, List.mem_singleton] at hm
          have : i = t := by omega
          subst this
          exact (h3 hb.2).2
      · exact enc_tn _ _ (hv.tx i hi hk)
/-- P13.6: what was parsed is written, and parsed again as it. -/
theorem back (s : Bs) (ns : List Nd) (h : parseT (Tk.all (Tk.clean s)) = .ok ns) : parseT (Tk.all (Tk.clean (textAt ns 0))) = .ok ns ∧ (Tk.all (Tk.clean (textAt ns 0))).length ≤ 8192 := by
  have hcl := clean_tn s
  have hf := Tk.all_fine (Tk.clean s)
  have htx := Tk.all_text (Tk.clean s) hcl.1
  have hz := all_z0 (Tk.clean s) (fun c hc => (hcl.2 c hc).2)
  have hsq := (all_sq (Tk.clean s) hcl).1
  generalize Tk.all (Tk.clean s) = ks at *
  obtain ⟨b, hw, rfl, hb⟩ := parse_inv (fun k hk => fine_ok (hf k hk)) h
  have hj := jv_start.build ks start0 b inv_start (fun k hk => fine_ok (hf k hk)) hb
  obtain ⟨hrw, hnv⟩ := Rw.build ks start0 b 0 [] inv_start rw_start nv_start ph_start hsq (fun k hk => ⟨fine_ok (hf k hk), tokG_of (hf k hk) (htx k hk) (hz k hk)⟩) hb
  have hlen : b.nodes.length ≤ 4096 := by
    have : ∀ (ks : List Tk.Tok) (b b2 : St), b.nodes.length ≤ 4096 → build ks b = .ok b2 → b2.nodes.length ≤ 4096 := by
      intro ks
      induction ks with
      | nil => intro b b2 h hb; cases hb; exact h
      | cons k ks ih =>
        intro b b2 h hb
        rw [Tre.build] at hb
        split at hb
        · cases hb
        · rename_i b3 e
          refine ih b3 b2 ?_ hb
          unfold Tre.step startT textT at e
          have hlay : ∀ (b b2 : St) n, b.nodes.length ≤ 4096 → lay b n = .ok b2 → b2.nodes.length ≤ 4096 := fun b b2 n h e => by
            obtain ⟨l1, l2, rfl⟩ := lay_ok e
            simp only [laid_len]
            omega
          split at e
          · split at e
            · cases e
              simpa using h
            · split at e
              · cases e
              · rename_i b4 e4
                have h4 := hlay _ _ _ (by exact h) e4
                cases e
                split
                · exact h4
                · exact h4
          split at e
          · cases e
            exact h
          split at e
          · split at e
            · split at e
              · cases e
                simpa using h
              · exact hlay _ _ _ h e
            · exact hlay _ _ _ h e
          · cases e
            exact h
    exact this ks start0 b (by decide) hb
  have hR : Rp b.nodes := ⟨hw.may hlen, hj.pre, hw.deep, hj.sh, hj.un, hj.ad, hj.vd, fun i hi hk => ⟨(hnv.nm i hi hk).1, (hnv.nm i hi hk).2.1.1⟩, fun i hi hk hr => by
    rcases hrw i hi hk hr with h1 | ⟨t, h1, h2, h3⟩
    · exact .inl h1
    · exact .inr ⟨t, h1, h2, fun hd => (h3 hd).1⟩⟩
  have hl0 : 0 < b.nodes.length := hw.len
  have htn : TN (textAt b.nodes 0) := by
    unfold textAt
    rw [if_neg (by rw [(may_rootX hR.may).1]; decide)]
    refine TN.flat (fun k hk => ?_)
    obtain ⟨j, rfl, h1, h2, _⟩ := may_kid hR.may hl0 hk
    exact node_tn hR hnv hrw _ _ (Nat.le_refl _) (by omega) (by omega)
  rw [htn.clean]
  exact write_parse hR
end Tre
