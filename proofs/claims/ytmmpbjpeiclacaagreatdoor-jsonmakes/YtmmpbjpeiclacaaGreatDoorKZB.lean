/- Contracts of May: mayBe, kidsMayBe. -/
import Derived.Test.YtmmpbjpeiclacaaGreatDoorKZA
import Derived.Test.YtmmpbjpeiclacaaGreatDoorKJson
set_option linter.unusedVariables false
set_option linter.unusedSimpArgs false
namespace Go.Proofs.YtmmpbjpeiclacaaGreatDoor
open Go.RowKit
/-- A census at b that has met n. -/
def CAt (w : World) (b : Nat) (n : Nat) : Prop := w.heap[b]? = some (.cells #[.int .i64 (n : Int)] 84 (0, 0))
theorem CAt.cell {w : World} {b n : Nat} (h : CAt w b n) : w.cell? ⟨b, 0, none⟩ = some (.int .i64 (n : Int)) := Lib.cell_of_heap h 0
theorem CAt.free {w : World} {b n : Nat} (h : CAt w b n) : w.frozen? ⟨b, 0, none⟩ = false := Lib.frozen_of_heap h 0
theorem CAt.lt {w : World} {b n : Nat} (h : CAt w b n) : b < w.heap.size := (Array.getElem?_eq_some_iff.1 h).1
theorem CAt.keep {w w' : World} {b n : Nat} (h : CAt w b n) (e : w'.heap[b]? = w.heap[b]?) : CAt w' b n := e.trans h
theorem CAt.up {w : World} {b n : Nat} (h : CAt w b n) : CAt (w.setCell ⟨b, 0, none⟩ (.int .i64 ((n : Int) + 1))) b (n + 1) := Go.Joins.block_setCell h _
/-- What the census has met, if all may be. -/
def Cnt (b : Nat) (w : World) (x : Option Nat) : Prop := ∀ m, x = some m → CAt w b m ∧ m ≤ 4096
theorem Cnt.no (b : Nat) (w : World) : Cnt b w none := fun m h => by cases h
theorem Cnt.yes {b m : Nat} {w : World} (h : CAt w b m) (hm : m ≤ 4096) : Cnt b w (some m) := fun m' e => by cases e; exact ⟨h, hm⟩
def MPost (b : Nat) (w : World) (x : Option Nat) (e : Ending) (w' : World) : Prop := e = .returned (.bool x.isSome) ∧ Kept b w w' ∧ Cnt b w' x
def MayC (t : Jsn.J) : Prop := ∀ (v : Value) (b n d : Nat) (w : World), RV (· ≠ b) w t v → CAt w b n → n ≤ 4096 → d ≤ 64 → Jsn.sizeJ t ≤ 1000000000 → Calls Tryz.prog 44 #[.pointer (some ⟨b, 0, none⟩), v, .int .i64 (d : Int)] w (MPost b w (Jsn.mayC t d n))
theorem RKs.form {Q : Nat → Prop} {w : World} {cs : List Jsn.J} {v : Value} (h : RKs Q w cs v) : ∃ a c, v = .slice a cs.length c := by
  rcases h with ⟨a, c, rfl, rfl⟩ | ⟨b, o, c, _, rfl, _⟩
  · exact ⟨_, _, rfl⟩
  · exact ⟨_, _, rfl⟩
theorem RKs.at {Q : Nat → Prop} {w : World} {a : Option Addr} {n c : Nat} {cs : List Jsn.J} {j : Nat} {t : Jsn.J} (h : RKs Q w cs (.slice a n c)) (ht : cs[j]? = some t) :
    ∃ b o, a = some ⟨b, o, none⟩ ∧ cs.length ≤ c ∧ Q b ∧ b < w.heap.size ∧ ∃ x0 x1 x2 x3, w.cell? ⟨b, o + j * 4, none⟩ = some x0 ∧ w.cell? ⟨b, o + j * 4 + 1, none⟩ = some x1 ∧ w.cell? ⟨b, o + j * 4 + 2, none⟩ = some x2 ∧ w.cell? ⟨b, o + j * 4 + 3, none⟩ = some x3 ∧ RV Q w t (vv x0 x1 x2 x3) := by
  rcases h with ⟨a, c, _, rfl⟩ | ⟨b, o, c, hq, h1, h2, h3, h4⟩
  · simp at ht
  · cases h1
    exact ⟨b, o, rfl, h2, hq, h3, RCs_at h4 ht⟩
theorem mayL_drop {cs : List Jsn.J} {j : Nat} (h : j < cs.length) (d n : Nat) : Jsn.mayL (cs.drop j) d n = (Jsn.mayC cs[j] d n).bind fun m => Jsn.mayL (cs.drop (j + 1)) d m := by
  rw [List.drop_eq_getElem_cons h]
  conv => lhs; unfold Jsn.mayL
  cases Jsn.mayC cs[j] d n <;> rfl
set_option maxHeartbeats 2000000 in
set_option maxRecDepth 100000 in
theorem kidsMayBe_any (cs : List Jsn.J) (ih : ∀ c ∈ cs, MayC c) (x0 x1 x2 cv : Value) (b n d : Nat) (w : World) (hk : RKs (· ≠ b) w cs cv) (hC : CAt w b n) (hn : n ≤ 4096) (hd : d ≤ 64) (hsz : Jsn.sizeL cs ≤ 1000000000) (hl : cs.length ≤ 1000000000) :
    Calls Tryz.prog 70 #[.pointer (some ⟨b, 0, none⟩), vv x0 x1 x2 cv, .int .i64 (d : Int)] w (MPost b w (if d < 64 then Jsn.mayL cs (d + 1) n else none)) := by
  unfold MPost
  obtain ⟨a, c, rfl⟩ := hk.form
  have hb := hC.lt
  by_cases hd64 : d < 64
  · rw [if_pos hd64]
    have hdi : ¬ (64 : Int) ≤ (d : Int) := by omega
    generalize hX : Jsn.mayL cs (d + 1) n = X
    have HX := show Hid _ from hX
    clear hX
    go_enter Tryz.func70, Tryz.ntmps70
    go_wp2
    go_loopw [14] (fun i wr => ∃ j m : Nat, i = .int .i64 j ∧ j ≤ cs.length ∧ CAt wr b m ∧ m ≤ 4096 ∧ Kept b w wr ∧ Hid (Jsn.mayL (cs.drop j) (d + 1) m = X)) (fun i _ => cs.length - (intOf i).toNat)
    case atStart =>
      have hB : Below w.heap.size w (w.alloc (.cells #[x0, x1, x2, .slice a cs.length c] 27)) := (Below.refl _ w).alloc (Nat.le_refl _) _
      exact ⟨0, n, rfl, Nat.zero_le _, hC.keep (hB.block b hb), hn, Kept.of hB, HX⟩
    case round =>
      obtain ⟨j, m, rfl, hj, hCj, hm, hK, HE⟩ := hrel
      by_cases hlt : j < cs.length
      · have hat : cs[j]? = some cs[j] := List.getElem?_eq_getElem hlt
        obtain ⟨g, o, rfl, hcl, hgb, hgl, y0, y1, y2, y3, e0, e1, e2, e3, hrv⟩ := hk.at hat
        have hkg := hK.block g hgl hgb
        have f0 := (cell_keep hkg (o := o + j * 4)).trans e0
        have f1 := (cell_keep hkg (o := o + j * 4 + 1)).trans e1
        have f2 := (cell_keep hkg (o := o + j * 4 + 2)).trans e2
        have f3 := (cell_keep hkg (o := o + j * 4 + 3)).trans e3
        obtain ⟨aa, na, ca, ab, nb, cb, hsh⟩ := hrv.shape
        cases hsh
        have hE := HE.out
        rw [mayL_drop hlt] at hE
        have hBw : Below wr.heap.size wr (wr.alloc (.cells #[.int .i64 cs[j].kind, .string (str cs[j].text), .slice aa na ca, .slice ab nb cb] 27)) := (Below.refl _ wr).alloc (Nat.le_refl _) _
        have hKw : Kept b w (wr.alloc (.cells #[.int .i64 cs[j].kind, .string (str cs[j].text), .slice aa na ca, .slice ab nb cb] 27)) := hK.trans (Kept.of hBw)
        have hI := ih cs[j] (List.getElem_mem hlt) (vv (.int .i64 cs[j].kind) (.string (str cs[j].text)) (.slice aa na ca) (.slice ab nb cb)) b m (d + 1) (wr.alloc (.cells #[.int .i64 cs[j].kind, .string (str cs[j].text), .slice aa na ca, .slice ab nb cb] 27)) (RV.keep hKw.size (fun k hq hl => ⟨hq, hKw.block k hl hq⟩) hrv) (hCj.keep (hBw.block b hCj.lt)) hm (by omega) (Nat.le_trans (Jsn.sizeL_mem (List.getElem_mem hlt)) hsz)
        cases hmc : Jsn.mayC cs[j] (d + 1) m with
        | none =>
          rw [hmc] at hE hI
          have HY : Hid (X = none) := hE.symm
          clear hE HE hmc
          generalize cs[j] = t at *
          go_wp2_with (first
            | (go_at_call 44; refine hI.mono ?_; rintro e w1 ⟨rfl, hK1, _⟩))
          go_ret
          rw [HY.out]
          exact ⟨rfl, hKw.trans hK1, Cnt.no _ _⟩
        | some q =>
          rw [hmc] at hE hI
          have HY : Hid (Jsn.mayL (cs.drop (j + 1)) (d + 1) q = X) := hE
          clear hE HE hmc
          generalize cs[j] = t at *
          go_wp2_with (first
            | (go_at_call 44; refine hI.mono ?_; rintro e w1 ⟨rfl, hK1, hm1⟩))
          go_roundw
          case rel => exact ⟨j + 1, q, by go_num, by omega, (hm1 q rfl).1, (hm1 q rfl).2, hKw.trans hK1, HY⟩
          case measure => simp [intOf]; omega
      · have HY : Hid (X = some m) := by
          show _ = _
          rw [← HE.out, List.drop_of_length_le (by omega)]
          unfold Jsn.mayL
          rfl
        go_wp2
        go_ret
        rw [HY.out]
        exact ⟨rfl, hK, Cnt.yes hCj hm⟩
  · rw [if_neg hd64]
    have hdi : (64 : Int) ≤ (d : Int) := by omega
    go_enter Tryz.func70, Tryz.ntmps70
    go_wp2
    go_ret
    exact ⟨rfl, Kept.of ((Below.refl _ w).alloc (Nat.le_refl _) _), Cnt.no _ _⟩
set_option maxHeartbeats 4000000 in
set_option maxRecDepth 100000 in
theorem mayBe_all : ∀ t, MayC t := by
  intro tr
  induction tr using Jsn.J.ind with
  | h k t ks cs ih =>
    intro v b n d w hv hC hn hd hsz
    obtain ⟨kv, cv, rfl, hks, hcs⟩ := RV_mk.1 hv
    obtain ⟨a1, c1, rfl⟩ := hks.form
    obtain ⟨a2, c2, rfl⟩ := hcs.form
    rw [Jsn.sizeJ_mk] at hsz
    have hb := hC.lt
    have cc := hC.cell
    have cf := hC.free
    have HC1 := hC.up
    unfold MPost
    unfold Jsn.mayC
    -- the world behind the count
    have hB : ∀ o, Below (w.setCell ⟨b, 0, none⟩ (.int .i64 ((n : Int) + 1))).heap.size (w.setCell ⟨b, 0, none⟩ (.int .i64 ((n : Int) + 1))) ((w.setCell ⟨b, 0, none⟩ (.int .i64 ((n : Int) + 1))).alloc o) := fun o => (Below.refl _ _).alloc (Nat.le_refl _) _
    have hK1 : ∀ o, Kept b w ((w.setCell ⟨b, 0, none⟩ (.int .i64 ((n : Int) + 1))).alloc o) := fun o => (Kept.set b 0 w _).trans (Kept.of (hB o))
    have hC1 : ∀ o, CAt ((w.setCell ⟨b, 0, none⟩ (.int .i64 ((n : Int) + 1))).alloc o) b (n + 1) := fun o => HC1.keep ((hB o).block b HC1.lt)
    by_cases hmany : 4096 ≤ n
    · rw [if_pos hmany]
      have hmi : (4096 : Int) < (n : Int) + 1 := by omega
      go_enter Tryz.func44, Tryz.ntmps44
      go_wp2
      go_ret
      exact ⟨rfl, hK1 _, Cnt.no _ _⟩
    rw [if_neg hmany]
    have hmi : ¬ (4096 : Int) < (n : Int) + 1 := by omega
    have ht0 : (str t).toList.isEmpty = t.isEmpty := empty_is t
    have hz := str_size t
    by_cases h5 : k = 5
    · rw [if_pos h5]
      subst h5
      have hKids := kidsMayBe_any cs ih (.int .i64 5) (.string (str t)) (.slice a1 ks.length c1) (.slice a2 cs.length c2) b (n + 1) d ((w.setCell ⟨b, 0, none⟩ (.int .i64 ((n : Int) + 1))).alloc (.cells #[.int .i64 5, .string (str t), .slice a1 ks.length c1, .slice a2 cs.length c2] 27)) (hcs.keep (hK1 _).size (fun k hq hl => ⟨hq, (hK1 _).block k hl hq⟩)) (hC1 _) (by omega) hd (by omega) (by omega)
      by_cases hte : t = []
      · by_cases hke : ks = []
        · subst hte; subst hke
          have e0 : (str ([] : List UInt8)).toList.isEmpty = true := empty_yes
          have hX : (if ([] : List UInt8) = [] ∧ ([] : List (List UInt8)) = [] ∧ d < 64 then Jsn.mayL cs (d + 1) (n + 1) else none) = (if d < 64 then Jsn.mayL cs (d + 1) (n + 1) else none) := by simp
          rw [hX]
          generalize (if d < 64 then Jsn.mayL cs (d + 1) (n + 1) else none) = X at hKids ⊢
          go_enter Tryz.func44, Tryz.ntmps44
          go_wp2_with (first
            | (go_at_call 70; refine hKids.mono ?_; rintro e w2 ⟨rfl, hK2, hm2⟩))
          go_ret
          exact ⟨rfl, (hK1 _).trans hK2, hm2⟩
        · rw [if_neg (fun e => hke e.2.1)]
          subst hte
          have e0 : (str ([] : List UInt8)).toList.isEmpty = true := empty_yes
          have hkl : ¬ (ks.length : Int) = 0 := by have := List.length_pos_iff.2 hke; omega
          have hkb : ((ks.length : Int) == 0) = false := beq_eq_false_iff_ne.2 hkl
          go_enter Tryz.func44, Tryz.ntmps44
          go_wp2_with fail
          go_ret
          exact ⟨rfl, hK1 _, Cnt.no _ _⟩
      · rw [if_neg (fun e => hte e.1)]
        have e0 : (str t).toList.isEmpty = false := by rw [ht0]; simpa using hte
        clear ht0
        go_enter Tryz.func44, Tryz.ntmps44
        go_wp2_with fail
        go_ret
        exact ⟨rfl, hK1 _, Cnt.no _ _⟩
    rw [if_neg h5]
    have q5 : (k == 5) = false := beq_eq_false_iff_ne.2 h5
    by_cases h6 : k = 6
    · rw [if_pos h6]
      subst h6
      have hKids := kidsMayBe_any cs ih (.int .i64 6) (.string (str t)) (.slice a1 ks.length c1) (.slice a2 cs.length c2) b (n + 1) d ((w.setCell ⟨b, 0, none⟩ (.int .i64 ((n : Int) + 1))).alloc (.cells #[.int .i64 6, .string (str t), .slice a1 ks.length c1, .slice a2 cs.length c2] 27)) (hcs.keep (hK1 _).size (fun k hq hl => ⟨hq, (hK1 _).block k hl hq⟩)) (hC1 _) (by omega) hd (by omega) (by omega)
      have hks1 : RTs (· ≠ b) ((w.setCell ⟨b, 0, none⟩ (.int .i64 ((n : Int) + 1))).alloc (.cells #[.int .i64 6, .string (str t), .slice a1 ks.length c1, .slice a2 cs.length c2] 27)) ks (.slice a1 ks.length c1) := hks.keep (hK1 _).size (fun k hq hl => ⟨hq, (hK1 _).block k hl hq⟩)
      have hbox : ((w.setCell ⟨b, 0, none⟩ (.int .i64 ((n : Int) + 1))).alloc (.cells #[.int .i64 6, .string (str t), .slice a1 ks.length c1, .slice a2 cs.length c2] 27)).heap[w.heap.size]? = some (.cells #[.int .i64 6, .string (str t), .slice a1 ks.length c1, .slice a2 cs.length c2] 27 (0, 0)) := by
        have := heap_alloc_last (w.setCell ⟨b, 0, none⟩ (.int .i64 ((n : Int) + 1))) (.cells #[.int .i64 6, .string (str t), .slice a1 ks.length c1, .slice a2 cs.length c2] 27)
        simpa using this
      by_cases hte : t = []
      · by_cases hke : ks.length = cs.length
        · subst hte
          have e0 : (str ([] : List UInt8)).toList.isEmpty = true := empty_yes
          have hX : (if ([] : List UInt8) = [] ∧ ks.length = cs.length ∧ d < 64 then (if Jsn.keysOK ks = true then Jsn.mayL cs (d + 1) (n + 1) else none) else none) = (if Jsn.keysOK ks = true then (if d < 64 then Jsn.mayL cs (d + 1) (n + 1) else none) else none) := by
            by_cases h1 : d < 64 <;> by_cases h2 : Jsn.keysOK ks = true <;> simp [hke, h1, h2]
          rw [hX]
          generalize (if d < 64 then Jsn.mayL cs (d + 1) (n + 1) else none) = X at hKids ⊢
          have hkl : ((ks.length : Int) == (cs.length : Int)) = true := by simp [hke]
          have HKE := show Hid _ from hke
          clear hke hX
          cases X with
          | none =>
            have hX2 : (if Jsn.keysOK ks = true then (none : Option Nat) else none) = none := by split <;> rfl
            rw [hX2]
            go_enter Tryz.func44, Tryz.ntmps44
            go_wp2_with (first
              | (go_at_call 70; refine hKids.mono ?_; rintro e w2 ⟨rfl, hK2, hm2⟩))
            go_ret
            exact ⟨rfl, (hK1 _).trans hK2, Cnt.no _ _⟩
          | some q =>
            have hA := fun W (hk : RTs (· ≠ b) W ks (.slice a1 ks.length c1)) => areKeys_any (· ≠ b) ks (.slice a1 ks.length c1) W hk (by omega) (fun x hx => by have := Jsn.lenK_mem hx; omega)
            cases hko : Jsn.keysOK ks with
            | false =>
              simp only [hko] at hA
              rw [if_neg (by decide)]
              clear hko
              go_enter Tryz.func44, Tryz.ntmps44
              go_wp2_with (first
                | (go_at_call 70; refine hKids.mono ?_; rintro e w2 ⟨rfl, hK2, hm2⟩; have cb2 : w2.cell? ⟨w.heap.size, 2, none⟩ = some (.slice a1 ks.length c1) := Lib.cell_of_heap ((hK2.block w.heap.size (by simp) (by omega)).trans hbox) 2)
                | (go_at_call 71; refine (hA _ (hks1.keep hK2.size (fun k hq hl => ⟨hq, hK2.block k hl hq⟩))).mono ?_; rintro e w3 ⟨rfl, hB3⟩))
              go_ret
              exact ⟨rfl, ((hK1 _).trans hK2).trans (Kept.of hB3), Cnt.no _ _⟩
            | true =>
              simp only [hko] at hA
              rw [if_pos rfl]
              clear hko
              go_enter Tryz.func44, Tryz.ntmps44
              go_wp2_with (first
                | (go_at_call 70; refine hKids.mono ?_; rintro e w2 ⟨rfl, hK2, hm2⟩; have cb2 : w2.cell? ⟨w.heap.size, 2, none⟩ = some (.slice a1 ks.length c1) := Lib.cell_of_heap ((hK2.block w.heap.size (by simp) (by omega)).trans hbox) 2)
                | (go_at_call 71; refine (hA _ (hks1.keep hK2.size (fun k hq hl => ⟨hq, hK2.block k hl hq⟩))).mono ?_; rintro e w3 ⟨rfl, hB3⟩))
              go_ret
              exact ⟨rfl, ((hK1 _).trans hK2).trans (Kept.of hB3), Cnt.yes ((hm2 _ rfl).1.keep (hB3.block b (hm2 _ rfl).1.lt)) (hm2 _ rfl).2⟩
        · rw [if_neg (fun e => hke e.2.1)]
          subst hte
          have e0 : (str ([] : List UInt8)).toList.isEmpty = true := empty_yes
          have hkl : ((ks.length : Int) == (cs.length : Int)) = false := beq_eq_false_iff_ne.2 (by omega)
          go_enter Tryz.func44, Tryz.ntmps44
          go_wp2_with fail
          go_ret
          exact ⟨rfl, hK1 _, Cnt.no _ _⟩
      · rw [if_neg (fun e => hte e.1)]
        have e0 : (str t).toList.isEmpty = false := by rw [ht0]; simpa using hte
        clear ht0
        go_enter Tryz.func44, Tryz.ntmps44
        go_wp2_with fail
        go_ret
        exact ⟨rfl, hK1 _, Cnt.no _ _⟩
    rw [if_neg h6]
    have q6 : (k == 6) = false := beq_eq_false_iff_ne.2 h6
    by_cases hke : ks = []
    · by_cases hce : cs = []
      · subst hke; subst hce
        have hX : (if ([] : List (List UInt8)) = [] ∧ ([] : List Jsn.J) = [] ∧ Jsn.textOf k t = true then some (n + 1) else none) = (if Jsn.textOf k t = true then some (n + 1) else none) := by simp
        rw [hX]
        have hT := fun W => isTextOf_any k t W (by omega)
        cases hto : Jsn.textOf k t with
        | false =>
          simp only [hto] at hT
          rw [if_neg (by decide)]
          clear hto
          go_enter Tryz.func44, Tryz.ntmps44
          go_wp2_with (first
            | (go_at_call 72; refine (hT _).mono ?_; rintro e w2 ⟨rfl, hB2⟩))
          go_ret
          exact ⟨rfl, (hK1 _).trans (Kept.of hB2), Cnt.no _ _⟩
        | true =>
          simp only [hto] at hT
          rw [if_pos rfl]
          clear hto
          go_enter Tryz.func44, Tryz.ntmps44
          go_wp2_with (first
            | (go_at_call 72; refine (hT _).mono ?_; rintro e w2 ⟨rfl, hB2⟩))
          go_ret
          exact ⟨rfl, (hK1 _).trans (Kept.of hB2), Cnt.yes ((hC1 _).keep (hB2.block b (hC1 _).lt)) (by omega)⟩
      · rw [if_neg (fun e => hce e.2.1)]
        subst hke
        have hkl : ((cs.length : Int) == 0) = false := beq_eq_false_iff_ne.2 (by have := List.length_pos_iff.2 hce; omega)
        go_enter Tryz.func44, Tryz.ntmps44
        go_wp2_with fail
        go_ret
        exact ⟨rfl, hK1 _, Cnt.no _ _⟩
    · rw [if_neg (fun e => hke e.1)]
      have hkl : ((ks.length : Int) == 0) = false := beq_eq_false_iff_ne.2 (by have := List.length_pos_iff.2 hke; omega)
      go_enter Tryz.func44, Tryz.ntmps44
      go_wp2_with fail
      go_ret
      exact ⟨rfl, hK1 _, Cnt.no _ _⟩
set_option maxHeartbeats 1000000 in
theorem May_any (t : Jsn.J) (v : Value) (w : World) (hv : RV (fun _ => True) w t v) (hsz : Jsn.sizeJ t ≤ 1000000000) :
    Calls Tryz.prog 21 #[v] w fun e w' => e = .returned (.bool (Jsn.mayJ t)) ∧ Below w.heap.size w w' := by
  obtain ⟨aa, na, ca, ab, nb, cb, rfl⟩ := hv.shape
  have hB : Below w.heap.size w ((w.alloc (.cells #[.int .i64 t.kind, .string (str t.text), .slice aa na ca, .slice ab nb cb] 27)).alloc (.cells #[.int .i64 0] 84)) := ((Below.refl _ w).alloc (Nat.le_refl _) _).alloc (by simp) _
  have hC : CAt ((w.alloc (.cells #[.int .i64 t.kind, .string (str t.text), .slice aa na ca, .slice ab nb cb] 27)).alloc (.cells #[.int .i64 0] 84)) (w.heap.size + 1) 0 := by
    unfold CAt
    have e : w.heap.size + 1 = (w.alloc (.cells #[.int .i64 t.kind, .string (str t.text), .slice aa na ca, .slice ab nb cb] 27)).heap.size := by simp
    rw [e]
    exact heap_alloc_last _ _
  have hM := mayBe_all t _ (w.heap.size + 1) 0 0 _ (RV.keep hB.size (fun k _ hl => ⟨by omega, hB.block k hl⟩) hv) hC (by omega) (by omega) hsz
  go_enter Tryz.func21, Tryz.ntmps21
  go_wp2_with (first
    | (go_at_call 44; refine hM.mono ?_; rintro e w1 ⟨rfl, hK1, _⟩))
  go_ret
  exact ⟨rfl, ⟨hK1.os.trans hB.os, hK1.tape.trans hB.tape, hK1.output.trans hB.output, Nat.le_trans hB.size hK1.size, fun k hk => (hK1.block k (Nat.lt_of_lt_of_le hk hB.size) (by omega)).trans (hB.block k hk)⟩⟩
end Go.Proofs.YtmmpbjpeiclacaaGreatDoor
