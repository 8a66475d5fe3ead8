/- The contract of lose. -/
import Derived.Test.YtcjbceidgaieaaaKDkE
set_option linter.unusedVariables false
set_option linter.unusedSimpArgs false
namespace Go.Proofs.Ytcjbceidgaieaaa
open Go.RowKit
/-- The bytes have grown, and are written. -/
theorem Ct.grown {w w3 : World} {b o : Nat} {X : Array Value} {c : Dk.Cn} {nv gv v' : Value} {row : Option Nat} {l : List UInt8} (h : Ct w b o X c nv gv) (hr : row = nv.ownBlock) (hg : w.grownBy w3 row) (hat : v'.ownBlock = row ∨ v'.ownBlock = some w.heap.size) (hown : OwnsBytes w3 0 v' l) :
    Ct (w3.setCell ⟨b, o, none⟩ v') b o (put3 X o v' (.int .i64 (c.whole : Int)) gv) ⟨l, c.whole, c.gone⟩ v' gv ∧ Own (Fp b nv gv) w (w3.setCell ⟨b, o, none⟩ v') ∧ (∀ k, Fp b v' gv k → Fp b nv gv k ∨ w.heap.size ≤ k) ∧ w3.cell? ⟨b, o, none⟩ = some nv ∧ w3.frozen? ⟨b, o, none⟩ = false := by
  subst hr
  have hb3 : w3.heap[b]? = some (.cells X 93 (0, 0)) := (hg.block b h.lt (fun e => h.bn e.symm)).trans h.blk
  have hn3 : OwnsBytes w3 0 gv c.gone := h.g.keep (fun k e hk => hg.block k hk (fun e2 => h.ap k e2.symm e))
  have ha : Ap v' gv := fun k e1 e2 => by
    rcases hat with e | e
    · exact h.ap k (e ▸ e1) e2
    · rw [e] at e1
      cases e1
      have := (h.g.lt e2).2
      omega
  have hb' : v'.ownBlock ≠ some b := fun e2 => by
    rcases hat with e | e
    · exact h.bn (e ▸ e2)
    · rw [e] at e2
      cases e2
      have := h.lt
      omega
  refine ⟨?_, ?_, ?_, (Lib.cell_of_heap hb3 _).trans h.x0, Lib.frozen_of_heap hb3 _⟩
  · exact Ct.mk0 hb3 h.x0 h.x1 h.x2 hn3 h.bg hown ha hb'
  · refine Own.trans (T' := Fp b nv gv) ?_ (Own.set (T := Fp b nv gv) (.inl rfl) w3 o v') (fun k hk => .inl hk)
    exact ⟨hg.os, hg.tape, hg.output, hg.size, fun k hk hn => hg.block k hk (fun e => hn (.inr (.inl e.symm)))⟩
  · rintro k (e | e | e)
    · exact .inl (.inl e)
    · rcases hat with e2 | e2
      · exact .inl (.inr (.inl (e2 ▸ e)))
      · rw [e2] at e
        cases e
        exact .inr (Nat.le_refl _)
    · exact .inl (.inr (.inr e))
theorem Ct.heap {w w' : World} {b o : Nat} {X : Array Value} {c : Dk.Cn} {nv gv : Value} (h : Ct w b o X c nv gv) (e : w'.heap = w.heap) : Ct w' b o X c nv gv :=
  ⟨by rw [e]; exact h.blk, h.x0, h.x1, h.x2, h.n.keep (fun k _ _ => by rw [e]), h.g.keep (fun k _ _ => by rw [e]), h.ap, h.bn, h.bg⟩
theorem Own.drewN {T : Nat → Prop} {w w' : World} (h : Own T w w') (n : Nat) : Own T w (w'.drewN n) := ⟨h.os, h.tape, h.output, h.size, h.block⟩
/-- What is gone is written anew, in its own block. -/
theorem Ct.turned {w w1 : World} {b o : Nat} {X : Array Value} {c : Dk.Cn} {nv : Value} {g n cp : Nat} {l : List UInt8} (h : Ct w b o X c nv (.slice (some ⟨g, 0, none⟩) n cp)) (hO : Own (fun k => k = g) w w1) (hown : OwnsBytes w1 0 (.slice (some ⟨g, 0, none⟩) n cp) l) : Ct w1 b o X ⟨c.now, c.whole, l⟩ nv (.slice (some ⟨g, 0, none⟩) n cp) ∧ Own (Fp b nv (.slice (some ⟨g, 0, none⟩) n cp)) w w1 :=
  ⟨⟨(hO.block b h.lt (fun e => h.bg (by rw [e]; rfl))).trans h.blk, h.x0, h.x1, h.x2, h.n.keep (fun k e hk => hO.block k hk (fun e2 => h.ap k e (by rw [e2]; rfl))), hown, h.ap, h.bn, h.bg⟩,
   ⟨hO.os, hO.tape, hO.output, hO.size, fun k hk hn => hO.block k hk (fun e => hn (.inr (.inr (by rw [e]; rfl))))⟩⟩
set_option maxHeartbeats 4000000 in
set_option maxRecDepth 100000 in
theorem lose_back {w : World} {b o : Nat} {X : Array Value} {c : Dk.Cn} {nv gv : Value} (h : Ct w b o X c nv gv) (hf : c.Fine) (k : Int) (hg : c.gone ≠ []) :
    Calls Try.prog 53 #[.pointer (some ⟨b, o, none⟩), .int .i64 k, .bool false] w fun e w' => e = .returned (.tuple #[]) ∧ CtPost w b o X nv gv (c.lose k false) w' := by
  obtain ⟨a, cp, rfl⟩ := h.n.form
  have hf1 := hf.whole
  have hf2 := hf.now
  have hf3 := hf.gone
  have hl : 0 < c.gone.length := List.length_pos_iff.2 hg
  obtain ⟨g, gc, rfl⟩ : ∃ g gc, gv = .slice (some ⟨g, 0, none⟩) c.gone.length gc := by
    rcases h.g.2 with ⟨_, h0⟩ | ⟨g, cap, cur, e, _⟩
    · omega
    · exact ⟨g, cap, e⟩
  have hR := Reverse_any h.g hl (by omega)
  have c0 := h.c0
  have c1 := h.c1
  have c2 := h.c2
  have hcap := OwnsBytes.cap h.n
  have HH : Hid (Ct w b o X c (.slice a c.now.length cp) (.slice (some ⟨g, 0, none⟩) c.gone.length gc)) := h
  have HL : Hid (c.lose k false = Dk.Cn.settle ⟨c.now.take c.whole ++ c.gone.reverse, c.whole, c.gone.reverse⟩) := by
    show c.lose k false = _
    unfold Dk.Cn.lose Dk.Cn.left Dk.Cn.settle
    rw [if_pos ⟨hg, rfl⟩]
  clear h hf hg
  have hl' : (0 : Int) < (c.gone.length : Int) := by omega
  go_enter Try.func53, Try.ntmps53
  go_wp2_with (go_at_call 74; refine hR.mono ?_; rintro e w1 ⟨rfl, ho1, hO1⟩; obtain ⟨hC1, hP1⟩ := HH.out.turned hO1 ho1; have d0 := hC1.c0; have d1 := hC1.c1; have d2 := hC1.c2; clear c0 c1 c2 hR)
  have HP1 : Hid (Own (Fp b (.slice a c.now.length cp) (.slice (some ⟨g, 0, none⟩) c.gone.length gc)) w w1) := hP1
  have HC1 : Hid (Ct w1 b o X ⟨c.now, c.whole, c.gone.reverse⟩ (.slice a c.now.length cp) (.slice (some ⟨g, 0, none⟩) c.gone.length gc)) := hC1
  have hT := own_drew (OwnsBytes.take (show OwnsBytes w1 0 (.slice a c.now.length cp) c.now from hC1.n) c.whole hf1)
  have hY : RB w1.drew (.slice (some ⟨g, 0, none⟩) c.gone.length gc) c.gone.reverse := hC1.g.reads.keep (fun _ _ _ => rfl)
  have hD : Below w1.heap.size w1 w1.drew := (Below.refl _ _).drew
  have HC2 := HC1.out.below hD
  have HC2' : Hid (Ct w1.drew b o X ⟨c.now, c.whole, c.gone.reverse⟩ (.slice a c.now.length cp) (.slice (some ⟨g, 0, none⟩) c.gone.length gc)) := HC2
  clear hC1 hP1 HC2 hO1 ho1
  have hw1 : (c.whole : Int) ≤ (c.now.length : Int) := by omega
  have hw2 : c.whole ≤ cp := by omega
  have hlen : (c.now.take c.whole).length + c.gone.reverse.length ≤ 1000000000 := by simp; omega
  have hlen2 : (c.now.take c.whole ++ c.gone.reverse).length ≤ 1048576 := by simp; omega
  generalize hnn : c.now.take c.whole = nn at *
  generalize hgg : c.gone.reverse = gg at *
  go_region_law (refine step_append_RB rfl (.tmp 31) (.tmp 35) rfl _ _ rfl hT _ _ rfl hY hlen ?_; intro v' w' h1 h2 h3; obtain ⟨hN, hON, hKN, hc2, hf2⟩ := HC2'.out.grown (own_len a _ _ _ _) h2 h3 h1; obtain ⟨a', cp', rfl⟩ := h1.form1)
  all_goals (
    have HN : Hid _ := hN
    replace hON := HP1.out.trans ((Own.of hD).trans hON (fun k hk => .inl hk)) (fun k hk => .inl hk)
    generalize w'.setCell ⟨b, o, none⟩ _ = wn at *
    have hS := settle_any hN hlen2
    go_wp2_with (go_at_call 75; refine hS.mono ?_; rintro e w3 ⟨rfl, hP3⟩)
    go_end0
    refine ⟨rfl, ?_⟩
    rw [HL.out]
    exact CtPost.trans (c1 := ⟨nn ++ gg, c.whole, gg⟩) hON (fun k hk => (hKN k hk).imp id (fun h => Nat.le_trans HP1.out.size h)) hP3)
set_option maxHeartbeats 4000000 in
set_option maxRecDepth 100000 in
theorem lose_stay {w : World} {b o : Nat} {X : Array Value} {c : Dk.Cn} {nv gv : Value} (h : Ct w b o X c nv gv) (hf : c.Fine) (k : Int) (hk : -9223372036854775808 ≤ k ∧ k ≤ 9223372036854775807) (cut : Bool) (hg : c.gone = [] ∨ cut = true) :
    Calls Try.prog 53 #[.pointer (some ⟨b, o, none⟩), .int .i64 k, .bool cut] w fun e w' => e = .returned (.tuple #[]) ∧ CtPost w b o X nv gv (c.lose k cut) w' := by
  obtain ⟨a, cp, rfl⟩ := h.n.form
  obtain ⟨ga, gc, rfl⟩ := h.g.form
  have hf1 := hf.whole
  have hf2 := hf.now
  have hf3 := hf.gone
  have c0 := h.c0
  have c1 := h.c1
  have c2 := h.c2
  have f0 := h.free o
  have hcap := OwnsBytes.cap h.n
  have hm : c.whole + c.kept k ≤ c.now.length := by unfold Dk.Cn.kept; omega
  have hT := OwnsBytes.take h.n (c.whole + c.kept k) hm
  have hS := h.set0 hT (fun q e1 e2 => h.ap q ((own_len a _ _ _ _).trans e1) e2) (fun e1 => h.bn ((own_len a _ _ _ _).trans e1))
  have hO : Own (Fp b (.slice a c.now.length cp) (.slice ga c.gone.length gc)) w (w.setCell ⟨b, o, none⟩ (.slice a (c.whole + c.kept k) cp)) := Own.set (T := Fp b (.slice a c.now.length cp) (.slice ga c.gone.length gc)) (.inl rfl) w o _
  have hK : ∀ q, Fp b (.slice a (c.whole + c.kept k) cp) (.slice ga c.gone.length gc) q → Fp b (.slice a c.now.length cp) (.slice ga c.gone.length gc) q ∨ w.heap.size ≤ q := fun q hq => .inl (by rcases hq with hq | hq | hq; exact .inl hq; exact .inr (.inl ((own_len a _ _ _ _).trans hq)); exact .inr (.inr hq))
  have HL : Hid (c.lose k cut = Dk.Cn.settle ⟨c.now.take (c.whole + c.kept k), c.whole, c.gone⟩) := by
    show c.lose k cut = _
    unfold Dk.Cn.lose Dk.Cn.left Dk.Cn.settle
    rw [if_neg (by rcases hg with hg | hg; exact fun e => e.1 hg; exact fun e => by rw [hg] at e; exact absurd e.2 (by decide))]
  have hls : IntKind.i64.wrap ((c.now.length : Int) - (c.whole : Int)) = ((c.now.length - c.whole : Nat) : Int) := w64 (by omega) (by omega) (by omega)
  have hnl : (c.now.take (c.whole + c.kept k)).length ≤ 1048576 := by simp; omega
  have HM : Hid (c.kept k = min (max k 0).toNat (c.now.length - c.whole)) := rfl
  have HS : Hid (Ct (w.setCell ⟨b, o, none⟩ (.slice a (c.whole + c.kept k) cp)) b o (put3 X o (.slice a (c.whole + c.kept k) cp) (.int .i64 (c.whole : Int)) (.slice ga c.gone.length gc)) ⟨c.now.take (c.whole + c.kept k), c.whole, c.gone⟩ (.slice a (c.whole + c.kept k) cp) (.slice ga c.gone.length gc)) := hS
  clear h hf hT hS
  have hgl : c.gone.length = 0 ∨ (c.gone.length ≠ 0 ∧ cut = true) := by
    rcases hg with hg | hg
    · exact .inl (by rw [hg]; rfl)
    · by_cases h0 : c.gone.length = 0
      · exact .inl h0
      · exact .inr ⟨h0, hg⟩
  obtain ⟨m, hmm⟩ : ∃ m, m = c.whole + c.kept k := ⟨_, rfl⟩
  have hmk := HM.out
  rw [← hmm] at hm hO hK HS HL hnl
  generalize c.kept k = kk at *
  generalize hgn : c.gone.length = gn at *
  generalize hln : c.now.length - c.whole = ln at *
  have HF : Hid (ln + c.whole = c.now.length) := by show ln + c.whole = c.now.length; omega
  clear hg hgn HM hln
  by_cases hn : k < 0
  · have hmx : ¬ (0 : Int) < k := by omega
    have h0 : m = c.whole := by omega
    subst h0
    clear hmm hmk
    rcases hgl with h1 | ⟨h1, h2⟩
    · subst h1
      go_enter Try.func53, Try.ntmps53
      go_wp2
      go_quiet (fail)
      go_wp2
      go_region
      have HN := HS.out.heap (w' := (w.drewN (nq + 1)).setCell ⟨b, o, none⟩ (.slice a (c.whole) cp)) rfl
      have HO := hO.drewN (nq + 1)
      change Own _ w ((w.drewN (nq + 1)).setCell ⟨b, o, none⟩ (.slice a (c.whole) cp)) at HO
      generalize (w.drewN (nq + 1)).setCell ⟨b, o, none⟩ (.slice a (c.whole) cp) = wn at *
      have hS := settle_any HN hnl
      go_wp2_with (go_at_call 75; refine hS.mono ?_; rintro e w3 ⟨rfl, hP3⟩)
      go_end0
      refine ⟨rfl, ?_⟩
      rw [HL.out]
      exact CtPost.trans (c1 := ⟨c.now.take (c.whole), c.whole, c.gone⟩) HO hK hP3
    · subst h2
      have h3 : (0 : Int) < (gn : Int) := by omega
      go_enter Try.func53, Try.ntmps53
      go_wp2
      go_quiet (fail)
      go_wp2
      go_region
      have HN := HS.out.heap (w' := (w.drewN (nq + 1)).setCell ⟨b, o, none⟩ (.slice a (c.whole) cp)) rfl
      have HO := hO.drewN (nq + 1)
      change Own _ w ((w.drewN (nq + 1)).setCell ⟨b, o, none⟩ (.slice a (c.whole) cp)) at HO
      generalize (w.drewN (nq + 1)).setCell ⟨b, o, none⟩ (.slice a (c.whole) cp) = wn at *
      have hS := settle_any HN hnl
      go_wp2_with (go_at_call 75; refine hS.mono ?_; rintro e w3 ⟨rfl, hP3⟩)
      go_end0
      refine ⟨rfl, ?_⟩
      rw [HL.out]
      exact CtPost.trans (c1 := ⟨c.now.take (c.whole), c.whole, c.gone⟩) HO hK hP3
  · by_cases hn2 : k ≤ (ln : Int)
    · obtain ⟨kn, rfl⟩ : ∃ kn : Nat, k = (kn : Int) := ⟨k.toNat, by omega⟩
      have h0 : m = c.whole + kn := by omega
      subst h0
      clear hmm hmk hn
      have hkl : kn ≤ ln := by omega
      have hr1 := HF.out
      have hsum : IntKind.i64.wrap ((c.whole : Int) + (kn : Int)) = ((c.whole + kn : Nat) : Int) := w64 (by omega) (by omega) (by omega)
      clear hr1
      rcases hgl with h1 | ⟨h1, h2⟩
      · subst h1
        go_enter Try.func53, Try.ntmps53
        go_wp2
        go_quiet (fail)
        go_wp2
        go_region
        have HN := HS.out.heap (w' := (w.drewN (nq + 1)).setCell ⟨b, o, none⟩ (.slice a (c.whole + kn) cp)) rfl
        have HO := hO.drewN (nq + 1)
        change Own _ w ((w.drewN (nq + 1)).setCell ⟨b, o, none⟩ (.slice a (c.whole + kn) cp)) at HO
        generalize (w.drewN (nq + 1)).setCell ⟨b, o, none⟩ (.slice a (c.whole + kn) cp) = wn at *
        have hS := settle_any HN hnl
        go_wp2_with (go_at_call 75; refine hS.mono ?_; rintro e w3 ⟨rfl, hP3⟩)
        go_end0
        refine ⟨rfl, ?_⟩
        rw [HL.out]
        exact CtPost.trans (c1 := ⟨c.now.take (c.whole + kn), c.whole, c.gone⟩) HO hK hP3
      · subst h2
        have h3 : (0 : Int) < (gn : Int) := by omega
        go_enter Try.func53, Try.ntmps53
        go_wp2
        go_quiet (fail)
        go_wp2
        go_region
        have HN := HS.out.heap (w' := (w.drewN (nq + 1)).setCell ⟨b, o, none⟩ (.slice a (c.whole + kn) cp)) rfl
        have HO := hO.drewN (nq + 1)
        change Own _ w ((w.drewN (nq + 1)).setCell ⟨b, o, none⟩ (.slice a (c.whole + kn) cp)) at HO
        generalize (w.drewN (nq + 1)).setCell ⟨b, o, none⟩ (.slice a (c.whole + kn) cp) = wn at *
        have hS := settle_any HN hnl
        go_wp2_with (go_at_call 75; refine hS.mono ?_; rintro e w3 ⟨rfl, hP3⟩)
        go_end0
        refine ⟨rfl, ?_⟩
        rw [HL.out]
        exact CtPost.trans (c1 := ⟨c.now.take (c.whole + kn), c.whole, c.gone⟩) HO hK hP3
    · have h0 : m = c.whole + ln := by omega
      subst h0
      clear hmm hmk
      have hn3 : (ln : Int) < k := by omega
      have hn4 : (0 : Int) < k := by omega
      have hr1 := HF.out
      have hsum : IntKind.i64.wrap ((c.whole : Int) + (ln : Int)) = ((c.whole + ln : Nat) : Int) := w64 (by omega) (by omega) (by omega)
      clear hr1
      rcases hgl with h1 | ⟨h1, h2⟩
      · subst h1
        go_enter Try.func53, Try.ntmps53
        go_wp2
        go_quiet (fail)
        go_wp2
        go_region
        have HN := HS.out.heap (w' := (w.drewN (nq + 1)).setCell ⟨b, o, none⟩ (.slice a (c.whole + ln) cp)) rfl
        have HO := hO.drewN (nq + 1)
        change Own _ w ((w.drewN (nq + 1)).setCell ⟨b, o, none⟩ (.slice a (c.whole + ln) cp)) at HO
        generalize (w.drewN (nq + 1)).setCell ⟨b, o, none⟩ (.slice a (c.whole + ln) cp) = wn at *
        have hS := settle_any HN hnl
        go_wp2_with (go_at_call 75; refine hS.mono ?_; rintro e w3 ⟨rfl, hP3⟩)
        go_end0
        refine ⟨rfl, ?_⟩
        rw [HL.out]
        exact CtPost.trans (c1 := ⟨c.now.take (c.whole + ln), c.whole, c.gone⟩) HO hK hP3
      · subst h2
        have h3 : (0 : Int) < (gn : Int) := by omega
        go_enter Try.func53, Try.ntmps53
        go_wp2
        go_quiet (fail)
        go_wp2
        go_region
        have HN := HS.out.heap (w' := (w.drewN (nq + 1)).setCell ⟨b, o, none⟩ (.slice a (c.whole + ln) cp)) rfl
        have HO := hO.drewN (nq + 1)
        change Own _ w ((w.drewN (nq + 1)).setCell ⟨b, o, none⟩ (.slice a (c.whole + ln) cp)) at HO
        generalize (w.drewN (nq + 1)).setCell ⟨b, o, none⟩ (.slice a (c.whole + ln) cp) = wn at *
        have hS := settle_any HN hnl
        go_wp2_with (go_at_call 75; refine hS.mono ?_; rintro e w3 ⟨rfl, hP3⟩)
        go_end0
        refine ⟨rfl, ?_⟩
        rw [HL.out]
        exact CtPost.trans (c1 := ⟨c.now.take (c.whole + ln), c.whole, c.gone⟩) HO hK hP3
end Go.Proofs.Ytcjbceidgaieaaa
