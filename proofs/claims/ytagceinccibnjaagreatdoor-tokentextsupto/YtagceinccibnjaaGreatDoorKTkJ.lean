/- The contract of token.Next. -/
import Derived.Test.YtagceinccibnjaaGreatDoorKTkI
import Derived.Deep.RegionWith
import Derived.Deep.RegionHeld3
set_option linter.unusedVariables false
set_option linter.unusedSimpArgs false
namespace Go.Proofs.YtagceinccibnjaaGreatDoor
open Go.RowKit
/-- What Next has done. -/
def NextPost (w : World) (k : Tk.Tok) (n : Nat) (e : Ending) (w' : World) : Prop :=
  ∃ ad ln cp, e = .returned (.tuple #[tokV k (.slice ad ln cp), .int .i64 n]) ∧ OwnsA w' w.heap.size (.slice ad ln cp) k.attrs ∧ Below w.heap.size w w'
theorem zeroR12 : (Tryz.prog.info? 53).map (fun i => (i.zero, i.size)) = some (some (.agg #[.string ByteArray.empty, .string ByteArray.empty]), 2) := by kernel_rfl
theorem results_two {fn : Func} {p q : Tmp} {ty : TypeId} (h : fn.results = #[.cell p ty, .tmp q]) (tmps : Array Value) (P : Program) (w : World) (a : Addr) (x : Value) (hp : tmps.getD p undef = .pointer (some a)) (hl : (loadVar ty a).run P w = .ok x w) :
    (results fn tmps).run P w = .ok (.tuple #[x, tmps.getD q undef]) w := by
  have hp2 : tmps[p]?.getD undef = .pointer (some a) := by rw [← hp]; simp
  simp only [results, h]
  simp [Sem.run_bind, Result.andThen, asAddr, hp2, hl]
theorem ret_K2 {fn : Func} {p q : Tmp} {Q : Ending → World → Prop} {a : Act} {w : World} {b : Nat} {x0 x1 x2 x3 x4 x : Value} (hr : fn.results = #[.cell p 37, .tmp q]) (hd : a.defers = []) (hp : a.tmps.getD p undef = .pointer (some ⟨b, 0, none⟩)) (hx : a.tmps.getD q undef = x) (h : KAt w b #[x0, x1, x2, x3, x4]) (hQ : Q (.returned (.tuple #[.agg #[x0, x1, x2, x3, x4], x])) w) :
    bodyPost Tryz.prog fn Q .ret a w := by
  refine bodyPost_ret (v := .tuple #[.agg #[x0, x1, x2, x3, x4], x]) ?_ hd hQ
  rw [results_two hr _ _ _ _ _ hp (load_K h), hx]
theorem takeH12 {md : Region.Mode} {ops : Array Oper} {Q : Exit → Act → World → Prop} {S : World → Prop} {fuel : Nat} {listed : Array Bool} {a : Act} {w : World} (i d : Nat) (v : Value) {oi : Oper} (hi : ops[i]? = some oi) (hd : oi.dst = some d)
    (hs : Region.noSelect ops = true) (hf : Region.free md ops listed i = true) (hr : (Region.ready md ops listed).contains i = true)
    (hQ : ∀ c a w, Q (.panic c) (a.put (some d) v) w → Q (.panic c) a w) (hy : YieldsIf Tryz.prog ops S oi v a) (hS : S w)
    (h : wpAnyH Tryz.prog md ops Q S fuel (listed.setIfInBounds i true) (a.put (some d) v) w) : wpAnyH Tryz.prog md ops Q S (fuel + 1) listed a w :=
  wpAnyH_take hi hs hf hr (by rw [hd]; exact hQ) hy hS (by rw [hd]; exact h)
theorem hy_load_K {ops : Array Oper} {S : World → Prop} {o : Oper} {a : Act} (x : Operand) (ho : o.op = .load 37 x) (hw : Region.wanted o (yielded ops a.tmps) = true) (b : Nat) (x0 x1 x2 x3 x4 : Value) (hx : a.eval x = .pointer (some ⟨b, 0, none⟩)) (h : ∀ W, S W → KAt W b #[x0, x1, x2, x3, x4]) : YieldsIf Tryz.prog ops S o (.agg #[x0, x1, x2, x3, x4]) a :=
  (.inl ⟨hw, fun w hs => by
    unfold execOp
    rw [ho]
    simp only [hx, Sem.run_bind, loadAt_K (h w hs), Result.andThen, Sem.run_pure]⟩)
theorem step_store_K {ops : Array Oper} {o : Oper} {a : Act} {w : World} {K : Act → World → Prop} {Q : Exit → Act → World → Prop} {E : Prop} (p q : Operand) (ho : o.op = .store 37 p q) (hg : o.guard = none) (b : Nat) (cs : Array Value) (hc : cs.size = 5) (k : Int) (n x : ByteArray) (s : Bool) (ad : Option Addr) (ln cp : Nat) (hx : a.eval p = .pointer (some ⟨b, 0, none⟩)) (hy : a.eval q = .agg #[.int .i64 k, .string n, .slice ad ln cp, .bool s, .string x]) (h : KAt w b cs)
    (hK : K (a.put o.dst undef) (w.setRow b #[.int .i64 k, .string n, .slice ad ln cp, .bool s, .string x])) : if Region.wanted o (yielded ops a.tmps) = true then Oper.wp Tryz.prog o a w K Q else E := by
  have hw : Region.wanted o (yielded ops a.tmps) = true := by simp [Region.wanted, hg]
  rw [if_pos hw]
  unfold Oper.wp
  have e : (execOp a.eval o).run Tryz.prog w = .ok .skip (w.setRow b #[.int .i64 k, .string n, .slice ad ln cp, .bool s, .string x]) := by
    unfold execOp
    rw [ho]
    simp only [hx, hy, Sem.run_bind, storeAt_K hc h, Result.andThen, Sem.run_pure]
  rw [e, Oper.upon_skip]
  exact hK
theorem anyH_store_K {md : Region.Mode} {ops : Array Oper} {Q : Exit → Act → World → Prop} {S : World → Prop} {fuel : Nat} {listed : Array Bool} {a : Act} {w : World} (i : Nat) {o : Oper} (hr : Region.ready md ops listed = [i]) (hi : ops[i]? = some o) (hd : o.dst = none) (p q : Operand) (ho : o.op = .store 37 p q) (hg : o.guard = none) (b : Nat) (cs : Array Value) (hc : cs.size = 5) (k : Int) (n x : ByteArray) (s : Bool) (ad : Option Addr) (ln cp : Nat) (hx : a.eval p = .pointer (some ⟨b, 0, none⟩)) (hy : a.eval q = .agg #[.int .i64 k, .string n, .slice ad ln cp, .bool s, .string x]) (h : KAt w b cs)
    (hS : S (w.setRow b #[.int .i64 k, .string n, .slice ad ln cp, .bool s, .string x])) (hK : S (w.setRow b #[.int .i64 k, .string n, .slice ad ln cp, .bool s, .string x]) → wpAnyH Tryz.prog md ops Q S fuel (listed.setIfInBounds i true) a (w.setRow b #[.int .i64 k, .string n, .slice ad ln cp, .bool s, .string x])) : wpAnyH Tryz.prog md ops Q S (fuel + 1) listed a w :=
  wpAnyH_ready hr (by simp) (AllReadyH.cons hi (fun _ h2 => step_store_K p q ho hg b cs hc k n x s ad ln cp hx hy h (h2.out _ _ hS (by rw [hd]; exact hK))) AllReadyH.nil)
set_option maxHeartbeats 1000000 in
set_option maxRecDepth 100000 in
theorem NextT_any (s : List UInt8) (w : World) (hE : EnvT w) (hz : s.length ≤ 1000000) :
    Calls Tryz.prog 17 #[.string (str s)] w (NextPost w (Tk.next s).1 (Tk.next s).2) := by
  have hzk := (zero_of_info zeroK).1
  by_cases hs : s = []
  · subst hs
    have hne : ((str ([] : List UInt8)).toList.isEmpty) = true := by rw [str_list]; rfl
    have ha0 : KAt (w.alloc (.cells kCells0 37)) w.heap.size kCells0 := heap_new w _
    have hb0 : Below w.heap.size w (w.alloc (.cells kCells0 37)) := (Below.refl _ w).alloc (Nat.le_refl _) _
    go_enter Tryz.func17, Tryz.ntmps17
    go_wp2_with (refine wpList_store_K _ _ rfl rfl w.heap.size _ rfl 0 ByteArray.empty ByteArray.empty false none 0 0 rfl rfl ha0 ?_)
    refine ret_K2 rfl rfl rfl rfl (setRow_K ha0) ?_
    exact ⟨none, 0, 0, rfl, OwnsPairs.nil _ _ _, hb0.trans ((kept_setRow w.heap.size _ _).below _ (Nat.le_refl _) hb0.size)⟩
  · have hne : ((str s).toList.isEmpty) = false := by
      rw [str_list]
      cases s with
      | nil => exact absurd rfl hs
      | cons c t => rfl
    have hsz := str_size s
    have hlt := hE.lt
    have hzr := (zero_of_info zeroR12).1
    have hb0 : Below w.heap.size w (w.alloc (.cells kCells0 37)) := (Below.refl _ w).alloc (Nat.le_refl _) _
    have ha0 : KAt (w.alloc (.cells kCells0 37)) w.heap.size kCells0 := heap_new w _
    have hs0 : (w.alloc (.cells kCells0 37)).heap.size = w.heap.size + 1 := by simp
    have hb1 : Below (w.heap.size + 1) (w.alloc (.cells kCells0 37)) ((w.alloc (.cells kCells0 37)).alloc (.cells #[.string (str s), .string ByteArray.empty] 53)) := (Below.refl _ _).alloc (by omega) _
    have ht1 : Tr (w.heap.size + 1) s [] ((w.alloc (.cells kCells0 37)).alloc (.cells #[.string (str s), .string ByteArray.empty] 53)) := by
      refine ⟨?_, hz, by omega, by omega, (hE.below hb0).belowB hb1 (by omega) (by omega)⟩
      have h2 := heap_new (w.alloc (.cells kCells0 37)) (.cells #[.string (str s), .string ByteArray.empty] 53)
      rw [hs0] at h2
      exact h2
    have hN := nextT_any ht1 hs (.inl rfl)
    rw [show nextP [] s = nxL s from if_pos (.inl rfl)] at hN
    have hlen := (Tk.next_len s hs).2.1
    have hrl : (nxL s).2.length = s.length - (Tk.next s).2 := List.length_drop
    have HK : Hid ((Tk.next s).1 = (nxL s).1) := rfl
    generalize nxL s = q at *
    generalize (Tk.next s).2 = n at *
    generalize nextA [] s = a2 at *
    generalize (Tk.next s).1 = k1 at *
    obtain ⟨⟨kk, kn, ka, ks, kx⟩, r⟩ := q
    simp only at hrl HK
    have hrz := str_size r
    have hrs : r.length ≤ s.length := by omega
    have hsub : (s.length : Int) - (r.length : Int) = (n : Int) := by omega
    have ha1 := ha0.belowB hb1 (by omega)
    have hb2 : Below w.heap.size w ((w.alloc (.cells kCells0 37)).alloc (.cells #[.string (str s), .string ByteArray.empty] 53)) := hb0.trans (hb1.mono (by omega))
    have hbs := ht1.lt
    have hwr : IntKind.i64.wrap (n : Int) = (n : Int) := by rw [IntKind.wrap_i64]; omega
    clear hlen hrl
    go_enter Tryz.func17, Tryz.ntmps17
    go_wp2_with fail
    generalize ((w.alloc (.cells kCells0 37)).alloc (.cells #[.string (str s), .string ByteArray.empty] 53)) = W at *
    go_at_call 28
    refine hN.mono ?_
    rintro e w2 ⟨ad, ln, cp, rfl, o2, h2, k2⟩
    have r2 := ha1.kept k2 (by omega)
    simp only at o2 h2
    have o2' := OwnsPairs.mono (B := w.heap.size + 1) o2 (by omega)
    have hb3 : Below w2.heap.size w2 (w2.alloc (.cells (kCells kk kn (.slice ad ln cp) ks kx) 37)) := (Below.refl _ _).alloc (Nat.le_refl _) _
    have t3 : KAt (w2.alloc (.cells (kCells kk kn (.slice ad ln cp) ks kx) 37)) w2.heap.size (kCells kk kn (.slice ad ln cp) ks kx) := heap_new w2 _
    have h3 := h2.step hb3
    have r3 := r2.step hb3
    have o3 := OwnsPairs.below o2' hb3
    have hB3 : Below w.heap.size w (w2.alloc (.cells (kCells kk kn (.slice ad ln cp) ks kx) 37)) := (hb2.trans (k2.below _ (by omega) (by omega))).trans (hb3.mono (by have := k2.size; omega))
    have hw2 : w.heap.size < w2.heap.size := by have := k2.size; omega
    clear hN ht1 ha0 hb0 hs0 hb1 ha1 hb2 k2 o2 o2' h2 r2 hb3
    go_wp2_with fail
    generalize (w2.alloc (.cells (kCells kk kn (.slice ad ln cp) ks kx) 37)) = W3 at *
    have hTn0 : w2.heap.size ≠ w.heap.size := by omega
    generalize w2.heap.size = T at *
    have h3' : Tr (w.heap.size + 1) r a2 W3.drew := h3.step ((Below.refl _ _).drew)
    have t3' : KAt W3.drew T (kCells kk kn (.slice ad ln cp) ks kx) := t3
    have r3' : KAt W3.drew w.heap.size kCells0 := r3
    have hTn : T ≠ w.heap.size := hTn0
    have hB3' : Below w.heap.size w W3.drew := hB3.trans ((Below.refl _ _).drew)
    have o3' : OwnsA W3.drew (w.heap.size + 1) (.slice ad ln cp) ka := OwnsPairs.below o3 ((Below.refl _ _).drew)
    obtain ⟨S, hS1⟩ : ∃ S : World → Prop, ∀ W, S W ↔ KAt W T (kCells kk kn (.slice ad ln cp) ks kx) ∧ W.heap[w.heap.size + 1]? = some (.cells #[.string (str r), .string (str a2)] 53 (0, 0)) := ⟨_, fun _ => Iff.rfl⟩
    have k7 := kept_setRow w.heap.size W3.drew (kCells kk kn (.slice ad ln cp) ks kx)
    have hS2 : S (W3.drew.setRow w.heap.size (kCells kk kn (.slice ad ln cp) ks kx)) := (hS1 _).2 ⟨t3'.kept k7 hTn, k7.heap h3'.at_ (by omega)⟩
    refine wp_region_held_drew (S := S) (by kernel_rfl) ((hS1 _).2 ⟨t3', h3'.at_⟩) (fun hS => ?_)
    refine takeH12 0 13 (tokV ⟨kk, kn, ka, ks, kx⟩ (.slice ad ln cp)) rfl rfl (by kernel_rfl) (by kernel_rfl) (by kernel_rfl) (fun _ _ _ h => h) (hy_load_K (Operand.tmp 5) rfl (by kernel_rfl) T _ _ _ _ _ (by kernel_rfl) (fun W h => ((hS1 W).1 h).1)) hS ?_
    simp only [Act.put, List.setIfInBounds_toArray, List.set_cons_zero, List.set_cons_succ]
    refine takeH12 1 14 (.string (str s)) rfl rfl (by kernel_rfl) (by kernel_rfl) (by kernel_rfl) (fun _ _ _ h => h) (Or.inl ⟨by kernel_rfl, fun W _ => by go_simp⟩) hS ?_
    simp only [Act.put, List.setIfInBounds_toArray, List.set_cons_zero, List.set_cons_succ]
    refine takeH12 2 15 (.int .i64 (s.length : Int)) rfl rfl (by kernel_rfl) (by kernel_rfl) (by kernel_rfl) (fun _ _ _ h => h) (Or.inl ⟨by kernel_rfl, fun W _ => by go_simp⟩) hS ?_
    simp only [Act.put, List.setIfInBounds_toArray, List.set_cons_zero, List.set_cons_succ]
    refine takeH12 3 16 (.pointer (some ⟨w.heap.size + 1, 0, none⟩)) rfl rfl (by kernel_rfl) (by kernel_rfl) (by kernel_rfl) (fun _ _ _ h => h) (Or.inl ⟨by kernel_rfl, fun W _ => by go_simp⟩) hS ?_
    simp only [Act.put, List.setIfInBounds_toArray, List.set_cons_zero, List.set_cons_succ]
    refine takeH12 4 17 (.pointer (some ⟨w.heap.size + 1, 0, none⟩)) rfl rfl (by kernel_rfl) (by kernel_rfl) (by kernel_rfl) (fun _ _ _ h => h) (Or.inl ⟨by kernel_rfl, fun W _ => by go_simp⟩) hS ?_
    simp only [Act.put, List.setIfInBounds_toArray, List.set_cons_zero, List.set_cons_succ]
    refine takeH12 5 18 (.string (str r)) rfl rfl (by kernel_rfl) (by kernel_rfl) (by kernel_rfl) (fun _ _ _ h => h) (Or.inl ⟨by kernel_rfl, fun W h => by have h' : W.cell? ⟨w.heap.size + 1, 0, none⟩ = some (.string (str r)) := Lib.cell_of_heap ((hS1 W).1 h).2 0; go_simp⟩) hS ?_
    simp only [Act.put, List.setIfInBounds_toArray, List.set_cons_zero, List.set_cons_succ]
    refine takeH12 6 19 (.int .i64 (r.length : Int)) rfl rfl (by kernel_rfl) (by kernel_rfl) (by kernel_rfl) (fun _ _ _ h => h) (Or.inl ⟨by kernel_rfl, fun W _ => by go_simp⟩) hS ?_
    simp only [Act.put, List.setIfInBounds_toArray, List.set_cons_zero, List.set_cons_succ]
    refine takeH12 7 20 (.int .i64 (n : Int)) rfl rfl (by kernel_rfl) (by kernel_rfl) (by kernel_rfl) (fun _ _ _ h => h) (Or.inl ⟨by kernel_rfl, fun W _ => by go_simp⟩) hS ?_
    simp only [Act.put, List.setIfInBounds_toArray, List.set_cons_zero, List.set_cons_succ]
    refine anyH_store_K 8 (by kernel_rfl) rfl rfl (Operand.tmp 2) (Operand.tmp 13) rfl rfl w.heap.size _ rfl kk (str kn) (str kx) ks ad ln cp (by kernel_rfl) (by kernel_rfl) r3' hS2 (fun hS => ?_)
    refine takeH12 9 3 (.int .i64 (n : Int)) rfl rfl (by kernel_rfl) (by kernel_rfl) (by kernel_rfl) (fun _ _ _ h => h) (Or.inl ⟨by kernel_rfl, fun W _ => by go_simp⟩) hS ?_
    simp only [Act.put, List.setIfInBounds_toArray, List.set_cons_zero, List.set_cons_succ]
    refine wpAnyH_done (by kernel_rfl) ?_ _
    go_wp2
    refine ret_K2 rfl rfl rfl rfl (setRow_K r3') ?_
    unfold NextPost
    rw [HK.out]
    exact ⟨ad, ln, cp, rfl, (OwnsPairs.kept o3' k7 (by omega)).mono (by omega), hB3'.trans (k7.below _ (Nat.le_refl _) hB3'.size)⟩
end Go.Proofs.YtagceinccibnjaaGreatDoor
