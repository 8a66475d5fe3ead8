/- Texts laid as one. -/
import Derived.Test.YtiodaahncadodaaGreatDoorKTreAE
import Derived.Test.YtiodaahncadodaaGreatDoorKTrAB
import Derived.Deep.RegionWith
import Derived.Deep.RegionHeld3
import Derived.WalkMore
import Derived.Deep.MidRow
import Derived.Deep.CutBlock
import Derived.Test.YtiodaahncadodaaGreatDoorKTrqI
import Derived.Test.YtiodaahncadodaaGreatDoorKTreTV
import Derived.Test.YtiodaahncadodaaGreatDoorKTrI
set_option maxRecDepth 100000
set_option maxHeartbeats 8000000
set_option linter.unusedVariables false
set_option linter.unusedSimpArgs false
namespace Go.Proofs.YtiodaahncadodaaGreatDoor
open Go.RowKit
theorem zdG {md : Region.Mode} {ops : Array Oper} {Q : Exit → Act → World → Prop} {S : World → Prop} {fuel : Nat} {listed : Array Bool} {a : Act} {w : World} (i d : Nat) (v : Value) {oi : Oper} (hi : ops[i]? = some oi) (hd : oi.dst = some d)
  (hs : Region.noSelect ops = true) (hf : Region.free md ops listed i = true) (hr : (Region.ready md ops listed).contains i = true)
  (hQ : ∀ c a w,Q (.panic c) (a.put (some d) v) w → Q (.panic c) a w) (hy : YieldsIf Tryz.prog ops S oi v a) (hS : S w)
  (h : wpAnyH Tryz.prog md ops Q S fuel (listed.setIfInBounds i true) (a.put (some d) v) w) : wpAnyH Tryz.prog md ops Q S (fuel + 1) listed a w :=
 wpAnyH_take hi hs hf hr (by rw [hd];exact hQ) hy hS (by rw [hd];exact h)
def zh5 (w : World) (b : Nat) (cs : Array Value) : Prop:=w.heap[b]? = some (.cells cs 43 (0,0))
theorem sizeNq : (Tryz.prog.info? 43).map (·.size) = some 6:=by kernel_rfl
theorem zh5.lt {w : World} {b : Nat} {cs : Array Value} (h : zh5 w b cs) : b < w.heap.size:=(Array.getElem?_eq_some_iff.1 h).1
theorem zh5.below {w w' : World} {b : Nat} {cs : Array Value} (h : zh5 w b cs) (hb : Below w.heap.size w w') : zh5 w' b cs:=(hb.block _ h.lt).trans h
theorem zh5.other {w : World} {b c : Nat} {cs ds : Array Value} (h : zh5 w b cs) (hne : b ≠ c) : zh5 (w.setRow c ds) b cs:=by
 unfold zh5 at *
 simp [World.setRow,Array.getElem?_modify,Ne.symm hne,h]
theorem zh5.set {w : World} {b : Nat} {cs ds : Array Value} (h : zh5 w b cs) : zh5 (w.setRow b ds) b ds:=by
 unfold zh5 at *
 simp [World.setRow,Array.getElem?_modify,h]
theorem zmj {w : World} {b : Nat} {cs : Array Value} (hc : cs.size = 6) {k u : Int} {n x : ByteArray} {ad kd : Option Addr} {ln cp kn kc : Nat} (h : zh5 w b cs) : (Instr.storeAt 43 (.pointer (some ⟨b,0,none⟩)) (.agg #[.int .i64 k,.string n,.slice ad ln cp,.string x,.int .i64 u,.slice kd kn kc])).run Tryz.prog w = .ok () (w.setRow b #[.int .i64 k,.string n,.slice ad ln cp,.string x,.int .i64 u,.slice kd kn kc]):=by
 simp only [Instr.storeAt,Instr.sureAddr,Sem.run_bind,Sem.run_pure,Result.andThen]
 exact run_storeVar_row _ _ _ _ _ _ h sizeNq (by first | exact hc | simp [hc]) (by simp [Value.oneCell'])
theorem zh1 {ops : Array Oper} {o : Oper} {a : Act} {w : World} {K : Act → World → Prop} {Q : Exit → Act → World → Prop} {E : Prop} (p q : Operand) (ho : o.op = .store 43 p q) (hg : o.guard = none) (b : Nat) (cs : Array Value) (hc : cs.size = 6) (k u : Int) (n x : ByteArray) (ad kd : Option Addr) (ln cp kn kc : Nat) (hx : a.eval p = .pointer (some ⟨b,0,none⟩)) (hy : a.eval q = .agg #[.int .i64 k,.string n,.slice ad ln cp,.string x,.int .i64 u,.slice kd kn kc]) (h : zh5 w b cs)
  (hK : K (a.put o.dst undef) (w.setRow b #[.int .i64 k,.string n,.slice ad ln cp,.string x,.int .i64 u,.slice kd kn kc])) : if Region.wanted o (yielded ops a.tmps) = true then Oper.wp Tryz.prog o a w K Q else E:=by
 have hw : Region.wanted o (yielded ops a.tmps) = true:=by simp [Region.wanted,hg]
 rw [if_pos hw]
 unfold Oper.wp
 have e : (execOp a.eval o).run Tryz.prog w = .ok .skip (w.setRow b #[.int .i64 k,.string n,.slice ad ln cp,.string x,.int .i64 u,.slice kd kn kc]):=by
  unfold execOp
  rw [ho]
  simp only [hx,hy,Sem.run_bind,zmj hc h,Result.andThen,Sem.run_pure]
 rw [e,Oper.upon_skip]
 exact hK
theorem zce {md : Region.Mode} {ops : Array Oper} {Q : Exit → Act → World → Prop} {S : World → Prop} {fuel : Nat} {listed : Array Bool} {a : Act} {w : World} (i : Nat) {o : Oper} (hr : Region.ready md ops listed = [i]) (hi : ops[i]? = some o) (hd : o.dst = none) (p q : Operand) (ho : o.op = .store 43 p q) (hg : o.guard = none) (b : Nat) (cs : Array Value) (hc : cs.size = 6) (k u : Int) (n x : ByteArray) (ad kd : Option Addr) (ln cp kn kc : Nat) (hx : a.eval p = .pointer (some ⟨b,0,none⟩)) (hy : a.eval q = .agg #[.int .i64 k,.string n,.slice ad ln cp,.string x,.int .i64 u,.slice kd kn kc]) (h : zh5 w b cs)
  (hS : S (w.setRow b #[.int .i64 k,.string n,.slice ad ln cp,.string x,.int .i64 u,.slice kd kn kc])) (hK : S (w.setRow b #[.int .i64 k,.string n,.slice ad ln cp,.string x,.int .i64 u,.slice kd kn kc]) → wpAnyH Tryz.prog md ops Q S fuel (listed.setIfInBounds i true) a (w.setRow b #[.int .i64 k,.string n,.slice ad ln cp,.string x,.int .i64 u,.slice kd kn kc])) : wpAnyH Tryz.prog md ops Q S (fuel + 1) listed a w :=
 wpAnyH_ready hr (by simp) (AllReadyH.cons hi (fun _ h2=>zh1 p q ho hg b cs hc k u n x ad kd ln cp kn kc hx hy h (h2.out _ _ hS (by rw [hd];exact hK))) AllReadyH.nil)
abbrev zeroCellsN : Array Value:=#[.int .i64 0,.string ByteArray.empty,.slice none 0 0,.string ByteArray.empty,.int .i64 0,.slice none 0 0]
theorem zeroNq : (Tryz.prog.info? 43).map (fun i=>(i.zero,i.size)) = some (some (.agg zeroCellsN),6):=by kernel_rfl
theorem zkm (v u : Value) (ns ms : List Nd) (w : World) (hv : zbA w v ns) (hu : zbA w u ms) (hl : ns.length ≤ 1000000000) (hm : ms.length ≤ 1000000000)
  (ha : ns.length = ms.length → ∀ i,i < ns.length → (Tre.zaC ns i).attrs.length ≤ 1000000 ∧ (Tre.zaC ms i).attrs.length ≤ 1000000 ∧ (Tre.zaC ns i).kids.length ≤ 1000000000) :
  Calls Tryz.prog 13 #[.agg #[v],.agg #[u]] w fun e w'=>e = .returned (.bool (Tre.ze8 ns ms)) ∧ Below w.heap.size w w':=by
 obtain ⟨a1,c1,rfl⟩:=hv.form
 obtain ⟨a2,c2,rfl⟩:=hu.form
 have hb0 : Below w.heap.size w ((w.alloc (.cells #[.slice a1 ns.length c1] 26)).alloc (.cells #[.slice a2 ms.length c2] 26)):=((Below.refl _ w).alloc (Nat.le_refl _) _).alloc (by simp) _
 have hh2:=zaf (w.alloc (.cells #[.slice a1 ns.length c1] 26)) (.cells #[.slice a2 ms.length c2] 26)
 have hh1:=((Below.refl _ (w.alloc (.cells #[.slice a1 ns.length c1] 26))).alloc (Nat.le_refl _) (.cells #[.slice a2 ms.length c2] 26)).block w.heap.size (by simp) |>.trans (zaf w (.cells #[.slice a1 ns.length c1] 26))
 rw [show (w.alloc (.cells #[.slice a1 ns.length c1] 26)).heap.size = w.heap.size + 1 from by simp] at hh2
 have d1:=Lib.cell_of_heap hh1 0
 have d2:=Lib.cell_of_heap hh2 0
 have HV:=zaa (hv.below hb0)
 have HU:=zaa (hu.below hb0)
 have HB0:=zaa hb0
 have hbl : w.heap.size < ((w.alloc (.cells #[.slice a1 ns.length c1] 26)).alloc (.cells #[.slice a2 ms.length c2] 26)).heap.size:=zaK d1
 have hbl2 : w.heap.size + 1 < ((w.alloc (.cells #[.slice a1 ns.length c1] 26)).alloc (.cells #[.slice a2 ms.length c2] 26)).heap.size:=zaK d2
 clear hv hu hb0 hh1 hh2
 by_cases hlen : ns.length = ms.length
 ·have hq : ((ns.length : Int) != (ms.length : Int)) = false:=by simp [hlen]
  have HL:=zaa hlen
  have HA:=zaa (ha hlen)
  clear ha hlen
  go_enter Tryz.func13,Tryz.ntmps13
  go_wp2
  generalize ((w.alloc (.cells #[.slice a1 ns.length c1] 26)).alloc (.cells #[.slice a2 ms.length c2] 26)) = W0 at *
  obtain ⟨bw,hbw⟩ : ∃ b,w.heap.size = b:=⟨_,rfl⟩
  rw [hbw] at d1 d2 hbl hbl2 ⊢
  clear hbw
  go_loopw [5] (fun i wr=>∃ k : Nat,i = .int .i64 k ∧ k ≤ ns.length ∧ Hid (∀ j,j < k → Tre.zgQ (Tre.zaC ns j) (Tre.zaC ms j) = true) ∧ Hid (Below W0.heap.size W0 wr)) (fun i _=>ns.length - (intOf i).toNat)
  case atStart=>exact ⟨0,rfl,Nat.zero_le _,fun j hj=>by omega,Below.refl _ _⟩
  case round =>
   obtain ⟨k,rfl,hk,HE,HB⟩:=hrel
   rename World=>X
   have x1:=(HB.out.cell (p:=⟨bw,0,none⟩) hbl).trans d1
   have x2:=(HB.out.cell (p:=⟨bw + 1,0,none⟩) hbl2).trans d2
   by_cases hkl : k < ns.length
   ·have hkm : k < ms.length:=by have:=HL.out;omega
    obtain ⟨hA1,hA2,hA3⟩:=HA.out k hkl
    obtain ⟨b1,o1,aa1,ac1,ka1,kc1,rfl,hc1,hr1⟩:=(HV.out.below HB.out).at hkl
    obtain ⟨b2,o2,aa2,ac2,ka2,kc2,rfl,hc2,hr2⟩:=(HU.out.below HB.out).at hkm
    have HR1:=zaa hr1
    have HR2:=zaa hr2
    have HKL:=zaa hkl
    have HX : Hid (∀ j,j < k + 1 → Tre.zgQ (Tre.zaC ns k) (Tre.zaC ms k) = true → Tre.zgQ (Tre.zaC ns j) (Tre.zaC ms j) = true):=fun j hj h=>by
     by_cases e : j = k
     ·rw [e];exact h
     ·exact HE.out j (by omega)
    have HNo : Hid (Tre.zgQ (Tre.zaC ns k) (Tre.zaC ms k) = false → Tre.ze8 ns ms = false):=fun h=>Tre.sameL_at k hkl hkm h
    generalize Tre.zaC ns k = n at *
    generalize Tre.zaC ms k = m at *
    clear hr1 hr2 HE
    obtain ⟨kd,nm,ats,tx,up,ks⟩:=n
    obtain ⟨kd2,nm2,ats2,tx2,up2,ks2⟩:=m
    simp only at hA1 hA2 hA3
    have HS : Hid (Tre.zgQ ⟨kd,nm,ats,tx,up,ks⟩ ⟨kd2,nm2,ats2,tx2,up2,ks2⟩ = ((kd == kd2) && ((nm == nm2) && (decide (ats = ats2) && ((tx == tx2) && ((up == up2) && decide (ks = ks2))))))):=rfl
    have hz:=(zero_of_info zeroNq).1
    have hbX : bw < X.heap.size:=Nat.lt_of_lt_of_le hbl HB.out.size
    have hbX2 : bw + 1 < X.heap.size:=Nat.lt_of_lt_of_le hbl2 HB.out.size
    go_wp2
    go_cut [6,7] from 22 to 31 (fun s6 s7 w'=>∃ b6 b7 : Nat,s6 = Value.pointer (some ⟨b6,0,none⟩) ∧ s7 = Value.pointer (some ⟨b7,0,none⟩) ∧ zh5 w' b6 #[.int .i64 kd,.string (str nm),.slice aa1 ats.length ac1,.string (str tx),.int .i64 up,.slice ka1 ks.length kc1] ∧ zh5 w' b7 #[.int .i64 kd2,.string (str nm2),.slice aa2 ats2.length ac2,.string (str tx2),.int .i64 up2,.slice ka2 ks2.length kc2] ∧ Below X.heap.size X w')
    case first =>
     obtain ⟨S,hS1⟩ : ∃ S : World → Prop,∀ W,S W ↔ Below X.heap.size X W:=⟨_,fun _=>Iff.rfl⟩
     refine wp_region_held_drew (S:=S) (by kernel_rfl) ((hS1 _).2 ((Below.refl _ _).drew)) (fun hS=>?_)
     generalize World.drew X = wd at hS ⊢
     refine zdG 0 22 (.pointer (some ⟨bw,0,none⟩)) rfl rfl (by kernel_rfl) (by kernel_rfl) (by kernel_rfl) (fun _ _ _ h=>h) (Or.inl ⟨by kernel_rfl,fun W _=>by go_simp⟩) hS ?_
     simp only [Act.put,List.setIfInBounds_toArray,List.set_cons_zero,List.set_cons_succ]
     refine zdG 1 23 (.slice (some ⟨b1,o1,none⟩) ns.length c1) rfl rfl (by kernel_rfl) (by kernel_rfl) (by kernel_rfl) (fun _ _ _ h=>h) (Or.inl ⟨by kernel_rfl,fun W hW=>by have hc:=((((hS1 W).1 hW).cell (p:=⟨bw,0,none⟩) hbX).trans x1);go_simp⟩) hS ?_
     simp only [Act.put,List.setIfInBounds_toArray,List.set_cons_zero,List.set_cons_succ]
     refine zdG 2 24 (.int .i64 (k : Int)) rfl rfl (by kernel_rfl) (by kernel_rfl) (by kernel_rfl) (fun _ _ _ h=>h) (Or.inl ⟨by kernel_rfl,fun W _=>by go_simp⟩) hS ?_
     simp only [Act.put,List.setIfInBounds_toArray,List.set_cons_zero,List.set_cons_succ]
     refine zdG 3 25 (.pointer (some ⟨b1,o1 + k * 6,none⟩)) rfl rfl (by kernel_rfl) (by kernel_rfl) (by kernel_rfl) (fun _ _ _ h=>h) (Or.inl ⟨by kernel_rfl,fun W _=>by go_simp⟩) hS ?_
     simp only [Act.put,List.setIfInBounds_toArray,List.set_cons_zero,List.set_cons_succ]
     refine zdG 4 26 (.agg #[.int .i64 kd,.string (str nm),.slice aa1 ats.length ac1,.string (str tx),.int .i64 up,.slice ka1 ks.length kc1]) rfl rfl (by kernel_rfl) (by kernel_rfl) (by kernel_rfl) (fun _ _ _ h=>h) (yieldsIf_load_mid (by kernel_rfl) 43 (.tmp 25) rfl b1 (o1 + k * 6) rfl #[.int .i64 kd,.string (str nm),.slice aa1 ats.length ac1,.string (str tx),.int .i64 up,.slice ka1 ks.length kc1].toList _ (fun W hW=>(HR1.out.below ((hS1 W).1 hW)).rng) Tryz.underlying43 rfl zlR) hS ?_
     simp only [Act.put,List.setIfInBounds_toArray,List.set_cons_zero,List.set_cons_succ]
     refine zdG 5 27 (.pointer (some ⟨bw + 1,0,none⟩)) rfl rfl (by kernel_rfl) (by kernel_rfl) (by kernel_rfl) (fun _ _ _ h=>h) (Or.inl ⟨by kernel_rfl,fun W _=>by go_simp⟩) hS ?_
     simp only [Act.put,List.setIfInBounds_toArray,List.set_cons_zero,List.set_cons_succ]
     refine zdG 6 28 (.slice (some ⟨b2,o2,none⟩) ms.length c2) rfl rfl (by kernel_rfl) (by kernel_rfl) (by kernel_rfl) (fun _ _ _ h=>h) (Or.inl ⟨by kernel_rfl,fun W hW=>by have hc:=((((hS1 W).1 hW).cell (p:=⟨bw + 1,0,none⟩) hbX2).trans x2);go_simp⟩) hS ?_
     simp only [Act.put,List.setIfInBounds_toArray,List.set_cons_zero,List.set_cons_succ]
     refine zdG 7 29 (.int .i64 (k : Int)) rfl rfl (by kernel_rfl) (by kernel_rfl) (by kernel_rfl) (fun _ _ _ h=>h) (Or.inl ⟨by kernel_rfl,fun W _=>by go_simp⟩) hS ?_
     simp only [Act.put,List.setIfInBounds_toArray,List.set_cons_zero,List.set_cons_succ]
     refine zdG 8 30 (.pointer (some ⟨b2,o2 + k * 6,none⟩)) rfl rfl (by kernel_rfl) (by kernel_rfl) (by kernel_rfl) (fun _ _ _ h=>h) (Or.inl ⟨by kernel_rfl,fun W _=>by go_simp⟩) hS ?_
     simp only [Act.put,List.setIfInBounds_toArray,List.set_cons_zero,List.set_cons_succ]
     refine zdG 9 31 (.agg #[.int .i64 kd2,.string (str nm2),.slice aa2 ats2.length ac2,.string (str tx2),.int .i64 up2,.slice ka2 ks2.length kc2]) rfl rfl (by kernel_rfl) (by kernel_rfl) (by kernel_rfl) (fun _ _ _ h=>h) (yieldsIf_load_mid (by kernel_rfl) 43 (.tmp 30) rfl b2 (o2 + k * 6) rfl #[.int .i64 kd2,.string (str nm2),.slice aa2 ats2.length ac2,.string (str tx2),.int .i64 up2,.slice ka2 ks2.length kc2].toList _ (fun W hW=>(HR2.out.below ((hS1 W).1 hW)).rng) Tryz.underlying43 rfl zlR) hS ?_
     simp only [Act.put,List.setIfInBounds_toArray,List.set_cons_zero,List.set_cons_succ]
     refine wpAnyH_ready (rs:=[10,11]) (by kernel_rfl) (by simp) ?_
     refine AllReadyH.cons rfl (fun K hK=>?_) (AllReadyH.cons rfl (fun K hK=>?_) AllReadyH.nil)
     ·go_simp
      have hb6 : zh5 (wd.alloc (.cells zeroCellsN 43)) wd.heap.size zeroCellsN:=zaf _ _
      have hY : Below wd.heap.size wd (wd.alloc (.cells zeroCellsN 43)):=(Below.refl _ _).alloc (Nat.le_refl _) _
      have gb6 : X.heap.size ≤ wd.heap.size:=((hS1 _).1 hS).size
      skip
      refine hK.out _ _ ((hS1 _).2 (bel ((hS1 _).1 hS) hY)) (fun hS=>?_)
      clear hK K hY
      generalize wd.alloc (.cells zeroCellsN 43) = v1 at *
      generalize wd.heap.size = b6 at *
      refine wpAnyH_ready (rs:=[11]) (by kernel_rfl) (by simp) ?_
      refine AllReadyH.cons rfl (fun K hK=>?_) AllReadyH.nil
      go_simp
      have hb7 : zh5 (v1.alloc (.cells zeroCellsN 43)) v1.heap.size zeroCellsN:=zaf _ _
      have hY : Below v1.heap.size v1 (v1.alloc (.cells zeroCellsN 43)):=(Below.refl _ _).alloc (Nat.le_refl _) _
      have gb7 : X.heap.size ≤ v1.heap.size:=((hS1 _).1 hS).size
      have d67 : b6 < v1.heap.size:=hb6.lt
      replace hb6:=hb6.below hY
      refine hK.out _ _ ((hS1 _).2 (bel ((hS1 _).1 hS) hY)) (fun hS=>?_)
      clear hK K hY
      generalize v1.alloc (.cells zeroCellsN 43) = v2 at *
      generalize v1.heap.size = b7 at *
      refine zce 12 (by kernel_rfl) rfl rfl (Operand.tmp 6) (Operand.tmp 26) rfl rfl b6 _ rfl kd up (str nm) (str tx) aa1 ka1 ats.length ac1 ks.length kc1 (by kernel_rfl) (by kernel_rfl) hb6 ((hS1 _).2 (((hS1 _).1 hS).trans ((zah _ _ _).below _ gb6 ((hS1 _).1 hS).size))) (fun hS=>?_)
      replace hb7:=zh5.other (ds:=#[.int .i64 kd,.string (str nm),.slice aa1 ats.length ac1,.string (str tx),.int .i64 up,.slice ka1 ks.length kc1]) hb7 (show b7 ≠ b6 by omega)
      replace hb6:=zh5.set (ds:=#[.int .i64 kd,.string (str nm),.slice aa1 ats.length ac1,.string (str tx),.int .i64 up,.slice ka1 ks.length kc1]) hb6
      refine zce 13 (by kernel_rfl) rfl rfl (Operand.tmp 7) (Operand.tmp 31) rfl rfl b7 _ rfl kd2 up2 (str nm2) (str tx2) aa2 ka2 ats2.length ac2 ks2.length kc2 (by kernel_rfl) (by kernel_rfl) hb7 ((hS1 _).2 (((hS1 _).1 hS).trans ((zah _ _ _).below _ gb7 ((hS1 _).1 hS).size))) (fun hS=>?_)
      replace hb6:=zh5.other (ds:=#[.int .i64 kd2,.string (str nm2),.slice aa2 ats2.length ac2,.string (str tx2),.int .i64 up2,.slice ka2 ks2.length kc2]) hb6 (show b6 ≠ b7 by omega)
      replace hb7:=zh5.set (ds:=#[.int .i64 kd2,.string (str nm2),.slice aa2 ats2.length ac2,.string (str tx2),.int .i64 up2,.slice ka2 ks2.length kc2]) hb7
      refine wpAnyH_done (by kernel_rfl) ?_ _
      go_wp2
      go_meet
      case rel=>exact ⟨b6,b7,rfl,rfl,hb6,hb7,(hS1 _).1 hS⟩
     ·go_simp
      have hb7 : zh5 (wd.alloc (.cells zeroCellsN 43)) wd.heap.size zeroCellsN:=zaf _ _
      have hY : Below wd.heap.size wd (wd.alloc (.cells zeroCellsN 43)):=(Below.refl _ _).alloc (Nat.le_refl _) _
      have gb7 : X.heap.size ≤ wd.heap.size:=((hS1 _).1 hS).size
      skip
      refine hK.out _ _ ((hS1 _).2 (bel ((hS1 _).1 hS) hY)) (fun hS=>?_)
      clear hK K hY
      generalize wd.alloc (.cells zeroCellsN 43) = v1 at *
      generalize wd.heap.size = b7 at *
      refine wpAnyH_ready (rs:=[10]) (by kernel_rfl) (by simp) ?_
      refine AllReadyH.cons rfl (fun K hK=>?_) AllReadyH.nil
      go_simp
      have hb6 : zh5 (v1.alloc (.cells zeroCellsN 43)) v1.heap.size zeroCellsN:=zaf _ _
      have hY : Below v1.heap.size v1 (v1.alloc (.cells zeroCellsN 43)):=(Below.refl _ _).alloc (Nat.le_refl _) _
      have gb6 : X.heap.size ≤ v1.heap.size:=((hS1 _).1 hS).size
      have d67 : b7 < v1.heap.size:=hb7.lt
      replace hb7:=hb7.below hY
      refine hK.out _ _ ((hS1 _).2 (bel ((hS1 _).1 hS) hY)) (fun hS=>?_)
      clear hK K hY
      generalize v1.alloc (.cells zeroCellsN 43) = v2 at *
      generalize v1.heap.size = b6 at *
      refine zce 12 (by kernel_rfl) rfl rfl (Operand.tmp 6) (Operand.tmp 26) rfl rfl b6 _ rfl kd up (str nm) (str tx) aa1 ka1 ats.length ac1 ks.length kc1 (by kernel_rfl) (by kernel_rfl) hb6 ((hS1 _).2 (((hS1 _).1 hS).trans ((zah _ _ _).below _ gb6 ((hS1 _).1 hS).size))) (fun hS=>?_)
      replace hb7:=zh5.other (ds:=#[.int .i64 kd,.string (str nm),.slice aa1 ats.length ac1,.string (str tx),.int .i64 up,.slice ka1 ks.length kc1]) hb7 (show b7 ≠ b6 by omega)
      replace hb6:=zh5.set (ds:=#[.int .i64 kd,.string (str nm),.slice aa1 ats.length ac1,.string (str tx),.int .i64 up,.slice ka1 ks.length kc1]) hb6
      refine zce 13 (by kernel_rfl) rfl rfl (Operand.tmp 7) (Operand.tmp 31) rfl rfl b7 _ rfl kd2 up2 (str nm2) (str tx2) aa2 ka2 ats2.length ac2 ks2.length kc2 (by kernel_rfl) (by kernel_rfl) hb7 ((hS1 _).2 (((hS1 _).1 hS).trans ((zah _ _ _).below _ gb7 ((hS1 _).1 hS).size))) (fun hS=>?_)
      replace hb6:=zh5.other (ds:=#[.int .i64 kd2,.string (str nm2),.slice aa2 ats2.length ac2,.string (str tx2),.int .i64 up2,.slice ka2 ks2.length kc2]) hb6 (show b6 ≠ b7 by omega)
      replace hb7:=zh5.set (ds:=#[.int .i64 kd2,.string (str nm2),.slice aa2 ats2.length ac2,.string (str tx2),.int .i64 up2,.slice ka2 ks2.length kc2]) hb7
      refine wpAnyH_done (by kernel_rfl) ?_ _
      go_wp2
      go_meet
      case rel=>exact ⟨b6,b7,rfl,rfl,hb6,hb7,(hS1 _).1 hS⟩
    case rest =>
     obtain ⟨b6,b7,rfl,rfl,hN6,hN7,hbZ⟩:=hcut
     rename World=>Z
     have HBZ:=zaa (HB.out.trans (hbZ.mono HB.out.size))
     have e0:=Lib.cell_of_heap hN6 0
     have e1:=Lib.cell_of_heap hN6 1
     have e2:=Lib.cell_of_heap hN6 2
     have e3:=Lib.cell_of_heap hN6 3
     have e4:=Lib.cell_of_heap hN6 4
     have e5:=Lib.cell_of_heap hN6 5
     have u0:=Lib.cell_of_heap hN7 0
     have u1:=Lib.cell_of_heap hN7 1
     have u2:=Lib.cell_of_heap hN7 2
     have u3:=Lib.cell_of_heap hN7 3
     have u4:=Lib.cell_of_heap hN7 4
     have u5:=Lib.cell_of_heap hN7 5
     have HI:=zaa (zhJ _ _ ks ks2 Z (HR1.out.below hbZ).kds (HR2.out.below hbZ).kds hA3)
     have HT:=zaa (fun q=>zl6 0 0 [] [] ats ats2 false false [] [] _ _ (Z.drewN q) (((HR1.out.below hbZ).ats).below (zav ⟨q,rfl⟩)) (((HR2.out.below hbZ).ats).below (zav ⟨q,rfl⟩)) hA1 hA2)
     have HTV : Hid (zjS 0 0 [] [] ats ats2 false false [] [] = decide (ats = ats2)):=by
      show _ = _
      simp [zjS]
     rw [HTV.out] at HT
     have qn:=zck nm nm2
     have qx:=zck tx tx2
     clear hN6 hN7 hbZ x1 x2 hbX hbX2 hc1 hc2 HR1 HR2 HTV hz
     cases hk9 : (kd == kd2)
     ·rw [hk9] at HS
      have nk:=zed hk9
      have HF:=zaa (HNo.out HS.out)
      clear hk9
      go_wp2
      go_ret
      exact ⟨zac HF.out.symm,bel HB0.out HBZ.out⟩
     rw [hk9] at HS
     have nk:=zdk hk9
     cases hn9 : (nm == nm2)
     ·rw [hn9] at HS qn
      have HF:=zaa (HNo.out HS.out)
      clear hn9
      go_wp2
      go_ret
      exact ⟨zac HF.out.symm,bel HB0.out HBZ.out⟩
     rw [hn9] at HS qn
     clear hn9
     cases hx9 : (tx == tx2)
     ·rw [hx9] at HS qx
      have HF:=zaa (HNo.out (by rw [HS.out];simp))
      clear hx9
      go_wp2
      go_ret
      exact ⟨zac HF.out.symm,bel HB0.out HBZ.out⟩
     rw [hx9] at HS qx
     clear hx9
     cases hu9 : (up == up2)
     ·rw [hu9] at HS
      have nu:=zed hu9
      have HF:=zaa (HNo.out (by rw [HS.out];simp))
      clear hu9
      go_wp2
      go_ret
      exact ⟨zac HF.out.symm,bel HB0.out HBZ.out⟩
     rw [hu9] at HS
     have nu:=zdk hu9
     cases hd9 : (decide (ks = ks2))
     ·rw [hd9] at HS HI
      have HF:=zaa (HNo.out (by rw [HS.out];simp))
      clear hd9
      go_wp2_with (go_at_call 29;refine HI.out.mono ?_;rintro e w1 ⟨rfl,hq1⟩;have hB1:=zaa (zav hq1);obtain ⟨m1,rfl⟩:=hq1)
      go_ret
      exact ⟨zac HF.out.symm,bel (bel HB0.out HBZ.out) hB1.out⟩
     rw [hd9] at HS HI
     clear hd9
     cases ha9 : (decide (ats = ats2))
     ·rw [ha9] at HS HT
      have HF:=zaa (HNo.out (by rw [HS.out];simp))
      clear ha9
      go_wp2_with (first
       | (go_at_call 29;refine HI.out.mono ?_;rintro e w1 ⟨rfl,hq1⟩;have hB1:=zaa (zav hq1);obtain ⟨m1,rfl⟩:=hq1)
       | (go_at_call 30;refine (HT.out m1).mono ?_;rintro e w2 ⟨rfl,hq2⟩))
      go_ret
      exact ⟨zac HF.out.symm,bel (bel (bel HB0.out HBZ.out) hB1.out) hq2⟩
     rw [ha9] at HS HT
     clear ha9
     have HEn:=zaa (fun j hj=>HX.out j hj (by rw [HS.out];rfl))
     clear HNo HS HX
     go_wp2_with (first
      | (go_at_call 29;refine HI.out.mono ?_;rintro e w1 ⟨rfl,hq1⟩;have hB1:=zaa (zav hq1);obtain ⟨m1,rfl⟩:=hq1)
      | (go_at_call 30;refine (HT.out m1).mono ?_;rintro e w2 ⟨rfl,hq2⟩;have HB9:=zaa (bel (bel HBZ.out hB1.out) hq2);clear hq2))
     go_roundw
     case rel=>exact ⟨k + 1,by go_num,HKL.out,HEn,HB9⟩
     case measure=>have:=HKL.out;simp [intOf];omega
   ·have hke : k = ns.length:=by omega
    have HF:=zaa (Tre.sameL_all HL.out (fun j hj=>HE.out j (by omega)))
    have HBX:=zaa (bel HB0.out HB.out)
    go_wp2
    go_ret
    exact ⟨zac HF.out.symm,HBX.out⟩
 ·have hq : ((ns.length : Int) != (ms.length : Int)) = true:=by simp;omega
  have HX : Hid (Tre.ze8 ns ms = false):=Tre.sameL_len hlen
  clear ha hlen
  go_enter Tryz.func13,Tryz.ntmps13
  go_wp2
  go_ret
  exact ⟨zac HX.out.symm,HB0.out⟩
end Go.Proofs.YtiodaahncadodaaGreatDoor
namespace Go.Proofs.YtiodaahncadodaaGreatDoor
open Go.RowKit
section
variable {w : World} {B bb : Nat} {nv ov : Value} {ps : List PN} {op : List Nat}
theorem zmk {M : Nat} (h : QAt w B bb nv ov ps op) (hOk : Tre.Ok ⟨ps.map (·.1),op⟩ M) (kk : Int) (l : List UInt8) (ats : List Pr) (sf : Bool) (x : List UInt8) (aa : Option Addr) (ac : Nat) (hv : ∀ W,Below B w W → zar W (.slice aa ats.length ac) ats) (hats : ats.length ≤ 64) :
  Calls Tryz.prog 26 #[.pointer (some ⟨bb,0,none⟩),zsd kk l (.slice aa ats.length ac) sf x] w (zgD B bb w (Tre.ziI ⟨ps.map (·.1),op⟩ l ats)):=by
 cases hf : Tre.zra (ps.map (·.1)) l with
 | none=>exact zl9 h hOk kk l ats sf x aa ac hv hats hf
 | some i=>exact zma h hOk kk l ats sf x aa ac hv hats i hf
end
theorem zds (n : List UInt8) : Tre.endW n = if n = Tre.table ∨ n = Tre.zsh ∨ n = Tre.body then [] else [Tre.table]:=by
 unfold Tre.endW
 by_cases h1 : n = Tre.table
 ·rw [if_pos h1,if_pos (.inl h1)]
 by_cases h2 : n = Tre.zsh
 ·rw [if_neg h1,if_pos h2,if_pos (.inr (.inl h2))]
 by_cases h3 : n = Tre.body
 ·rw [if_neg h1,if_neg h2,if_pos h3,if_pos (.inr (.inr h3))]
 ·rw [if_neg h1,if_neg h2,if_neg h3,if_neg (by rintro (h | h | h) <;> contradiction)]
def zo9 (w3 : World) (B bb : Nat) (ks : List Tk.Tok) (j : Nat) (er : Nat) (wr : World) : Prop :=
 (er = 0 ∧ ∃ nv ov ps op,QAt wr B bb nv ov ps op ∧ Tre.Ok ⟨ps.map (·.1),op⟩ (j * 1000000) ∧ Tre.zoa ks Tre.start0 = Tre.zoa (ks.drop j) ⟨ps.map (·.1),op⟩ ∧ Below B w3 wr) ∨
  ((er = 5 ∨ er = 8) ∧ Tre.zoa ks Tre.start0 = .error er ∧ Below B w3 wr)
theorem QAt.new (w : World) : QAt (((w.alloc (.cells #[.int .i64 1,.string ⟨#[]⟩,.slice none 0 0,.string ⟨#[]⟩,.int .i64 (-1),.slice none 0 0] 43)).alloc (.cells #[.int .i64 0] 3)).alloc (.cells #[.slice (some ⟨w.heap.size,0,none⟩) 1 1,.slice (some ⟨w.heap.size + 1,0,none⟩) 1 1] 59)) w.heap.size (w.heap.size + 1 + 1) (.slice (some ⟨w.heap.size,0,none⟩) 1 1) (.slice (some ⟨w.heap.size + 1,0,none⟩) 1 1) [(Tre.root,.slice none 0 0,.slice none 0 0)] [0]:=by
 generalize h1 : w.alloc (.cells #[.int .i64 1,.string ⟨#[]⟩,.slice none 0 0,.string ⟨#[]⟩,.int .i64 (-1),.slice none 0 0] 43) = w1
 have n1 : w1.heap[w.heap.size]? = some (.cells #[.int .i64 1,.string ⟨#[]⟩,.slice none 0 0,.string ⟨#[]⟩,.int .i64 (-1),.slice none 0 0] 43 (0,0)):=by rw [← h1];exact zaf w _
 have s1 : w1.heap.size = w.heap.size + 1:=by rw [← h1];simp
 generalize h2 : w1.alloc (.cells #[.int .i64 0] 3) = w2
 have b2 : Below w1.heap.size w1 w2:=by rw [← h2];exact (Below.refl _ _).alloc (Nat.le_refl _) _
 have n2 : w2.heap[w.heap.size + 1]? = some (.cells #[.int .i64 0] 3 (0,0)):=by rw [← h2,← s1];exact zaf w1 _
 have s2 : w2.heap.size = w.heap.size + 1 + 1:=by rw [← h2];simp [s1]
 generalize h3 : w2.alloc (.cells #[.slice (some ⟨w.heap.size,0,none⟩) 1 1,.slice (some ⟨w.heap.size + 1,0,none⟩) 1 1] 59) = w3
 have b3 : Below w2.heap.size w2 w3:=by rw [← h3];exact (Below.refl _ _).alloc (Nat.le_refl _) _
 have n3 : w3.heap[w.heap.size + 1 + 1]? = some (.cells #[.slice (some ⟨w.heap.size,0,none⟩) 1 1,.slice (some ⟨w.heap.size + 1,0,none⟩) 1 1] 59 (0,0)):=by rw [← h3,← s2];exact zaf w2 _
 have m1:=(b3.block w.heap.size (by omega)).trans ((b2.block w.heap.size (by omega)).trans n1)
 have m2:=(b3.block (w.heap.size + 1) (by omega)).trans n2
 refine ⟨n3,⟨rfl,.inr ⟨w.heap.size,1,_,rfl,Nat.le_refl _,m1,Nat.le_refl _,by unfold maxLen;omega,rfl,rfl⟩⟩,⟨rfl,.inr ⟨w.heap.size + 1,1,_,rfl,by omega,m2,Nat.le_refl _,by unfold maxLen;omega,rfl,rfl⟩⟩,?_,?_,?_,?_,?_,by omega⟩
 ·intro i p hp
  cases i with
  | zero=>cases hp;exact zbd.nil _ _ _
  | succ i=>simp at hp
 ·intro i p hp
  cases i with
  | zero=>cases hp;exact za6.nil _ _
  | succ i=>simp at hp
 ·intro v hv k e1 e2
  have e2' : k = w.heap.size:=by injection e2 with e2;exact e2.symm
  simp [ze5,zbq] at hv
  rcases hv with rfl | rfl
  ·have : k = w.heap.size + 1:=by injection e1 with e1;exact e1.symm
   omega
  ·cases e1
 ·intro v hv e1
  simp [ze5,zbq] at hv
  rcases hv with rfl | rfl
  ·injection e1 with e1
   simp at e1
  ·cases e1
 ·intro e
  have e' : w.heap.size = w.heap.size + 1 + 1:=Option.some.inj e
  omega
theorem sizeRq : (Tryz.prog.info? 48).map (·.size) = some 5:=by kernel_rfl
theorem zdH {ops : Array Oper} {rest : List Oper} {op : Oper} {a : Act} {w : World} {Q : Exit → Act → World → Prop} (hw : Region.wanted op (yielded ops a.tmps) = true) (x : Operand) (ho : op.op = .load 48 x)
  (b o : Nat) (hx : a.eval x = .pointer (some ⟨b,o,none⟩)) (x0 x1 x2 x3 x4 : Value) (hc : w.rangeAt b o [x0,x1,x2,x3,x4])
  (h : wpList Tryz.prog ops Q rest (a.put op.dst (.agg #[x0,x1,x2,x3,x4])) w) : wpList Tryz.prog ops Q (op :: rest) a w :=
 wpList_step fun _ hK=>by
  rw [if_pos hw]
  exact wp_load_mid _ x ho b o hx [x0,x1,x2,x3,x4] _ hc Tryz.underlying48 rfl sizeRq (hK _ _ h)
theorem zml (s : List UInt8) (w : World) :
  Calls Tryz.prog 12 #[.string (str s)] w (zi2 w (zaY s)):=by
 have hb0 : Below w.heap.size w (w.alloc (.cells #[.slice none 0 0] 26)):=(Below.refl _ w).alloc (Nat.le_refl _) _
 have hd0:=zaf w (.cells #[.slice none 0 0] 26)
 have hs0 : (w.alloc (.cells #[.slice none 0 0] 26)).heap.size = w.heap.size + 1:=by simp
 have hA:=zqG s (w.alloc (.cells #[.slice none 0 0] 26))
 have hfit:=zga s
 by_cases hq : (zb5 s).2 = 0
 ·have HX : Hid (zaY s = match Tre.zob (zb5 s).1 with | .error e=>([],e) | .ok ns=>(ns,0)):=if_pos hq
  generalize hW0 : (w.alloc (.cells #[.slice none 0 0] 26)) = W0 at *
  generalize zb5 s = x at *
  obtain ⟨ks,q⟩:=x
  simp only at hq HX hfit
  subst hq
  have HW0:=zaa hW0
  clear hW0
  go_enter Tryz.func12,Tryz.ntmps12
  go_upto_region 1 with fail
  rw [HW0.out]
  go_upto_region 4 with (go_at_call 22;refine hA.mono ?_;rintro e w1 ⟨ad,ln,cp,rfl,hK,hb1⟩;obtain ⟨a1,c1,e1⟩:=hK.form;cases e1;clear hA)
  have hs1:=hb1.size
  have hd1:=(hb1.block w.heap.size (by omega)).trans hd0
  have hB3:=QAt.new w1
  have hb3 : Below w1.heap.size w1 (((w1.alloc (.cells #[.int .i64 1,.string ⟨#[]⟩,.slice none 0 0,.string ⟨#[]⟩,.int .i64 (-1),.slice none 0 0] 43)).alloc (.cells #[.int .i64 0] 3)).alloc (.cells #[.slice (some ⟨w1.heap.size,0,none⟩) 1 1,.slice (some ⟨w1.heap.size + 1,0,none⟩) 1 1] 59)):=(((Below.refl _ w1).alloc (Nat.le_refl _) _).alloc (by simp) _).alloc (by simp;omega) _
  go_upto_region 5 with fail
  obtain ⟨w3,hw3⟩ : ∃ W,(((w1.alloc (.cells #[.int .i64 1,.string ⟨#[]⟩,.slice none 0 0,.string ⟨#[]⟩,.int .i64 (-1),.slice none 0 0] 43)).alloc (.cells #[.int .i64 0] 3)).alloc (.cells #[.slice (some ⟨w1.heap.size,0,none⟩) 1 1,.slice (some ⟨w1.heap.size + 1,0,none⟩) 1 1] 59)) = W:=⟨_,rfl⟩
  rw [hw3] at hB3 hb3
  rw [hw3]
  obtain ⟨B,hBe⟩ : ∃ B,w1.heap.size = B:=⟨_,rfl⟩
  rw [hBe] at hB3 hb3
  rw [hBe]
  have hdB : w.heap.size < B:=by omega
  have HQ0 : Hid (zo9 w3 B (B + 1 + 1) ks 0 0 w3):=.inl ⟨rfl,_,_,_,_,hB3,Tre.ok_start,rfl,Below.refl _ _⟩
  have HKS:=zaa hK
  have HB13:=zaa hb3
  have HBE:=zaa hBe
  have HB1:=zaa (hb0.trans (hb1.mono hb0.size))
  have HD3:=zaa ((hb3.block w.heap.size hdB).trans hd1)
  have HFIT:=zaa hfit
  clear hb1 hb3 hK hd1 hfit hb0 hB3 hw3 hBe hd0
  obtain ⟨bb,hbb⟩ : ∃ bb,B + 1 + 1 = bb:=⟨_,rfl⟩
  rw [hbb] at HQ0 ⊢
  clear hbb
  go_wp2
  go_loopw [7,5] (fun i er wr=>∃ j e : Nat,i = .int .i64 j ∧ er = .int .i64 e ∧ j ≤ ks.length ∧ Hid (zo9 w3 B bb ks j e wr)) (fun i _ _=>ks.length - (intOf i).toNat)
  case atStart=>exact ⟨0,0,rfl,rfl,Nat.zero_le _,HQ0⟩
  case round =>
   obtain ⟨j,er,rfl,rfl,hj,HI⟩:=hrel
   rename World=>X
   clear HQ0
   have hk16 : ks.length ≤ 16384:=HFIT.out.1
   rcases HI.out with ⟨rfl,nv,ov,ps,op,hQ,hOk,hbd,hBX⟩ | ⟨her,hbe,hBX⟩
   ·by_cases hjl : j < ks.length
    ·obtain ⟨t,ht⟩ : ∃ t,ks[j]? = some t:=⟨_,List.getElem?_eq_getElem hjl⟩
     have hb1X : Below B w1 X:=HB13.out.trans hBX
     have hKX:=HKS.out.below (by rw [HBE.out];exact hb1X)
     obtain ⟨g,u,rfl,hgB,hgl,hcl,k0,k1,k2,k3,k4,ho2⟩:=hKX.at ht
     obtain ⟨g2,u2,e2,_,hg2l,_,_,_,k22,_,_,ho1⟩:=HKS.out.at ht
     have hg2 : g2 = g:=by injection e2 with e2;injection e2 with e2;exact e2.symm
     subst hg2
     have hu : u2 = u:=by
      have h9 : X.cell? ⟨g2,j * 5 + 2,none⟩ = some u2:=(hb1X.cell (p:=⟨g2,j * 5 + 2,none⟩) (by rw [← HBE.out];exact hg2l)).trans k22
      rw [k2] at h9
      exact (Option.some.inj h9).symm
     subst hu
     obtain ⟨ua,uc,eu⟩:=ho2.reads.form
     subst eu
     have hf : t.name.length ≤ 1000000 ∧ t.attrs.length ≤ 64 ∧ t.text.length ≤ 1000000:=HFIT.out.2 t (List.mem_of_getElem? ht)
     have hrng : X.rangeAt g2 (j * 5) [.int .i64 t.kind,.string (str t.name),.slice ua t.attrs.length uc,.bool t.self,.string (str t.text)]:=by
      intro i v hi
      rcases i with _ | _ | _ | _ | _ | i
      ·cases hi;exact k0
      ·cases hi;exact k1
      ·cases hi;exact k2
      ·cases hi;exact k3
      ·cases hi;exact k4
      ·simp at hi
     have HRNG:=zaa hrng
     have HBX:=zaa hBX
     have HBs : Hid (B ≤ X.heap.size):=Nat.le_trans hQ.bB (Nat.le_of_lt hQ.lt)
     have hatt : ∀ W,Below B X W → zar W (.slice ua t.attrs.length uc) t.attrs:=fun W hW=>(zbd.below ho1 (by rw [HBE.out];exact hb1X.trans hW)).reads
     have hkd : ks.drop j = t :: ks.drop (j + 1):=by
      rw [List.drop_eq_getElem_cons hjl]
      congr 1
      rw [List.getElem?_eq_getElem hjl] at ht
      exact Option.some.inj ht
     have HErr : Hid (∀ e0,Tre.step ⟨ps.map (·.1),op⟩ t = .error e0 → Tre.zoa ks Tre.start0 = .error e0):=fun e0 h=>by rw [hbd,hkd,Tre.zoa,h]
     have HOk2 : Hid (∀ b2,Tre.step ⟨ps.map (·.1),op⟩ t = .ok b2 → ∀ w5,zoV B bb X b2 w5 → zo9 w3 B bb ks (j + 1) 0 w5):=fun b2 h w5 hp=>by
      obtain ⟨nv',ov',ps',h1,h2,h3⟩:=hp
      obtain ⟨ns2,op2⟩:=b2
      simp only at h1 h2
      subst h2
      exact .inl ⟨rfl,nv',ov',ps',op2,h1,(Tre.ok_step t hf.2.1 hOk h).more (by omega),by rw [hbd,hkd,Tre.zoa,h],HBX.out.trans h3⟩
     have HJ : Hid (j + 1 ≤ ks.length):=hjl
     have ho:=hOk.op1
     have hin:=hOk.opin
     simp only [List.length_map] at ho hin
     have hM : j * 1000000 ≤ 100000000000:=by omega
     have hN : t.name.length ≤ 1000000:=hf.1
     clear ho1 ho2 hKX hb1X k2 k22 k3 e2 hrng hbd HI
     by_cases hk1 : t.kind = 1
     ·have qk : ((t.kind : Int) == 1) = true:=by simp [hk1]
      have hstep : Tre.step ⟨ps.map (·.1),op⟩ t = Tre.ziI ⟨ps.map (·.1),op⟩ t.name t.attrs:=by unfold Tre.step;rw [if_pos hk1]
      have HC:=zaa (zmk hQ hOk (t.kind : Int) t.name t.attrs t.self t.text ua uc hatt hf.2.1)
      clear hk1 hatt hin ho hQ hOk
      cases hst : Tre.ziI ⟨ps.map (·.1),op⟩ t.name t.attrs with
      | error e0 =>
       rw [hst] at HC
       have he0:=zfm (b:=⟨ps.map (·.1),op⟩) (k:=t) (e:=e0) (by rw [hstep];exact hst)
       have HE:=zaa (HErr.out e0 (by rw [hstep];exact hst))
       clear hst hstep HOk2
       go_wp2_with (first
        | ((with_reducible show wpList _ _ _ ({ op:=Op.load 48 _,.. } :: _) _ _);refine zdH (by rfl) _ rfl g2 (j * 5) rfl _ _ _ _ _ HRNG.out ?_)
        | (go_at_call 26;refine HC.out.mono ?_;rintro e w5 ⟨rfl,hb5⟩;have HQ : Hid (zo9 w3 B bb ks (j + 1) e0 w5):=.inr ⟨he0,HE.out,HBX.out.trans hb5⟩;clear hb5))
       go_roundw
       case rel=>exact ⟨j + 1,e0,by go_num,by go_num,HJ.out,HQ⟩
       case measure=>have:=HJ.out;simp [intOf];omega
      | ok b2 =>
       rw [hst] at HC
       have HO:=zaa (HOk2.out b2 (by rw [hstep];exact hst))
       clear hst hstep HErr HOk2
       go_wp2_with (first
        | ((with_reducible show wpList _ _ _ ({ op:=Op.load 48 _,.. } :: _) _ _);refine zdH (by rfl) _ rfl g2 (j * 5) rfl _ _ _ _ _ HRNG.out ?_)
        | (go_at_call 26;refine HC.out.mono ?_;rintro e w5 ⟨rfl,hp5⟩;have HQ : Hid (zo9 w3 B bb ks (j + 1) 0 w5):=HO.out w5 hp5;clear hp5))
       go_roundw
       case rel=>exact ⟨j + 1,0,by go_num,by go_num,HJ.out,HQ⟩
       case measure=>have:=HJ.out;simp [intOf];omega
     ·have qk1 : ((t.kind : Int) == 1) = false:=by simp;omega
      by_cases hk3 : t.kind = 3
      ·have qk : ((t.kind : Int) == 3) = true:=by simp [hk3]
       have hstep : Tre.step ⟨ps.map (·.1),op⟩ t = Tre.zn9 ⟨ps.map (·.1),op⟩ t.text:=by unfold Tre.step;rw [if_neg hk1,if_neg (by omega),if_pos hk3]
       have HC:=zaa (zoY hQ hOk t.text hM (by omega))
       clear hk1 hk3 hatt hin ho hQ hOk
       cases hst : Tre.zn9 ⟨ps.map (·.1),op⟩ t.text with
       | error e0 =>
        rw [hst] at HC
        have he0:=zfm (b:=⟨ps.map (·.1),op⟩) (k:=t) (e:=e0) (by rw [hstep];exact hst)
        have HE:=zaa (HErr.out e0 (by rw [hstep];exact hst))
        clear hst hstep HOk2
        go_wp2_with (first
         | fail
         | (go_at_call 27;refine HC.out.mono ?_;rintro e w5 ⟨rfl,hb5⟩;have HQ : Hid (zo9 w3 B bb ks (j + 1) e0 w5):=.inr ⟨he0,HE.out,HBX.out.trans hb5⟩;clear hb5))
        go_roundw
        case rel=>exact ⟨j + 1,e0,by go_num,by go_num,HJ.out,HQ⟩
        case measure=>have:=HJ.out;simp [intOf];omega
       | ok b2 =>
        rw [hst] at HC
        have HO:=zaa (HOk2.out b2 (by rw [hstep];exact hst))
        clear hst hstep HErr HOk2
        go_wp2_with (first
         | fail
         | (go_at_call 27;refine HC.out.mono ?_;rintro e w5 ⟨rfl,hp5⟩;have HQ : Hid (zo9 w3 B bb ks (j + 1) 0 w5):=HO.out w5 hp5;clear hp5))
        go_roundw
        case rel=>exact ⟨j + 1,0,by go_num,by go_num,HJ.out,HQ⟩
        case measure=>have:=HJ.out;simp [intOf];omega
      ·have qk3 : ((t.kind : Int) == 3) = false:=by simp;omega
       by_cases hk2 : t.kind = 2
       ·have qk : ((t.kind : Int) == 2) = true:=by simp [hk2]
        have hstep : Tre.step ⟨ps.map (·.1),op⟩ t = .ok (Tre.endT ⟨ps.map (·.1),op⟩ t.name):=by unfold Tre.step;rw [if_neg hk1,if_pos hk2]
        clear hk1 hk3 hk2 hatt hOk
        by_cases n1 : t.name = Tre.table
        ·have q1:=zag (l:=t.name) (m:=[116,97,98,108,101]) n1
         have hew : Tre.endW t.name = []:=by rw [zds,if_pos (.inl n1)]
         clear n1
         have hbN : Below X.heap.size X (X.alloc (.cells ([t.name].map zcf).toArray 9)):=(Below.refl _ _).alloc (Nat.le_refl _) _
         have HLN:=zaa (zb6 X [t.name] (by simp))
         have HSh:=zaa (zdg (hQ.below hbN) ho.1 (by omega) hin _ (.slice none 0 0) [t.name] [] HLN.out.reads (.inl ⟨_,_,rfl,rfl⟩) (by simp) (by simp))
         have HO:=zaa (HOk2.out (Tre.zsg ⟨ps.map (·.1),op⟩ [t.name] []) (by rw [hstep];unfold Tre.endT;rw [hew]))
         have HBN:=zaa hbN
         clear hew hstep HErr HOk2 hbN hQ ho hin
         go_wp2_with (go_at_call 28;refine HSh.out.mono ?_;rintro e w5 ⟨rfl,ov5,h5,hB5,_⟩;have HQ : Hid (zo9 w3 B bb ks (j + 1) 0 w5):=HO.out w5 ⟨_,ov5,ps,h5,rfl,(HBN.out.mono HBs.out).trans hB5⟩;clear h5 hB5)
         go_roundw
         case rel=>exact ⟨j + 1,0,by go_num,by go_num,HJ.out,HQ⟩
         case measure=>have:=HJ.out;simp [intOf];omega
        ·have q1:=zai (l:=t.name) (m:=[116,97,98,108,101]) n1
         by_cases n2 : t.name = Tre.zsh
         ·have q2:=zag (l:=t.name) (m:=[104,116,109,108]) n2
          have hew : Tre.endW t.name = []:=by rw [zds,if_pos (.inr (.inl n2))]
          clear n1 n2
          have hbN : Below X.heap.size X (X.alloc (.cells ([t.name].map zcf).toArray 9)):=(Below.refl _ _).alloc (Nat.le_refl _) _
          have HLN:=zaa (zb6 X [t.name] (by simp))
          have HSh:=zaa (zdg (hQ.below hbN) ho.1 (by omega) hin _ (.slice none 0 0) [t.name] [] HLN.out.reads (.inl ⟨_,_,rfl,rfl⟩) (by simp) (by simp))
          have HO:=zaa (HOk2.out (Tre.zsg ⟨ps.map (·.1),op⟩ [t.name] []) (by rw [hstep];unfold Tre.endT;rw [hew]))
          have HBN:=zaa hbN
          clear hew hstep HErr HOk2 hbN hQ ho hin
          go_wp2_with (go_at_call 28;refine HSh.out.mono ?_;rintro e w5 ⟨rfl,ov5,h5,hB5,_⟩;have HQ : Hid (zo9 w3 B bb ks (j + 1) 0 w5):=HO.out w5 ⟨_,ov5,ps,h5,rfl,(HBN.out.mono HBs.out).trans hB5⟩;clear h5 hB5)
          go_roundw
          case rel=>exact ⟨j + 1,0,by go_num,by go_num,HJ.out,HQ⟩
          case measure=>have:=HJ.out;simp [intOf];omega
         ·have q2:=zai (l:=t.name) (m:=[104,116,109,108]) n2
          by_cases n3 : t.name = Tre.body
          ·have q3:=zag (l:=t.name) (m:=[98,111,100,121]) n3
           have hew : Tre.endW t.name = []:=by rw [zds,if_pos (.inr (.inr n3))]
           clear n1 n2 n3
           have hbN : Below X.heap.size X (X.alloc (.cells ([t.name].map zcf).toArray 9)):=(Below.refl _ _).alloc (Nat.le_refl _) _
           have HLN:=zaa (zb6 X [t.name] (by simp))
           have HSh:=zaa (zdg (hQ.below hbN) ho.1 (by omega) hin _ (.slice none 0 0) [t.name] [] HLN.out.reads (.inl ⟨_,_,rfl,rfl⟩) (by simp) (by simp))
           have HO:=zaa (HOk2.out (Tre.zsg ⟨ps.map (·.1),op⟩ [t.name] []) (by rw [hstep];unfold Tre.endT;rw [hew]))
           have HBN:=zaa hbN
           clear hew hstep HErr HOk2 hbN hQ ho hin
           go_wp2_with (go_at_call 28;refine HSh.out.mono ?_;rintro e w5 ⟨rfl,ov5,h5,hB5,_⟩;have HQ : Hid (zo9 w3 B bb ks (j + 1) 0 w5):=HO.out w5 ⟨_,ov5,ps,h5,rfl,(HBN.out.mono HBs.out).trans hB5⟩;clear h5 hB5)
           go_roundw
           case rel=>exact ⟨j + 1,0,by go_num,by go_num,HJ.out,HQ⟩
           case measure=>have:=HJ.out;simp [intOf];omega
          ·have q3:=zai (l:=t.name) (m:=[98,111,100,121]) n3
           have hew : Tre.endW t.name = [Tre.table]:=by rw [zds,if_neg (by rintro (h9 | h9 | h9) <;> contradiction)]
           clear n1 n2 n3
           obtain ⟨Y,hY⟩ : ∃ Y,X.alloc (.cells ([Tre.table].map zcf).toArray 9) = Y:=⟨_,rfl⟩
           have hLW:=zb6 X [Tre.table] (by simp)
           have hbW : Below X.heap.size X (X.alloc (.cells ([Tre.table].map zcf).toArray 9)):=(Below.refl _ _).alloc (Nat.le_refl _) _
           rw [hY] at hLW hbW
           obtain ⟨Z,hZ⟩ : ∃ Z,Y.alloc (.cells ([t.name].map zcf).toArray 9) = Z:=⟨_,rfl⟩
           have hLN:=zb6 Y [t.name] (by simp)
           have hbZ : Below Y.heap.size Y (Y.alloc (.cells ([t.name].map zcf).toArray 9)):=(Below.refl _ _).alloc (Nat.le_refl _) _
           rw [hZ] at hLN hbZ
           have hsY : Y.heap.size = X.heap.size + 1:=by rw [← hY];simp
           rw [hsY] at hLN
           have hbN:=hbW.trans (hbZ.mono hbW.size)
           have hRW:=ReadsTexts13.below hLW.reads hbZ
           have HSh:=zaa (zdg (hQ.below hbN) ho.1 (by omega) hin _ _ [t.name] [Tre.table] hLN.reads hRW (by simp) (by simp))
           have HO:=zaa (HOk2.out (Tre.zsg ⟨ps.map (·.1),op⟩ [t.name] [Tre.table]) (by rw [hstep];unfold Tre.endT;rw [hew]))
           have HBN:=zaa hbN
           clear hew hstep HErr HOk2 hbN hQ ho hin hbW hLW hLN hbZ hRW hsY
           subst hZ
           subst hY
           go_wp2_with (go_at_call 28;refine HSh.out.mono ?_;rintro e w5 ⟨rfl,ov5,h5,hB5,_⟩;have HQ : Hid (zo9 w3 B bb ks (j + 1) 0 w5):=HO.out w5 ⟨_,ov5,ps,h5,rfl,(HBN.out.mono HBs.out).trans hB5⟩;clear h5 hB5)
           go_roundw
           case rel=>exact ⟨j + 1,0,by go_num,by go_num,HJ.out,HQ⟩
           case measure=>have:=HJ.out;simp [intOf];omega
       ·have qk : ((t.kind : Int) == 2) = false:=by simp;omega
        have hstep : Tre.step ⟨ps.map (·.1),op⟩ t = .ok ⟨ps.map (·.1),op⟩:=by unfold Tre.step;rw [if_neg hk1,if_neg hk2,if_neg hk3]
        have HQ:=zaa (HOk2.out _ hstep X ⟨_,_,ps,hQ,rfl,Below.refl _ _⟩)
        clear hk1 hk3 hk2 hatt hOk hQ hin
        go_wp2
        go_roundw
        case rel=>exact ⟨j + 1,0,by go_num,by go_num,HJ.out,HQ⟩
        case measure=>have:=HJ.out;simp [intOf];omega
    ·have hje : j = ks.length:=by omega
     have hpl : 1 ≤ ps.length:=by
      have:=hOk.len
      simp only [List.length_map] at this
      exact this.1
     obtain ⟨gn,cn,rfl,_⟩:=hQ.nform hpl
     have hPR : Hid (zaY s = (ps.map (·.1),0)):=by
      show zaY s = _
      rw [HX.out]
      unfold Tre.zob
      rw [hbd,hje,List.drop_length]
      rfl
     have hB4 : Hid (Below w.heap.size w X):=(HB1.out.trans (HB13.out.mono (Nat.le_of_lt hdB))).trans (hBX.mono (Nat.le_of_lt hdB))
     have hd4:=(hBX.block w.heap.size hdB).trans HD3.out
     have HR : Hid (∀ v,zbA (X.setCell ⟨w.heap.size,0,none⟩ v) (.slice (some ⟨gn,0,none⟩) ps.length cn) (ps.map (·.1))):=fun v=>(hQ.keep (fun k h1 h2=>zaM X w.heap.size 0 v (fun e=>by omega))).reads hpl
     have c0:=Lib.cell_of_heap hQ.blk 0
     have cd4:=Lib.cell_of_heap hd4 0
     have fd4:=Lib.frozen_of_heap hd4 0
     have HJE:=zaa hje
     have hnj : ¬ ((j : Int) < (ks.length : Int)):=by omega
     clear hQ hOk hbd hBX HI hje
     go_wp2
     have hds : (X.setCell ⟨w.heap.size,0,none⟩ (.slice (some ⟨gn,0,none⟩) ps.length cn)).heap[w.heap.size]? = some (.cells #[.slice (some ⟨gn,0,none⟩) ps.length cn] 26 (0,0)):=za4 hd4 _
     refine zdS (b:=w.heap.size) rfl rfl rfl rfl hds ?_
     rw [hPR.out]
     exact ⟨_,rfl,HR.out _,hB4.out.setCell (Nat.le_refl _) _⟩
   ·have hPR : Hid (zaY s = ([],er)):=by
     show zaY s = _
     rw [HX.out]
     unfold Tre.zob
     rw [hbe]
    have q1 : ((er : Int) == 0) = false:=by rcases her with h9 | h9 <;> rw [h9] <;> rfl
    have q2 : ((er : Int) != 0) = true:=by rcases her with h9 | h9 <;> rw [h9] <;> rfl
    have hB4 : Hid (Below w.heap.size w X):=(HB1.out.trans (HB13.out.mono (Nat.le_of_lt hdB))).trans (hBX.mono (Nat.le_of_lt hdB))
    have hd4:=(hBX.block w.heap.size hdB).trans HD3.out
    have cd4:=Lib.cell_of_heap hd4 0
    have fd4:=Lib.frozen_of_heap hd4 0
    clear her hbe hBX HI
    by_cases hjl : j < ks.length
    ·have hji : (j : Int) < (ks.length : Int):=by omega
     clear hjl
     go_wp2
     refine zdS (b:=w.heap.size) rfl rfl rfl rfl (za4 hd4 _) ?_
     rw [hPR.out]
     exact ⟨_,rfl,.inl ⟨none,0,rfl,rfl⟩,hB4.out.setCell (Nat.le_refl _) _⟩
    ·have hji : ¬ (j : Int) < (ks.length : Int):=by omega
     clear hjl
     go_wp2
     refine zdS (b:=w.heap.size) rfl rfl rfl rfl (za4 hd4 _) ?_
     rw [hPR.out]
     exact ⟨_,rfl,.inl ⟨none,0,rfl,rfl⟩,hB4.out.setCell (Nat.le_refl _) _⟩
 ·have HX : Hid (zaY s = ([],(zb5 s).2)):=if_neg hq
  generalize hW0 : (w.alloc (.cells #[.slice none 0 0] 26)) = W0 at *
  generalize zb5 s = x at *
  obtain ⟨ks,q⟩:=x
  simp only at hq HX hfit
  have q1 : ((q : Int) != 0) = true:=by simp;omega
  have HW0:=zaa hW0
  clear hW0
  have HB0:=zaa hb0
  go_enter Tryz.func12,Tryz.ntmps12
  go_upto_region 1 with fail
  rw [HW0.out]
  go_wp2_with (go_at_call 22;refine hA.mono ?_;rintro e w1 ⟨ad,ln,cp,rfl,hK,hb1⟩;have hd4:=(hb1.block w.heap.size (by omega)).trans hd0;have hB4:=zaa (HB0.out.trans (hb1.mono HB0.out.size));have cd4:=Lib.cell_of_heap hd4 0;have fd4:=Lib.frozen_of_heap hd4 0;clear hA hK hb1)
  refine zdS (b:=w.heap.size) rfl rfl rfl rfl (za4 hd4 _) ?_
  rw [HX.out]
  exact ⟨_,rfl,.inl ⟨none,0,rfl,rfl⟩,hB4.out.setCell (Nat.le_refl _) _⟩
end Go.Proofs.YtiodaahncadodaaGreatDoor
