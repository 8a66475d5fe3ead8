/- Texts laid as one. -/
import Derived.Test.YtiodaahncadodaaGreatDoorKTreAE
import Derived.Test.YtiodaahncadodaaGreatDoorKTkQR
import Derived.Test.YtiodaahncadodaaGreatDoorKTreM
set_option maxRecDepth 100000
set_option maxHeartbeats 4000000
set_option linter.unusedVariables false
set_option linter.unusedSimpArgs false
namespace Go.Proofs.YtiodaahncadodaaGreatDoor
open Go.RowKit
def isL (ks : List Int) : List Value:=ks.map fun x=>.int .i64 x
abbrev za6 (w : World) (B : Nat) (v : Value) (ks : List Int) : Prop:=w.ownsRow B 3 1 v ks.length (isL ks)
theorem za6.nil (w : World) (B : Nat) : za6 w B (.slice none 0 0) []:=World.ownsRow_nil _ _ _ _
theorem za6.reads {w : World} {B : Nat} {v : Value} {ks : List Int} (h : za6 w B v ks) : zbz w v ks:=by
 have h0:=h
 rcases h.2 with ⟨rfl,hz⟩ | ⟨g,cap,cur,rfl,_,hg,hc,_,hcs,ht⟩
 ·exact .inl ⟨_,_,rfl,List.eq_nil_of_length_eq_zero hz⟩
 ·refine .inr ⟨g,0,cap,rfl,hc,fun j x hj=>?_⟩
  have hlt : j < ks.length:=(List.getElem?_eq_some_iff.1 hj).1
  have:=World.ownsRow.cellAt (w:=w) (base:=B) (e:=3) (size:=1) (g:=g) (cap:=cap) (n:=ks.length) (xs:=isL ks) h0 j (by omega)
  rw [Nat.zero_add,this]
  unfold isL
  rw [List.getElem?_map,hj]
  rfl
theorem ze2 (w : World) (ty : TypeId) (B : Nat) (v : Value) (ks : List Int) (h : za6 w B v ks) (ad : Addr) (c : Nat) (x : Int) (hx : w.cell? ad = some (.int .i64 x)) (hs : ad.spot = none) (hlen : ks.length ≤ 10000000) (hB : B ≤ w.heap.size) :
  ∃ v' w',(Builtin.append_ #[41,41] ty #[v,.slice (some ad) 1 c]).run Tryz.prog w = .ok v' w' ∧ za6 w' B v' (ks ++ [x]) ∧ w.grownBy w' v.ownBlock ∧ (v'.ownBlock = v.ownBlock ∨ v'.ownBlock = some w.heap.size):=by
 obtain ⟨i0,hi,hz0,hz1,hz2⟩:=info_parts zdd
 obtain ⟨v',w',h1,h2,h3,_,h5⟩:=run_append_own_at (P:=Tryz.prog) w B 41 ty 3 i0 (.int .i64 0) 1 8 Tryz.underlying41 hi hz0 hz1 hz2 rfl (by decide) v _ _ h ad 1 c [.int .i64 x] rfl (fun j u hj=>by
  rcases j with _ | j
  ·simp at hj
   subst hj
   obtain ⟨b,o,s⟩:=ad
   simp only at hs
   subst hs
   rw [zbt]
   exact hx
  ·simp at hj) (fun u hu=>by simp at hu;subst hu;rfl) (by unfold maxLen;omega) (by omega) hB
 refine ⟨v',w',h1,?_,h3,h5⟩
 unfold za6 isL
 rw [List.map_append,List.length_append]
 exact h2
theorem zbe {w : World} {ops : Array Oper} {rest : List Oper} {o : Oper} {a : Act} {Q : Exit → Act → World → Prop} (hgd : o.guard = none) (s x : Operand)
  (ho : o.op = .call { callee:=.builtin .append,args:=#[s,x],argTypes:=#[41,41] }) (B : Nat) (v : Value) (ks : List Int) (hs : a.eval s = v) (hown : za6 w B v ks) (g c : Nat) (hx : a.eval x = .slice (some ⟨g,0,none⟩) 1 c) (y : Int) (hg : w.cell? ⟨g,0,none⟩ = some (.int .i64 y)) (hlen : ks.length ≤ 10000000) (hB : B ≤ w.heap.size)
  (h : ∀ v' w',za6 w' B v' (ks ++ [y]) → w.grownBy w' v.ownBlock → (v'.ownBlock = v.ownBlock ∨ v'.ownBlock = some w.heap.size) → wpList Tryz.prog ops Q rest (a.put o.dst v') w') : wpList Tryz.prog ops Q (o :: rest) a w :=
 wpList_plain hgd fun _ hK=>by
  obtain ⟨v',w',hr,h2,h3,h4⟩:=ze2 w o.type B v ks hown ⟨g,0,none⟩ c y hg rfl hlen hB
  unfold Oper.wp execOp
  simp only [ho,resolve,invoke,builtin,Sem.run_bind,Sem.run_pure,Result.andThen_ok,List.map_toArray,List.map_cons,List.map_nil,hs,hx,hr]
  exact hK _ _ (h v' w' h2 h3 h4)
structure Fam (w : World) (B : Nat) (vs : List Value) (f : Nat → List Int) : Prop where
 own : ∀ (u : Nat) v,vs[u]? = some v → za6 w B v (f u)
 apart : ∀ (u y : Nat) v x,vs[u]? = some v → vs[y]? = some x → u ≠ y → ApK v x
theorem Fam.keep {w w' : World} {B : Nat} {vs : List Value} {f : Nat → List Int} (h : Fam w B vs f) (hk : ∀ k,B ≤ k → k < w.heap.size → w'.heap[k]? = w.heap[k]?) : Fam w' B vs f :=
 ⟨fun u v hu=>zae (h.own u v hu) (fun k e hl=>hk k (World.ownsRow.lt (h.own u v hu) k e).1 hl),h.apart⟩
theorem Fam.below {w w' : World} {B : Nat} {vs : List Value} {f : Nat → List Int} (h : Fam w B vs f) (hb : Below w.heap.size w w') : Fam w' B vs f:=h.keep (fun k _ hl=>hb.block k hl)
theorem Fam.nil (w : World) (B n : Nat) : Fam w B (List.replicate n (.slice none 0 0)) (fun _=>[]):=by
 have h0 : ∀ (u : Nat) (v : Value),(List.replicate n (Value.slice none 0 0))[u]? = some v → v = .slice none 0 0:=fun u v hu=>by
  rw [List.getElem?_replicate] at hu
  split at hu
  ·exact (Option.some.inj hu).symm
  ·cases hu
 refine ⟨fun u v hu=>?_,fun u y v x hu hy hne k hk=>?_⟩
 ·rw [h0 u v hu]
  exact za6.nil _ _
 ·rw [h0 u v hu] at hk
  cases hk
theorem Fam.push {w w' : World} {B : Nat} {vs : List Value} {f g : Nat → List Int} (h : Fam w B vs f) {u : Nat} {v v' : Value} (hu : vs[u]? = some v) (h1 : za6 w' B v' (g u)) (h2 : w.grownBy w' v.ownBlock) (h3 : v'.ownBlock = v.ownBlock ∨ v'.ownBlock = some w.heap.size) (hg : ∀ y,y ≠ u → g y = f y) : Fam w' B (vs.set u v') g:=by
 have hul : u < vs.length:=(List.getElem?_eq_some_iff.1 hu).1
 have hap : ∀ y x,vs[y]? = some x → y ≠ u → ApK x v':=fun y x hy hne k e1 e2=>by
  rcases h3 with e | e
  ·exact h.apart y u x v hy hu hne k e1 (by rw [← e];exact e2)
  ·rw [e] at e2
   cases e2
   have:=(World.ownsRow.lt (h.own y x hy) _ e1).2
   omega
 refine ⟨fun y x hy=>?_,fun y z x q hy hz hne=>?_⟩
 ·rw [List.getElem?_set] at hy
  by_cases e : u = y
  ·subst e
   rw [if_pos rfl,if_pos hul] at hy
   cases hy
   exact h1
  ·rw [if_neg e] at hy
   rw [hg y (fun e2=>e e2.symm)]
   exact zae (h.own y x hy) (fun k ek hl=>h2.block k hl (fun e2=>h.apart y u x v hy hu (fun e3=>e e3.symm) k ek e2.symm))
 ·rw [List.getElem?_set] at hy hz
  by_cases e : u = y
  ·subst e
   rw [if_pos rfl,if_pos hul] at hy
   rw [if_neg hne] at hz
   cases hy
   exact fun k e1 e2=>hap z q hz (fun e=>hne e.symm) k e2 e1
  ·rw [if_neg e] at hy
   by_cases e2 : u = z
   ·subst e2
    rw [if_pos rfl,if_pos hul] at hz
    cases hz
    exact hap y x hy (fun e3=>e e3.symm)
   ·rw [if_neg e2] at hz
    exact h.apart y z x q hy hz hne
def zrc (w : World) (g : Nat) (ns : List Nd) : Prop:=∀ u,u < ns.length → ∃ a c,w.cell? ⟨g,u,none⟩ = some (.slice a (Tre.zaJ ns u ns.length).length c) ∧ zbz w (.slice a (Tre.zaJ ns u ns.length).length c) (Tre.zaJ ns u ns.length)
theorem zrc.below {w w' : World} {g : Nat} {ns : List Nd} (h : zrc w g ns) (hb : Below w.heap.size w w') : zrc w' g ns:=fun u hu=>by
 obtain ⟨a,c,h1,h2⟩:=h u hu
 exact ⟨a,c,(hb.cell (p:=⟨g,u,none⟩) (zaK h1)).trans h1,h2.below hb⟩
theorem zai {l m : List UInt8} (h : ¬ l = m) : ((str l).toList == m) = false:=by rw [zaE];exact beq_eq_false_iff_ne.2 h
theorem zag {l m : List UInt8} (h : l = m) : ((str l).toList == m) = true:=by rw [zaE,h];exact beq_self_eq_true m
theorem zb6 (w : World) (ts : List (List UInt8)) (h : ts.length ≤ 1000) : zaG (w.alloc (.cells (ts.map zcf).toArray 9)) w.heap.size (.slice (some ⟨w.heap.size,0,none⟩) ts.length ts.length) ts:=by
 refine ⟨by simp,.inr ⟨w.heap.size,ts.length,(ts.map zcf).toArray,rfl,Nat.le_refl _,zaf w _,Nat.le_refl _,by unfold maxLen;omega,by simp,?_⟩⟩
 rw [Nat.mul_one,List.take_of_length_le (by simp)]
theorem zci {w : World} {B C : Nat} {e : TypeId} {s n : Nat} {v : Value} {xs : List Value} (h : w.ownsRow C e s v n xs) (hb : B ≤ C) : w.ownsRow B e s v n xs:=by
 refine ⟨h.1,?_⟩
 rcases h.2 with h0 | ⟨g,cap,cur,hv,h1,hc⟩
 ·exact .inl h0
 ·exact .inr ⟨g,cap,cur,hv,Nat.le_trans hb h1,hc⟩
theorem OwnsTexts13.below {w w' : World} {B : Nat} {v : Value} {ts : List (List UInt8)} (h : zaG w B v ts) (hb : Below w.heap.size w w') : zaG w' B v ts:=za8 h hb
theorem OwnsTexts13.mono {w : World} {B C : Nat} {v : Value} {ts : List (List UInt8)} (h : zaG w C v ts) (hb : B ≤ C) : zaG w B v ts:=zci h hb
theorem zcF (l : List UInt8) (w : World) :
  Calls Tryz.prog 69 #[.string (str l)] w fun e w'=>e = .returned (.bool (Tre.zgS l)) ∧ w' = w:=by
 by_cases h0 : l = [97,114,101,97]
 ·have HL : Hid (Tre.zgS l = true):=by show _ = _;rw [h0];decide +kernel
  have q0:=zag h0
  clear h0
  go_enter Tryz.func69,Tryz.ntmps69
  go_wp2
  go_ret
  exact ⟨zac HL.out.symm,rfl⟩
 have H0 : Hid (¬ l = [97,114,101,97]):=h0
 have q0:=zai h0
 clear h0
 by_cases h1 : l = [98,97,115,101]
 ·have HL : Hid (Tre.zgS l = true):=by show _ = _;rw [h1];decide +kernel
  have q1:=zag h1
  clear h1
  go_enter Tryz.func69,Tryz.ntmps69
  go_wp2
  go_ret
  exact ⟨zac HL.out.symm,rfl⟩
 have H1 : Hid (¬ l = [98,97,115,101]):=h1
 have q1:=zai h1
 clear h1
 by_cases h2 : l = [98,114]
 ·have HL : Hid (Tre.zgS l = true):=by show _ = _;rw [h2];decide +kernel
  have q2:=zag h2
  clear h2
  go_enter Tryz.func69,Tryz.ntmps69
  go_wp2
  go_ret
  exact ⟨zac HL.out.symm,rfl⟩
 have H2 : Hid (¬ l = [98,114]):=h2
 have q2:=zai h2
 clear h2
 by_cases h3 : l = [99,111,108]
 ·have HL : Hid (Tre.zgS l = true):=by show _ = _;rw [h3];decide +kernel
  have q3:=zag h3
  clear h3
  go_enter Tryz.func69,Tryz.ntmps69
  go_wp2
  go_ret
  exact ⟨zac HL.out.symm,rfl⟩
 have H3 : Hid (¬ l = [99,111,108]):=h3
 have q3:=zai h3
 clear h3
 by_cases h4 : l = [101,109,98,101,100]
 ·have HL : Hid (Tre.zgS l = true):=by show _ = _;rw [h4];decide +kernel
  have q4:=zag h4
  clear h4
  go_enter Tryz.func69,Tryz.ntmps69
  go_wp2
  go_ret
  exact ⟨zac HL.out.symm,rfl⟩
 have H4 : Hid (¬ l = [101,109,98,101,100]):=h4
 have q4:=zai h4
 clear h4
 by_cases h5 : l = [104,114]
 ·have HL : Hid (Tre.zgS l = true):=by show _ = _;rw [h5];decide +kernel
  have q5:=zag h5
  clear h5
  go_enter Tryz.func69,Tryz.ntmps69
  go_wp2
  go_ret
  exact ⟨zac HL.out.symm,rfl⟩
 have H5 : Hid (¬ l = [104,114]):=h5
 have q5:=zai h5
 clear h5
 by_cases h6 : l = [105,109,103]
 ·have HL : Hid (Tre.zgS l = true):=by show _ = _;rw [h6];decide +kernel
  have q6:=zag h6
  clear h6
  go_enter Tryz.func69,Tryz.ntmps69
  go_wp2
  go_ret
  exact ⟨zac HL.out.symm,rfl⟩
 have H6 : Hid (¬ l = [105,109,103]):=h6
 have q6:=zai h6
 clear h6
 by_cases h7 : l = [105,110,112,117,116]
 ·have HL : Hid (Tre.zgS l = true):=by show _ = _;rw [h7];decide +kernel
  have q7:=zag h7
  clear h7
  go_enter Tryz.func69,Tryz.ntmps69
  go_wp2
  go_ret
  exact ⟨zac HL.out.symm,rfl⟩
 have H7 : Hid (¬ l = [105,110,112,117,116]):=h7
 have q7:=zai h7
 clear h7
 by_cases h8 : l = [108,105,110,107]
 ·have HL : Hid (Tre.zgS l = true):=by show _ = _;rw [h8];decide +kernel
  have q8:=zag h8
  clear h8
  go_enter Tryz.func69,Tryz.ntmps69
  go_wp2
  go_ret
  exact ⟨zac HL.out.symm,rfl⟩
 have H8 : Hid (¬ l = [108,105,110,107]):=h8
 have q8:=zai h8
 clear h8
 by_cases h9 : l = [109,101,116,97]
 ·have HL : Hid (Tre.zgS l = true):=by show _ = _;rw [h9];decide +kernel
  have q9:=zag h9
  clear h9
  go_enter Tryz.func69,Tryz.ntmps69
  go_wp2
  go_ret
  exact ⟨zac HL.out.symm,rfl⟩
 have H9 : Hid (¬ l = [109,101,116,97]):=h9
 have q9:=zai h9
 clear h9
 by_cases h10 : l = [112,97,114,97,109]
 ·have HL : Hid (Tre.zgS l = true):=by show _ = _;rw [h10];decide +kernel
  have q10:=zag h10
  clear h10
  go_enter Tryz.func69,Tryz.ntmps69
  go_wp2
  go_ret
  exact ⟨zac HL.out.symm,rfl⟩
 have H10 : Hid (¬ l = [112,97,114,97,109]):=h10
 have q10:=zai h10
 clear h10
 by_cases h11 : l = [115,111,117,114,99,101]
 ·have HL : Hid (Tre.zgS l = true):=by show _ = _;rw [h11];decide +kernel
  have q11:=zag h11
  clear h11
  go_enter Tryz.func69,Tryz.ntmps69
  go_wp2
  go_ret
  exact ⟨zac HL.out.symm,rfl⟩
 have H11 : Hid (¬ l = [115,111,117,114,99,101]):=h11
 have q11:=zai h11
 clear h11
 by_cases h12 : l = [116,114,97,99,107]
 ·have HL : Hid (Tre.zgS l = true):=by show _ = _;rw [h12];decide +kernel
  have q12:=zag h12
  clear h12
  go_enter Tryz.func69,Tryz.ntmps69
  go_wp2
  go_ret
  exact ⟨zac HL.out.symm,rfl⟩
 have H12 : Hid (¬ l = [116,114,97,99,107]):=h12
 have q12:=zai h12
 clear h12
 by_cases h13 : l = [119,98,114]
 ·have HL : Hid (Tre.zgS l = true):=by show _ = _;rw [h13];decide +kernel
  have q13:=zag h13
  clear h13
  go_enter Tryz.func69,Tryz.ntmps69
  go_wp2
  go_ret
  exact ⟨zac HL.out.symm,rfl⟩
 have H13 : Hid (¬ l = [119,98,114]):=h13
 have q13:=zai h13
 clear h13
 have HL : Hid (Tre.zgS l = false):=by
  show _ = _
  unfold Tre.zgS Tre.voidNames
  simp only [List.contains_cons,List.contains_nil,Bool.or_false,Bool.or_eq_false_iff,beq_eq_false_iff_ne]
  exact ⟨H0.out,H1.out,H2.out,H3.out,H4.out,H5.out,H6.out,H7.out,H8.out,H9.out,H10.out,H11.out,H12.out,H13.out⟩
 go_enter Tryz.func69,Tryz.ntmps69
 go_wp2
 go_ret
 exact ⟨zac HL.out.symm,rfl⟩
theorem zj2 (l : List UInt8) (w : World) :
  Calls Tryz.prog 130 #[.string (str l)] w fun e w'=>e = .returned (.bool (Tre.zsf l)) ∧ w' = w:=by
 by_cases h0 : l = [97,100,100,114,101,115,115]
 ·have HL : Hid (Tre.zsf l = true):=by show _ = _;rw [h0];decide +kernel
  have q0:=zag h0
  clear h0
  go_enter Tryz.func130,Tryz.ntmps130
  go_wp2
  go_ret
  exact ⟨zac HL.out.symm,rfl⟩
 have H0 : Hid (¬ l = [97,100,100,114,101,115,115]):=h0
 have q0:=zai h0
 clear h0
 by_cases h1 : l = [97,114,116,105,99,108,101]
 ·have HL : Hid (Tre.zsf l = true):=by show _ = _;rw [h1];decide +kernel
  have q1:=zag h1
  clear h1
  go_enter Tryz.func130,Tryz.ntmps130
  go_wp2
  go_ret
  exact ⟨zac HL.out.symm,rfl⟩
 have H1 : Hid (¬ l = [97,114,116,105,99,108,101]):=h1
 have q1:=zai h1
 clear h1
 by_cases h2 : l = [97,115,105,100,101]
 ·have HL : Hid (Tre.zsf l = true):=by show _ = _;rw [h2];decide +kernel
  have q2:=zag h2
  clear h2
  go_enter Tryz.func130,Tryz.ntmps130
  go_wp2
  go_ret
  exact ⟨zac HL.out.symm,rfl⟩
 have H2 : Hid (¬ l = [97,115,105,100,101]):=h2
 have q2:=zai h2
 clear h2
 by_cases h3 : l = [98,108,111,99,107,113,117,111,116,101]
 ·have HL : Hid (Tre.zsf l = true):=by show _ = _;rw [h3];decide +kernel
  have q3:=zag h3
  clear h3
  go_enter Tryz.func130,Tryz.ntmps130
  go_wp2
  go_ret
  exact ⟨zac HL.out.symm,rfl⟩
 have H3 : Hid (¬ l = [98,108,111,99,107,113,117,111,116,101]):=h3
 have q3:=zai h3
 clear h3
 by_cases h4 : l = [100,101,116,97,105,108,115]
 ·have HL : Hid (Tre.zsf l = true):=by show _ = _;rw [h4];decide +kernel
  have q4:=zag h4
  clear h4
  go_enter Tryz.func130,Tryz.ntmps130
  go_wp2
  go_ret
  exact ⟨zac HL.out.symm,rfl⟩
 have H4 : Hid (¬ l = [100,101,116,97,105,108,115]):=h4
 have q4:=zai h4
 clear h4
 by_cases h5 : l = [100,105,118]
 ·have HL : Hid (Tre.zsf l = true):=by show _ = _;rw [h5];decide +kernel
  have q5:=zag h5
  clear h5
  go_enter Tryz.func130,Tryz.ntmps130
  go_wp2
  go_ret
  exact ⟨zac HL.out.symm,rfl⟩
 have H5 : Hid (¬ l = [100,105,118]):=h5
 have q5:=zai h5
 clear h5
 by_cases h6 : l = [100,108]
 ·have HL : Hid (Tre.zsf l = true):=by show _ = _;rw [h6];decide +kernel
  have q6:=zag h6
  clear h6
  go_enter Tryz.func130,Tryz.ntmps130
  go_wp2
  go_ret
  exact ⟨zac HL.out.symm,rfl⟩
 have H6 : Hid (¬ l = [100,108]):=h6
 have q6:=zai h6
 clear h6
 by_cases h7 : l = [102,105,101,108,100,115,101,116]
 ·have HL : Hid (Tre.zsf l = true):=by show _ = _;rw [h7];decide +kernel
  have q7:=zag h7
  clear h7
  go_enter Tryz.func130,Tryz.ntmps130
  go_wp2
  go_ret
  exact ⟨zac HL.out.symm,rfl⟩
 have H7 : Hid (¬ l = [102,105,101,108,100,115,101,116]):=h7
 have q7:=zai h7
 clear h7
 by_cases h8 : l = [102,105,103,117,114,101]
 ·have HL : Hid (Tre.zsf l = true):=by show _ = _;rw [h8];decide +kernel
  have q8:=zag h8
  clear h8
  go_enter Tryz.func130,Tryz.ntmps130
  go_wp2
  go_ret
  exact ⟨zac HL.out.symm,rfl⟩
 have H8 : Hid (¬ l = [102,105,103,117,114,101]):=h8
 have q8:=zai h8
 clear h8
 by_cases h9 : l = [102,111,111,116,101,114]
 ·have HL : Hid (Tre.zsf l = true):=by show _ = _;rw [h9];decide +kernel
  have q9:=zag h9
  clear h9
  go_enter Tryz.func130,Tryz.ntmps130
  go_wp2
  go_ret
  exact ⟨zac HL.out.symm,rfl⟩
 have H9 : Hid (¬ l = [102,111,111,116,101,114]):=h9
 have q9:=zai h9
 clear h9
 by_cases h10 : l = [102,111,114,109]
 ·have HL : Hid (Tre.zsf l = true):=by show _ = _;rw [h10];decide +kernel
  have q10:=zag h10
  clear h10
  go_enter Tryz.func130,Tryz.ntmps130
  go_wp2
  go_ret
  exact ⟨zac HL.out.symm,rfl⟩
 have H10 : Hid (¬ l = [102,111,114,109]):=h10
 have q10:=zai h10
 clear h10
 by_cases h11 : l = [104,49]
 ·have HL : Hid (Tre.zsf l = true):=by show _ = _;rw [h11];decide +kernel
  have q11:=zag h11
  clear h11
  go_enter Tryz.func130,Tryz.ntmps130
  go_wp2
  go_ret
  exact ⟨zac HL.out.symm,rfl⟩
 have H11 : Hid (¬ l = [104,49]):=h11
 have q11:=zai h11
 clear h11
 by_cases h12 : l = [104,50]
 ·have HL : Hid (Tre.zsf l = true):=by show _ = _;rw [h12];decide +kernel
  have q12:=zag h12
  clear h12
  go_enter Tryz.func130,Tryz.ntmps130
  go_wp2
  go_ret
  exact ⟨zac HL.out.symm,rfl⟩
 have H12 : Hid (¬ l = [104,50]):=h12
 have q12:=zai h12
 clear h12
 by_cases h13 : l = [104,51]
 ·have HL : Hid (Tre.zsf l = true):=by show _ = _;rw [h13];decide +kernel
  have q13:=zag h13
  clear h13
  go_enter Tryz.func130,Tryz.ntmps130
  go_wp2
  go_ret
  exact ⟨zac HL.out.symm,rfl⟩
 have H13 : Hid (¬ l = [104,51]):=h13
 have q13:=zai h13
 clear h13
 by_cases h14 : l = [104,52]
 ·have HL : Hid (Tre.zsf l = true):=by show _ = _;rw [h14];decide +kernel
  have q14:=zag h14
  clear h14
  go_enter Tryz.func130,Tryz.ntmps130
  go_wp2
  go_ret
  exact ⟨zac HL.out.symm,rfl⟩
 have H14 : Hid (¬ l = [104,52]):=h14
 have q14:=zai h14
 clear h14
 by_cases h15 : l = [104,53]
 ·have HL : Hid (Tre.zsf l = true):=by show _ = _;rw [h15];decide +kernel
  have q15:=zag h15
  clear h15
  go_enter Tryz.func130,Tryz.ntmps130
  go_wp2
  go_ret
  exact ⟨zac HL.out.symm,rfl⟩
 have H15 : Hid (¬ l = [104,53]):=h15
 have q15:=zai h15
 clear h15
 by_cases h16 : l = [104,54]
 ·have HL : Hid (Tre.zsf l = true):=by show _ = _;rw [h16];decide +kernel
  have q16:=zag h16
  clear h16
  go_enter Tryz.func130,Tryz.ntmps130
  go_wp2
  go_ret
  exact ⟨zac HL.out.symm,rfl⟩
 have H16 : Hid (¬ l = [104,54]):=h16
 have q16:=zai h16
 clear h16
 by_cases h17 : l = [104,101,97,100,101,114]
 ·have HL : Hid (Tre.zsf l = true):=by show _ = _;rw [h17];decide +kernel
  have q17:=zag h17
  clear h17
  go_enter Tryz.func130,Tryz.ntmps130
  go_wp2
  go_ret
  exact ⟨zac HL.out.symm,rfl⟩
 have H17 : Hid (¬ l = [104,101,97,100,101,114]):=h17
 have q17:=zai h17
 clear h17
 by_cases h18 : l = [104,114]
 ·have HL : Hid (Tre.zsf l = true):=by show _ = _;rw [h18];decide +kernel
  have q18:=zag h18
  clear h18
  go_enter Tryz.func130,Tryz.ntmps130
  go_wp2
  go_ret
  exact ⟨zac HL.out.symm,rfl⟩
 have H18 : Hid (¬ l = [104,114]):=h18
 have q18:=zai h18
 clear h18
 by_cases h19 : l = [109,97,105,110]
 ·have HL : Hid (Tre.zsf l = true):=by show _ = _;rw [h19];decide +kernel
  have q19:=zag h19
  clear h19
  go_enter Tryz.func130,Tryz.ntmps130
  go_wp2
  go_ret
  exact ⟨zac HL.out.symm,rfl⟩
 have H19 : Hid (¬ l = [109,97,105,110]):=h19
 have q19:=zai h19
 clear h19
 by_cases h20 : l = [110,97,118]
 ·have HL : Hid (Tre.zsf l = true):=by show _ = _;rw [h20];decide +kernel
  have q20:=zag h20
  clear h20
  go_enter Tryz.func130,Tryz.ntmps130
  go_wp2
  go_ret
  exact ⟨zac HL.out.symm,rfl⟩
 have H20 : Hid (¬ l = [110,97,118]):=h20
 have q20:=zai h20
 clear h20
 by_cases h21 : l = [111,108]
 ·have HL : Hid (Tre.zsf l = true):=by show _ = _;rw [h21];decide +kernel
  have q21:=zag h21
  clear h21
  go_enter Tryz.func130,Tryz.ntmps130
  go_wp2
  go_ret
  exact ⟨zac HL.out.symm,rfl⟩
 have H21 : Hid (¬ l = [111,108]):=h21
 have q21:=zai h21
 clear h21
 by_cases h22 : l = [112]
 ·have HL : Hid (Tre.zsf l = true):=by show _ = _;rw [h22];decide +kernel
  have q22:=zag h22
  clear h22
  go_enter Tryz.func130,Tryz.ntmps130
  go_wp2
  go_ret
  exact ⟨zac HL.out.symm,rfl⟩
 have H22 : Hid (¬ l = [112]):=h22
 have q22:=zai h22
 clear h22
 by_cases h23 : l = [112,114,101]
 ·have HL : Hid (Tre.zsf l = true):=by show _ = _;rw [h23];decide +kernel
  have q23:=zag h23
  clear h23
  go_enter Tryz.func130,Tryz.ntmps130
  go_wp2
  go_ret
  exact ⟨zac HL.out.symm,rfl⟩
 have H23 : Hid (¬ l = [112,114,101]):=h23
 have q23:=zai h23
 clear h23
 by_cases h24 : l = [115,101,99,116,105,111,110]
 ·have HL : Hid (Tre.zsf l = true):=by show _ = _;rw [h24];decide +kernel
  have q24:=zag h24
  clear h24
  go_enter Tryz.func130,Tryz.ntmps130
  go_wp2
  go_ret
  exact ⟨zac HL.out.symm,rfl⟩
 have H24 : Hid (¬ l = [115,101,99,116,105,111,110]):=h24
 have q24:=zai h24
 clear h24
 by_cases h25 : l = [116,97,98,108,101]
 ·have HL : Hid (Tre.zsf l = true):=by show _ = _;rw [h25];decide +kernel
  have q25:=zag h25
  clear h25
  go_enter Tryz.func130,Tryz.ntmps130
  go_wp2
  go_ret
  exact ⟨zac HL.out.symm,rfl⟩
 have H25 : Hid (¬ l = [116,97,98,108,101]):=h25
 have q25:=zai h25
 clear h25
 by_cases h26 : l = [117,108]
 ·have HL : Hid (Tre.zsf l = true):=by show _ = _;rw [h26];decide +kernel
  have q26:=zag h26
  clear h26
  go_enter Tryz.func130,Tryz.ntmps130
  go_wp2
  go_ret
  exact ⟨zac HL.out.symm,rfl⟩
 have H26 : Hid (¬ l = [117,108]):=h26
 have q26:=zai h26
 clear h26
 have HL : Hid (Tre.zsf l = false):=by
  show _ = _
  unfold Tre.zsf Tre.blockNames
  simp only [List.contains_cons,List.contains_nil,Bool.or_false,Bool.or_eq_false_iff,beq_eq_false_iff_ne]
  exact ⟨H0.out,H1.out,H2.out,H3.out,H4.out,H5.out,H6.out,H7.out,H8.out,H9.out,H10.out,H11.out,H12.out,H13.out,H14.out,H15.out,H16.out,H17.out,H18.out,H19.out,H20.out,H21.out,H22.out,H23.out,H24.out,H25.out,H26.out⟩
 go_enter Tryz.func130,Tryz.ntmps130
 go_wp2
 go_ret
 exact ⟨zac HL.out.symm,rfl⟩
theorem zcN (w : World) (cs bs : List (List UInt8)) (ha : cs.length ≤ 1000) (hb : bs.length ≤ 1000) :
  (∀ W1 W,Below ((w.alloc (.cells (cs.map zcf).toArray 9)).alloc (.cells (bs.map zcf).toArray 9)).heap.size ((w.alloc (.cells (cs.map zcf).toArray 9)).alloc (.cells (bs.map zcf).toArray 9)) W1 → W1.grownBy W (some (w.heap.size + 1)) → zaw W (.slice (some ⟨w.heap.size,0,none⟩) cs.length cs.length) cs) ∧
  zaG ((w.alloc (.cells (cs.map zcf).toArray 9)).alloc (.cells (bs.map zcf).toArray 9)) w.heap.size (.slice (some ⟨w.heap.size + 1,0,none⟩) bs.length bs.length) bs ∧
  Below w.heap.size w ((w.alloc (.cells (cs.map zcf).toArray 9)).alloc (.cells (bs.map zcf).toArray 9)):=by
 have h1:=zb6 w cs ha
 have h2:=zb6 (w.alloc (.cells (cs.map zcf).toArray 9)) bs hb
 have hb1 : Below w.heap.size w (w.alloc (.cells (cs.map zcf).toArray 9)):=(Below.refl _ _).alloc (Nat.le_refl _) _
 have hb2 : Below (w.alloc (.cells (cs.map zcf).toArray 9)).heap.size (w.alloc (.cells (cs.map zcf).toArray 9)) ((w.alloc (.cells (cs.map zcf).toArray 9)).alloc (.cells (bs.map zcf).toArray 9)):=(Below.refl _ _).alloc (Nat.le_refl _) _
 have hs : (w.alloc (.cells (cs.map zcf).toArray 9)).heap.size = w.heap.size + 1:=by simp
 rw [hs] at h2
 refine ⟨fun W1 W hW1 hW=>?_,OwnsTexts13.mono h2 (by omega),bel hb1 hb2⟩
 have h3:=OwnsTexts13.below (OwnsTexts13.below h1 hb2) hW1
 have h4 : zaG W w.heap.size (.slice (some ⟨w.heap.size,0,none⟩) cs.length cs.length) cs:=World.ownsRow.kept h3 hW (.inr (by
  intro e
  have:=Option.some.inj e
  simp at this))
 exact h4.reads
theorem ziT (l : List UInt8) (w : World) :
  Calls Tryz.prog 94 #[.string (str l)] w fun e w'=>∃ v1 v2,e = .returned (.tuple #[v1,v2]) ∧ (∀ W1 W,Below w'.heap.size w' W1 → W1.grownBy W v2.ownBlock → zaw W v1 (Tre.zgU l).1) ∧ zaG w' w.heap.size v2 (Tre.zgU l).2 ∧ Below w.heap.size w w':=by
 by_cases h0 : l = [108,105]
 ·have HL : Hid (Tre.zgU l = ([[108,105]],[[111,108],[117,108]])):=by show _ = _;rw [h0];decide +kernel
  have q0:=zag h0
  clear h0
  go_enter Tryz.func94,Tryz.ntmps94
  go_wp2
  go_ret2
  rw [HL.out]
  exact ⟨_,_,rfl,zcN w [[108,105]] [[111,108],[117,108]] (by decide) (by decide)⟩
 have H0 : Hid (¬ l = [108,105]):=h0
 have q0:=zai h0
 clear h0
 by_cases h1 : l = [100,116]
 ·have HL : Hid (Tre.zgU l = ([[100,116],[100,100]],[[100,108]])):=by show _ = _;rw [h1];decide +kernel
  have q1:=zag h1
  clear h1
  go_enter Tryz.func94,Tryz.ntmps94
  go_wp2
  go_ret2
  rw [HL.out]
  exact ⟨_,_,rfl,zcN w [[100,116],[100,100]] [[100,108]] (by decide) (by decide)⟩
 have H1 : Hid (¬ l = [100,116]):=h1
 have q1:=zai h1
 clear h1
 by_cases h2 : l = [100,100]
 ·have HL : Hid (Tre.zgU l = ([[100,116],[100,100]],[[100,108]])):=by show _ = _;rw [h2];decide +kernel
  have q2:=zag h2
  clear h2
  go_enter Tryz.func94,Tryz.ntmps94
  go_wp2
  go_ret2
  rw [HL.out]
  exact ⟨_,_,rfl,zcN w [[100,116],[100,100]] [[100,108]] (by decide) (by decide)⟩
 have H2 : Hid (¬ l = [100,100]):=h2
 have q2:=zai h2
 clear h2
 by_cases h3 : l = [111,112,116,105,111,110]
 ·have HL : Hid (Tre.zgU l = ([[111,112,116,105,111,110]],[[115,101,108,101,99,116]])):=by show _ = _;rw [h3];decide +kernel
  have q3:=zag h3
  clear h3
  go_enter Tryz.func94,Tryz.ntmps94
  go_wp2
  go_ret2
  rw [HL.out]
  exact ⟨_,_,rfl,zcN w [[111,112,116,105,111,110]] [[115,101,108,101,99,116]] (by decide) (by decide)⟩
 have H3 : Hid (¬ l = [111,112,116,105,111,110]):=h3
 have q3:=zai h3
 clear h3
 by_cases h4 : l = [116,114]
 ·have HL : Hid (Tre.zgU l = ([[116,114]],[[116,97,98,108,101]])):=by show _ = _;rw [h4];decide +kernel
  have q4:=zag h4
  clear h4
  go_enter Tryz.func94,Tryz.ntmps94
  go_wp2
  go_ret2
  rw [HL.out]
  exact ⟨_,_,rfl,zcN w [[116,114]] [[116,97,98,108,101]] (by decide) (by decide)⟩
 have H4 : Hid (¬ l = [116,114]):=h4
 have q4:=zai h4
 clear h4
 by_cases h5 : l = [116,100]
 ·have HL : Hid (Tre.zgU l = ([[116,100],[116,104]],[[116,114],[116,97,98,108,101]])):=by show _ = _;rw [h5];decide +kernel
  have q5:=zag h5
  clear h5
  go_enter Tryz.func94,Tryz.ntmps94
  go_wp2
  go_ret2
  rw [HL.out]
  exact ⟨_,_,rfl,zcN w [[116,100],[116,104]] [[116,114],[116,97,98,108,101]] (by decide) (by decide)⟩
 have H5 : Hid (¬ l = [116,100]):=h5
 have q5:=zai h5
 clear h5
 by_cases h6 : l = [116,104]
 ·have HL : Hid (Tre.zgU l = ([[116,100],[116,104]],[[116,114],[116,97,98,108,101]])):=by show _ = _;rw [h6];decide +kernel
  have q6:=zag h6
  clear h6
  go_enter Tryz.func94,Tryz.ntmps94
  go_wp2
  go_ret2
  rw [HL.out]
  exact ⟨_,_,rfl,zcN w [[116,100],[116,104]] [[116,114],[116,97,98,108,101]] (by decide) (by decide)⟩
 have H6 : Hid (¬ l = [116,104]):=h6
 have q6:=zai h6
 clear h6
 have HC : Hid (Tre.zgU l = if Tre.zsf l = true then ([[112]],[[98,117,116,116,111,110],[116,97,98,108,101],[116,100],[116,104],[108,105],[111,98,106,101,99,116]]) else ([],[])):=by
  show _ = _
  unfold Tre.zgU
  rw [if_neg H0.out,if_neg H1.out,if_neg H2.out,if_neg H3.out,if_neg H4.out,if_neg H5.out,if_neg H6.out]
 have hB:=zj2 l
 cases hb : Tre.zsf l
 ·rw [hb] at hB HC
  clear hb
  go_enter Tryz.func94,Tryz.ntmps94
  go_wp2_with (go_at_call 130;refine (hB _).mono ?_;rintro e w1 ⟨rfl,hw⟩;replace hw:=hw.symm;subst hw)
  go_ret2
  rw [HC.out]
  exact ⟨_,_,rfl,fun _ _ _ _=>.inl ⟨_,_,rfl,rfl⟩,World.ownsRow_nil _ _ _ _,Below.refl _ _⟩
 ·rw [hb] at hB HC
  clear hb
  go_enter Tryz.func94,Tryz.ntmps94
  go_wp2_with (go_at_call 130;refine (hB _).mono ?_;rintro e w1 ⟨rfl,hw⟩;replace hw:=hw.symm;subst hw)
  go_ret2
  rw [HC.out]
  exact ⟨_,_,rfl,zcN w [[112]] [[98,117,116,116,111,110],[116,97,98,108,101],[116,100],[116,104],[108,105],[111,98,106,101,99,116]] (by decide) (by decide)⟩
theorem ReadsTexts13.form {w : World} {v : Value} {ts : List (List UInt8)} (h : zaw w v ts) : ∃ a c,v = .slice a ts.length c:=by
 rcases h with ⟨a,c,rfl,rfl⟩ | ⟨b,o,c,rfl,_,_⟩
 ·exact ⟨_,_,rfl⟩
 ·exact ⟨_,_,rfl⟩
theorem ReadsTexts13.at {w : World} {a : Option Addr} {n c : Nat} {ts : List (List UInt8)} {k : Nat} {x : List UInt8} (h : zaw w (.slice a n c) ts) (hx : ts[k]? = some x) :
  ∃ b o,a = some ⟨b,o,none⟩ ∧ ts.length ≤ c ∧ b < w.heap.size ∧ w.cell? ⟨b,o + k,none⟩ = some (.string (str x)):=by
 rcases h with ⟨a,c,_,rfl⟩ | ⟨b,o,c,h1,h2,h3⟩
 ·simp at hx
 ·cases h1
  exact ⟨b,o,rfl,h2,zaK (h3 k x hx),h3 k x hx⟩
theorem ReadsTexts13.below {w w' : World} {v : Value} {ts : List (List UInt8)} (h : zaw w v ts) (hb : Below w.heap.size w w') : zaw w' v ts:=by
 rcases h with h | ⟨b,o,c,rfl,hc,hr⟩
 ·exact .inl h
 ·exact .inr ⟨b,o,c,rfl,hc,fun j x hj=>(hb.cell (p:=⟨b,o + j,none⟩) (zaK (hr j x hj))).trans (hr j x hj)⟩
theorem zkY (ts : List (List UInt8)) (q : List UInt8) (j : Nat) (h : j < ts.length) : (ts.take (j + 1)).contains q = ((ts.take j).contains q || q == ts[j]):=by
 rw [List.take_succ_eq_append_getElem h,List.contains_append]
 congr 1
 rw [Bool.eq_iff_iff]
 simp
theorem zkZ (ts : List (List UInt8)) (q : List UInt8) (j : Nat) (h : j < ts.length) (hq : (q == ts[j]) = true) : ts.contains q = true:=by
 have : q = ts[j]:=by simpa using hq
 rw [this]
 simp
theorem zlU (ts : List (List UInt8)) (v : Value) (q : List UInt8) (w : World) (hv : zaw w v ts) (hl : ts.length ≤ 1000000) :
  Calls Tryz.prog 162 #[v,.string (str q)] w fun e w'=>(∃ r,e = .returned (.int .i64 r) ∧ decide (0 ≤ r) = ts.contains q) ∧ w' = w:=by
 obtain ⟨a,c,rfl⟩:=ReadsTexts13.form hv
 have HV:=zaa hv
 clear hv
 go_enter Tryz.func162,Tryz.ntmps162
 go_wp2
 go_loopw [8] (fun i wr=>∃ j : Nat,i = .int .i64 j ∧ j ≤ ts.length ∧ Hid ((ts.take j).contains q = false) ∧ wr = w) (fun i _=>ts.length - (intOf i).toNat)
 case atStart=>exact ⟨0,rfl,Nat.zero_le _,rfl,rfl⟩
 case round =>
  obtain ⟨j,rfl,hj,HE,hB⟩:=hrel
  replace hB:=hB.symm
  subst hB
  by_cases hjl : j < ts.length
  ·have hat : ts[j]? = some ts[j]:=List.getElem?_eq_getElem hjl
   obtain ⟨b,o,rfl,hc,hbl,h1⟩:=ReadsTexts13.at HV.out hat
   have qq:=zck q ts[j]
   cases hq : (q == ts[j])
   ·have HN : Hid ((ts.take (j + 1)).contains q = false):=by
     show _ = _
     rw [zkY ts q j hjl,HE.out,hq]
     rfl
    rw [hq] at qq
    clear hat hq
    generalize ts[j] = p at *
    go_wp2
    go_roundw
    case rel=>exact ⟨j + 1,by go_num,by omega,HN,by first | rfl | trivial⟩
    case measure=>simp [intOf];omega
   ·have HN : Hid (ts.contains q = true):=zkZ ts q j hjl hq
    rw [hq] at qq
    clear hat hq
    generalize ts[j] = p at *
    go_wp2
    go_ret
    exact ⟨⟨_,rfl,by rw [HN.out];simp⟩,rfl⟩
  ·have HN : Hid (ts.contains q = false):=by
    have h:=HE.out
    rwa [List.take_of_length_le (by omega)] at h
   go_wp2
   go_ret
   exact ⟨⟨_,rfl,by rw [HN.out];rfl⟩,rfl⟩
theorem zej (ts : List (List UInt8)) (v : Value) (q : List UInt8) (w : World) (hv : zaw w v ts) (hl : ts.length ≤ 1000000) :
  Calls Tryz.prog 131 #[v,.string (str q)] w fun e w'=>e = .returned (.bool (ts.contains q)) ∧ w' = w:=by
 have hI:=zlU ts v q w hv hl
 go_enter Tryz.func131,Tryz.ntmps131
 go_wp2_with (go_at_call 162;refine hI.mono ?_;rintro e w1 ⟨⟨r,rfl,hr⟩,hw⟩;replace hw:=hw.symm;subst hw)
 go_ret
 exact ⟨zac (by simp),rfl⟩
theorem zdn (ts : List (List UInt8)) (v : Value) (q : List UInt8) (w : World) (hv : zaw w v ts) (hl : ts.length ≤ 1000000) :
  Calls Tryz.prog 60 #[v,.string (str q)] w fun e w'=>e = .returned (.bool (ts.contains q)) ∧ w' = w:=by
 obtain ⟨a,c,rfl⟩:=ReadsTexts13.form hv
 have HV:=zaa hv
 clear hv
 go_enter Tryz.func60,Tryz.ntmps60
 go_wp2
 go_loopw [5] (fun i wr=>∃ j : Nat,i = .int .i64 j ∧ j ≤ ts.length ∧ Hid ((ts.take j).contains q = false) ∧ wr = w) (fun i _=>ts.length - (intOf i).toNat)
 case atStart=>exact ⟨0,rfl,Nat.zero_le _,rfl,rfl⟩
 case round =>
  obtain ⟨j,rfl,hj,HE,hB⟩:=hrel
  replace hB:=hB.symm
  subst hB
  by_cases hjl : j < ts.length
  ·have hat : ts[j]? = some ts[j]:=List.getElem?_eq_getElem hjl
   obtain ⟨b,o,rfl,hc,hbl,h1⟩:=ReadsTexts13.at HV.out hat
   have qq:=zck ts[j] q
   cases hq : (q == ts[j])
   ·have HN : Hid ((ts.take (j + 1)).contains q = false):=by
     show _ = _
     rw [zkY ts q j hjl,HE.out,hq]
     rfl
    rw [show (ts[j] == q) = (q == ts[j]) from by rw [Bool.eq_iff_iff];simp;exact ⟨Eq.symm,Eq.symm⟩,hq] at qq
    clear hat hq
    generalize ts[j] = p at *
    go_wp2
    go_roundw
    case rel=>exact ⟨j + 1,by go_num,by omega,HN,by first | rfl | trivial⟩
    case measure=>simp [intOf];omega
   ·have HN : Hid (ts.contains q = true):=zkZ ts q j hjl hq
    rw [show (ts[j] == q) = (q == ts[j]) from by rw [Bool.eq_iff_iff];simp;exact ⟨Eq.symm,Eq.symm⟩,hq] at qq
    clear hat hq
    generalize ts[j] = p at *
    go_wp2
    go_ret
    exact ⟨zac HN.out.symm,rfl⟩
  ·have HN : Hid (ts.contains q = false):=by
    have h:=HE.out
    rwa [List.take_of_length_le (by omega)] at h
   go_wp2
   go_ret
   exact ⟨zac HN.out.symm,rfl⟩
end Go.Proofs.YtiodaahncadodaaGreatDoor
