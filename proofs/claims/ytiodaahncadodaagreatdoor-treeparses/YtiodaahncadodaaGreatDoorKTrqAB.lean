/- Texts laid as one. -/
import Derived.Test.YtiodaahncadodaaGreatDoorKTreJL
import Derived.Test.YtiodaahncadodaaGreatDoorKTreMN
set_option maxRecDepth 100000
set_option maxHeartbeats 4000000
set_option linter.unusedVariables false
set_option linter.unusedSimpArgs false
namespace Go.Proofs.YtiodaahncadodaaGreatDoor
open Go.RowKit
theorem zsz (ks : List Int) : (isL ks).length = ks.length:=by unfold isL;rw [List.length_map]
theorem zsA (a b : List Int) : isL (a ++ b) = isL a ++ isL b:=by unfold isL;rw [List.map_append]
theorem zhR (w : World) (ty : TypeId) (B : Nat) (v : Value) (l : List Int) (hown : za6 w B v l) (y : Value) (m : List Int) (hy : zbz w y m) (hlen : l.length + m.length ≤ 1000000000) (hB : B ≤ w.heap.size) :
  ∃ v' w',(Builtin.append_ #[41,41] ty #[v,y]).run Tryz.prog w = .ok v' w' ∧ za6 w' B v' (l ++ m) ∧ w.grownBy w' v.ownBlock ∧ (v'.ownBlock = v.ownBlock ∨ v'.ownBlock = some w.heap.size):=by
 obtain ⟨i0,hi,hz0,hz1,hz2⟩:=info_parts zdd
 have hfin : ∀ v' w',w'.ownsRow B 3 1 v' (l.length + m.length) (isL l ++ isL m) → za6 w' B v' (l ++ m):=by
  intro v' w' h
  unfold za6
  rw [List.length_append,zsA]
  exact h
 rcases hy with ⟨ad,c,rfl,rfl⟩ | ⟨b,f,c,rfl,hc,hr⟩
 ·cases ad with
  | none =>
   refine ⟨v,w,?_,by rw [List.append_nil];exact hown,World.grownBy.refl _ _,.inl rfl⟩
   have ht:=Tryz.underlying41
   rcases hown.2 with ⟨rfl,hz⟩ | ⟨g,cap,cur,rfl,_,_,hnc,_⟩
   ·simp [Builtin.append_,run_underlying ht,sizeOf,typeInfo,hi,Builtin.lenOf,Builtin.firstCells]
   ·simp [Builtin.append_,run_underlying ht,sizeOf,typeInfo,hi,Builtin.lenOf,Builtin.firstCells,hnc,storeCells]
  | some ad =>
   obtain ⟨v',w',h1,h2,h3,_,h5⟩:=run_append_own_at (P:=Tryz.prog) w B 41 ty 3 i0 (.int .i64 0) 1 8 Tryz.underlying41 hi hz0 hz1 hz2 rfl (by decide) v _ _ hown ad 0 c [] rfl (fun j u hj=>by simp at hj) (fun x hx=>by simp at hx) (by simp at hlen;unfold maxLen;omega) (by simp at hlen;omega) hB
   exact ⟨v',w',h1,hfin v' w' h2,h3,h5⟩
 ·obtain ⟨v',w',h1,h2,h3,_,h5⟩:=run_append_own_at (P:=Tryz.prog) w B 41 ty 3 i0 (.int .i64 0) 1 8 Tryz.underlying41 hi hz0 hz1 hz2 rfl (by decide) v _ _ hown ⟨b,f,none⟩ m.length c (isL m) (by rw [zsz,Nat.mul_one]) (fun j u hj=>by
   rw [zbt]
   unfold isL at hj
   rw [List.getElem?_map] at hj
   obtain ⟨x,hx,rfl⟩:=Option.map_eq_some_iff.1 hj
   exact hr j x hx) (fun u hu=>by
   unfold isL at hu
   obtain ⟨x,_,rfl⟩:=List.mem_map.1 hu
   rfl) (by unfold maxLen;omega) (by omega) hB
  exact ⟨v',w',h1,hfin v' w' h2,h3,h5⟩
theorem ze4 {w : World} {o : Oper} {a : Act} {K : Act → World → Prop} {Q : Exit → Act → World → Prop} (s x : Operand)
  (ho : o.op = .call { callee:=.builtin .append,args:=#[s,x],argTypes:=#[41,41] }) (B : Nat) (v : Value) (l : List Int) (hs : a.eval s = v) (hown : za6 w B v l) (y : Value) (m : List Int) (hx : a.eval x = y) (hy : zbz w y m) (hlen : l.length + m.length ≤ 1000000000) (hB : B ≤ w.heap.size)
  (h : ∀ v' w',za6 w' B v' (l ++ m) → w.grownBy w' v.ownBlock → (v'.ownBlock = v.ownBlock ∨ v'.ownBlock = some w.heap.size) → K (a.put o.dst v') w') : o.wp Tryz.prog a w K Q:=by
 obtain ⟨v',w',hr,h2,h3,h4⟩:=zhR w o.type B v l hown y m hy hlen hB
 unfold Oper.wp execOp
 simp only [ho,resolve,invoke,builtin,Sem.run_bind,Sem.run_pure,Result.andThen_ok,List.map_toArray,List.map_cons,List.map_nil,hs,hx,hr]
 exact h v' w' h2 h3 h4
theorem zbC {w : World} {ops : Array Oper} {rest : List Oper} {o : Oper} {a : Act} {Q : Exit → Act → World → Prop} (hgd : o.guard = none) (s x : Operand)
  (ho : o.op = .call { callee:=.builtin .append,args:=#[s,x],argTypes:=#[41,41] }) (B : Nat) (v : Value) (l : List Int) (hs : a.eval s = v) (hown : za6 w B v l) (y : Value) (m : List Int) (hx : a.eval x = y) (hy : zbz w y m) (hlen : l.length + m.length ≤ 1000000000) (hB : B ≤ w.heap.size)
  (h : ∀ v' w',za6 w' B v' (l ++ m) → w.grownBy w' v.ownBlock → (v'.ownBlock = v.ownBlock ∨ v'.ownBlock = some w.heap.size) → wpList Tryz.prog ops Q rest (a.put o.dst v') w') : wpList Tryz.prog ops Q (o :: rest) a w :=
 wpList_plain hgd fun _ hK=>ze4 s x ho B v l hs hown y m hx hy hlen hB fun v' w' h2 h3 h4=>hK _ _ (h v' w' h2 h3 h4)
theorem zdF {w : World} {ops : Array Oper} {o : Oper} {a : Act} {K : Act → World → Prop} {Q : Exit → Act → World → Prop} {E : Prop} (hgd : o.guard = none) (s x : Operand)
  (ho : o.op = .call { callee:=.builtin .append,args:=#[s,x],argTypes:=#[41,41] }) (B : Nat) (v : Value) (l : List Int) (hs : a.eval s = v) (hown : za6 w B v l) (y : Value) (m : List Int) (hx : a.eval x = y) (hy : zbz w y m) (hlen : l.length + m.length ≤ 1000000000) (hB : B ≤ w.heap.size)
  (h : ∀ v' w',za6 w' B v' (l ++ m) → w.grownBy w' v.ownBlock → (v'.ownBlock = v.ownBlock ∨ v'.ownBlock = some w.heap.size) → K (a.put o.dst v') w') : if Region.wanted o (yielded ops a.tmps) = true then Oper.wp Tryz.prog o a w K Q else E:=by
 rw [if_pos (by simp [Region.wanted,hgd])]
 exact ze4 s x ho B v l hs hown y m hx hy hlen hB h
theorem zhS (a b : List Pr) : zaF (a ++ b) = zaF a ++ zaF b:=by unfold zaF;rw [List.flatMap_append]
theorem zhT (w : World) (ty : TypeId) (B : Nat) (v : Value) (l : List Pr) (hown : zaN w B v l) (y : Value) (m : List Pr) (hy : zar w y m) (hlen : l.length + m.length ≤ 1000000000) (hB : B ≤ w.heap.size) :
  ∃ v' w',(Builtin.append_ #[40,40] ty #[v,y]).run Tryz.prog w = .ok v' w' ∧ zaN w' B v' (l ++ m) ∧ w.grownBy w' v.ownBlock ∧ (v'.ownBlock = v.ownBlock ∨ v'.ownBlock = some w.heap.size):=by
 obtain ⟨i0,hi,hz0,hz1,hz2⟩:=info_parts zfh
 have hfin : ∀ v' w',w'.ownsRow B 67 2 v' (l.length + m.length) (zaF l ++ zaF m) → zaN w' B v' (l ++ m):=by
  intro v' w' h
  unfold zaN zbd
  rw [List.length_append,zhS]
  exact h
 rcases hy with ⟨ad,c,rfl,rfl⟩ | ⟨b,f,c,rfl,hc,hr⟩
 ·cases ad with
  | none =>
   refine ⟨v,w,?_,by rw [List.append_nil];exact hown,World.grownBy.refl _ _,.inl rfl⟩
   have ht:=Tryz.underlying40
   rcases hown.2 with ⟨rfl,hz⟩ | ⟨g,cap,cur,rfl,_,_,hnc,_⟩
   ·simp [Builtin.append_,run_underlying ht,sizeOf,typeInfo,hi,Builtin.lenOf,Builtin.firstCells]
   ·simp [Builtin.append_,run_underlying ht,sizeOf,typeInfo,hi,Builtin.lenOf,Builtin.firstCells,hnc,storeCells]
  | some ad =>
   obtain ⟨v',w',h1,h2,h3,_,h5⟩:=run_append_own_at (P:=Tryz.prog) w B 40 ty 67 i0 (.agg #[.string ByteArray.empty,.string ByteArray.empty]) 2 32 Tryz.underlying40 hi hz0 hz1 hz2 rfl (by decide) v _ _ hown ad 0 c [] rfl (fun j u hj=>by simp at hj) (fun x hx=>by simp at hx) (by simp at hlen;unfold maxLen;omega) (by simp at hlen;omega) hB
   exact ⟨v',w',h1,hfin v' w' h2,h3,h5⟩
 ·have hcell : ∀ (j : Nat) u,(zaF m)[j]? = some u → w.cell? ⟨b,f + j,none⟩ = some u:=fun j u hj=>by
   have hl:=zb4 m
   have hjl : j < (zaF m).length:=(List.getElem?_eq_some_iff.1 hj).1
   obtain ⟨p,hp⟩ : ∃ p,m[j / 2]? = some p:=⟨_,List.getElem?_eq_getElem (by omega)⟩
   have hc1:=zc9 m (j / 2) p hp
   have hc2:=hr (j / 2) p hp
   rcases Nat.mod_two_eq_zero_or_one j with e | e
   ·rw [show j / 2 * 2 = j from by omega] at hc1 hc2
    rw [hc1.1] at hj
    cases hj
    exact hc2.1
   ·have e2 : j / 2 * 2 + 1 = j:=by omega
    rw [e2] at hc1
    rw [hc1.2] at hj
    cases hj
    have:=hc2.2
    rw [show f + j / 2 * 2 + 1 = f + j from by omega] at this
    exact this
  obtain ⟨v',w',h1,h2,h3,_,h5⟩:=run_append_own_at (P:=Tryz.prog) w B 40 ty 67 i0 (.agg #[.string ByteArray.empty,.string ByteArray.empty]) 2 32 Tryz.underlying40 hi hz0 hz1 hz2 rfl (by decide) v _ _ hown ⟨b,f,none⟩ m.length c (zaF m) (by rw [zb4]) (fun j u hj=>by
   rw [zbt]
   exact hcell j u hj) (fun u hu=>by
   unfold zaF at hu
   obtain ⟨x,_,hx⟩:=List.mem_flatMap.1 hu
   simp at hx
   rcases hx with rfl | rfl <;> rfl) (by unfold maxLen;omega) (by omega) hB
  exact ⟨v',w',h1,hfin v' w' h2,h3,h5⟩
theorem zjc {w : World} {o : Oper} {a : Act} {K : Act → World → Prop} {Q : Exit → Act → World → Prop} (s x : Operand)
  (ho : o.op = .call { callee:=.builtin .append,args:=#[s,x],argTypes:=#[40,40] }) (B : Nat) (v : Value) (l : List Pr) (hs : a.eval s = v) (hown : zaN w B v l) (y : Value) (m : List Pr) (hx : a.eval x = y) (hy : zar w y m) (hlen : l.length + m.length ≤ 1000000000) (hB : B ≤ w.heap.size)
  (h : ∀ v' w',zaN w' B v' (l ++ m) → w.grownBy w' v.ownBlock → (v'.ownBlock = v.ownBlock ∨ v'.ownBlock = some w.heap.size) → K (a.put o.dst v') w') : o.wp Tryz.prog a w K Q:=by
 obtain ⟨v',w',hr,h2,h3,h4⟩:=zhT w o.type B v l hown y m hy hlen hB
 unfold Oper.wp execOp
 simp only [ho,resolve,invoke,builtin,Sem.run_bind,Sem.run_pure,Result.andThen_ok,List.map_toArray,List.map_cons,List.map_nil,hs,hx,hr]
 exact h v' w' h2 h3 h4
theorem zaO {w : World} {ops : Array Oper} {o : Oper} {a : Act} {K : Act → World → Prop} {Q : Exit → Act → World → Prop} {E : Prop} (hgd : o.guard = none) (s x : Operand)
  (ho : o.op = .call { callee:=.builtin .append,args:=#[s,x],argTypes:=#[40,40] }) (B : Nat) (v : Value) (l : List Pr) (hs : a.eval s = v) (hown : zaN w B v l) (y : Value) (m : List Pr) (hx : a.eval x = y) (hy : zar w y m) (hlen : l.length + m.length ≤ 1000000000) (hB : B ≤ w.heap.size)
  (h : ∀ v' w',zaN w' B v' (l ++ m) → w.grownBy w' v.ownBlock → (v'.ownBlock = v.ownBlock ∨ v'.ownBlock = some w.heap.size) → K (a.put o.dst v') w') : if Region.wanted o (yielded ops a.tmps) = true then Oper.wp Tryz.prog o a w K Q else E:=by
 rw [if_pos (by simp [Region.wanted,hgd])]
 exact zjc s x ho B v l hs hown y m hx hy hlen hB h
theorem zgC (w : World) (ty : TypeId) (B : Nat) (v : Value) (ps : List PN) (h : w.ownsRow B 43 6 v ps.length (zaI ps)) (g c : Nat) (x0 x1 x2 x3 x4 x5 : Value) (hx : w.rangeAt g 0 [x0,x1,x2,x3,x4,x5]) (h1 : ∀ u ∈ [x0,x1,x2,x3,x4,x5],u.oneCell' = true) (hlen : ps.length ≤ 1000000) (hB : B ≤ w.heap.size) :
  ∃ v' w',(Builtin.append_ #[24,24] ty #[v,.slice (some ⟨g,0,none⟩) 1 c]).run Tryz.prog w = .ok v' w' ∧ w'.ownsRow B 43 6 v' (ps.length + 1) (zaI ps ++ [x0,x1,x2,x3,x4,x5]) ∧ w.grownBy w' v.ownBlock ∧ (v'.ownBlock = v.ownBlock ∨ v'.ownBlock = some w.heap.size):=by
 obtain ⟨i0,hi,hz0,hz1,hz2⟩:=info_parts zg1
 obtain ⟨v',w',r1,r2,r3,_,r5⟩:=run_append_own_at (P:=Tryz.prog) w B 24 ty 43 i0 (.agg #[.int .i64 0,.string ByteArray.empty,.slice none 0 0,.string ByteArray.empty,.int .i64 0,.slice none 0 0]) 6 96 Tryz.underlying24 hi hz0 hz1 hz2 rfl (by decide) v _ _ h ⟨g,0,none⟩ 1 c [x0,x1,x2,x3,x4,x5] rfl (fun j u hj=>by
  rw [zbt]
  exact hx j u hj) h1 (by unfold maxLen;omega) (by omega) hB
 exact ⟨v',w',r1,r2,r3,r5⟩
theorem zhU {w : World} {o : Oper} {a : Act} {K : Act → World → Prop} {Q : Exit → Act → World → Prop} (s x : Operand)
  (ho : o.op = .call { callee:=.builtin .append,args:=#[s,x],argTypes:=#[24,24] }) (B : Nat) (v : Value) (ps : List PN) (hs : a.eval s = v) (hown : w.ownsRow B 43 6 v ps.length (zaI ps)) (g c : Nat) (hx : a.eval x = .slice (some ⟨g,0,none⟩) 1 c) (x0 x1 x2 x3 x4 x5 : Value) (hg : w.rangeAt g 0 [x0,x1,x2,x3,x4,x5]) (h1 : ∀ u ∈ [x0,x1,x2,x3,x4,x5],u.oneCell' = true) (hlen : ps.length ≤ 1000000) (hB : B ≤ w.heap.size)
  (h : ∀ v' w',w'.ownsRow B 43 6 v' (ps.length + 1) (zaI ps ++ [x0,x1,x2,x3,x4,x5]) → w.grownBy w' v.ownBlock → (v'.ownBlock = v.ownBlock ∨ v'.ownBlock = some w.heap.size) → K (a.put o.dst v') w') : o.wp Tryz.prog a w K Q:=by
 obtain ⟨v',w',hr,h2,h3,h4⟩:=zgC w o.type B v ps hown g c x0 x1 x2 x3 x4 x5 hg h1 hlen hB
 unfold Oper.wp execOp
 simp only [ho,resolve,invoke,builtin,Sem.run_bind,Sem.run_pure,Result.andThen_ok,List.map_toArray,List.map_cons,List.map_nil,hs,hx,hr]
 exact h v' w' h2 h3 h4
theorem zdf {w : World} {ops : Array Oper} {o : Oper} {a : Act} {K : Act → World → Prop} {Q : Exit → Act → World → Prop} {E : Prop} (hgd : o.guard = none) (s x : Operand)
  (ho : o.op = .call { callee:=.builtin .append,args:=#[s,x],argTypes:=#[24,24] }) (B : Nat) (v : Value) (ps : List PN) (hs : a.eval s = v) (hown : w.ownsRow B 43 6 v ps.length (zaI ps)) (g c : Nat) (hx : a.eval x = .slice (some ⟨g,0,none⟩) 1 c) (x0 x1 x2 x3 x4 x5 : Value) (hg : w.rangeAt g 0 [x0,x1,x2,x3,x4,x5]) (h1 : ∀ u ∈ [x0,x1,x2,x3,x4,x5],u.oneCell' = true) (hlen : ps.length ≤ 1000000) (hB : B ≤ w.heap.size)
  (h : ∀ v' w',w'.ownsRow B 43 6 v' (ps.length + 1) (zaI ps ++ [x0,x1,x2,x3,x4,x5]) → w.grownBy w' v.ownBlock → (v'.ownBlock = v.ownBlock ∨ v'.ownBlock = some w.heap.size) → K (a.put o.dst v') w') : if Region.wanted o (yielded ops a.tmps) = true then Oper.wp Tryz.prog o a w K Q else E:=by
 rw [if_pos (by simp [Region.wanted,hgd])]
 exact zhU s x ho B v ps hs hown g c hx x0 x1 x2 x3 x4 x5 hg h1 hlen hB h
theorem zg9 {P : Program} {ops : Array Oper} {Q : Exit → Act → World → Prop} {md : Region.Mode} {S : World → Prop} {z : Nat} {i j : Nat} {o p : Oper} {fuel : Nat} {listed : Array Bool} {a : Act} {w : World} (hr : Region.ready md ops listed = [i,j]) (ho : ops[i]? = some o) (hp : ops[j]? = some p)
  (h1 : ∀ K' : Act → World → Prop,Shut (∀ a w,(i ≠ z → S w) → zcm P md ops Q S z fuel (listed.setIfInBounds i true) a w → K' a w) → if Region.wanted o (yielded ops a.tmps) = true then Oper.wp P o a w K' Q else K' (a.put o.dst undef) w)
  (h2 : ∀ K' : Act → World → Prop,Shut (∀ a w,(j ≠ z → S w) → zcm P md ops Q S z fuel (listed.setIfInBounds j true) a w → K' a w) → if Region.wanted p (yielded ops a.tmps) = true then Oper.wp P p a w K' Q else K' (a.put p.dst undef) w) : zcm P md ops Q S z (fuel + 1) listed a w :=
 ⟨fun h0=>(by rw [hr] at h0;cases h0),fun k hk=>by
  rw [hr] at hk
  rcases List.mem_cons.1 hk with rfl | hk
  ·exact wpOp_step ho (fun K' hK=>h1 K' (fun a w hS hW=>hK a w ⟨hS,hW⟩))
  ·rw [List.mem_singleton] at hk
   subst hk
   exact wpOp_step hp (fun K' hK=>h2 K' (fun a w hS hW=>hK a w ⟨hS,hW⟩))⟩
abbrev ze5 (ov : Value) (ps : List PN) : List Value:=ov :: zbq ps
structure QAt (w : World) (B bb : Nat) (nv ov : Value) (ps : List PN) (op : List Nat) : Prop where
 blk : w.heap[bb]? = some (.cells #[nv,ov] 59 (0,0))
 row : w.ownsRow B 43 6 nv ps.length (zaI ps)
 opn : za6 w B ov (op.map fun x : Nat=>(x : Int))
 ats : ∀ (i : Nat) p,ps[i]? = some p → zaN w B p.2.1 p.1.attrs
 kds : ∀ (i : Nat) p,ps[i]? = some p → za6 w B p.2.2 p.1.kids
 apn : ∀ v ∈ ze5 ov ps,ApK v nv
 off : ∀ v ∈ ze5 ov ps,v.ownBlock ≠ some bb
 nof : nv.ownBlock ≠ some bb
 bB : B ≤ bb
section
variable {w w' w1 : World} {B bb g m c : Nat} {nv ov : Value} {ps : List PN} {op : List Nat}
theorem QAt.lt (h : QAt w B bb nv ov ps op) : bb < w.heap.size:=(Array.getElem?_eq_some_iff.1 h.blk).1
theorem QAt.slots (h : QAt w B bb nv ov ps op) : ∀ v ∈ ze5 ov ps,∀ k,v.ownBlock = some k → B ≤ k ∧ k < w.heap.size:=fun v hv k e=>by
 rcases List.mem_cons.1 hv with rfl | hv
 ·exact World.ownsRow.lt h.opn k e
 ·unfold zbq at hv
  obtain ⟨p,hp,hv⟩:=List.mem_flatMap.1 hv
  obtain ⟨i,hi⟩:=List.mem_iff_getElem?.1 hp
  simp at hv
  rcases hv with rfl | rfl
  ·exact World.ownsRow.lt (h.ats i p hi) k e
  ·exact World.ownsRow.lt (h.kds i p hi) k e
theorem QAt.keep (h : QAt w B bb nv ov ps op) (hk : ∀ k,B ≤ k → k < w.heap.size → w'.heap[k]? = w.heap[k]?) : QAt w' B bb nv ov ps op :=
 ⟨(hk bb h.bB h.lt).trans h.blk,zae h.row (fun k e hl=>hk k (World.ownsRow.lt h.row k e).1 hl),zae h.opn (fun k e hl=>hk k (World.ownsRow.lt h.opn k e).1 hl),
  fun i p hp=>zae (h.ats i p hp) (fun k e hl=>hk k (World.ownsRow.lt (h.ats i p hp) k e).1 hl),fun i p hp=>zae (h.kds i p hp) (fun k e hl=>hk k (World.ownsRow.lt (h.kds i p hp) k e).1 hl),h.apn,h.off,h.nof,h.bB⟩
theorem QAt.below (h : QAt w B bb nv ov ps op) (hb : Below w.heap.size w w') : QAt w' B bb nv ov ps op:=h.keep (fun k _ hl=>hb.block k hl)
theorem QAt.nform (h : QAt w B bb nv ov ps op) (hp : 1 ≤ ps.length) : ∃ g c,nv = .slice (some ⟨g,0,none⟩) ps.length c ∧ ps.length ≤ c ∧ B ≤ g ∧ g < w.heap.size ∧ g ≠ bb:=by
 rcases h.row.2 with ⟨rfl,hz⟩ | ⟨g,cap,cur,rfl,hb,hg,hc,_⟩
 ·omega
 ·exact ⟨g,cap,rfl,hc,hb,(Array.getElem?_eq_some_iff.1 hg).1,fun e=>h.nof (by rw [← e];rfl)⟩
theorem QAt.size (h : QAt w B bb (.slice (some ⟨g,0,none⟩) m c) ov ps op) : m = ps.length:=by
 rcases h.row.2 with ⟨hs,hz⟩ | ⟨g2,cap,cur,hs,_⟩
 ·simp at hs
 ·simp only [Value.slice.injEq] at hs
  exact hs.2.1
theorem QAt.cell (h : QAt w B bb (.slice (some ⟨g,0,none⟩) m c) ov ps op) {j : Nat} {p : PN} (hp : ps[j]? = some p) {i : Nat} {v : Value} (hv : [.int .i64 p.1.kind,.string (str p.1.name),p.2.1,.string (str p.1.text),.int .i64 p.1.up,p.2.2][i]? = some v) : w.cell? ⟨g,j * 6 + i,none⟩ = some v ∧ w.frozen? ⟨g,j * 6 + i,none⟩ = false:=by
 have hjl : j < ps.length:=(List.getElem?_eq_some_iff.1 hp).1
 have hi : i < 6:=by
  have:=(List.getElem?_eq_some_iff.1 hv).1
  simpa using this
 have hm:=h.size
 have hr : w.ownsRow B 43 6 (.slice (some ⟨g,0,none⟩) ps.length c) ps.length (zaI ps):=by have:=h.row;rw [hm] at this;exact this
 have e:=World.ownsRow.cellAt (w:=w) (base:=B) (e:=43) (size:=6) (g:=g) (cap:=c) (n:=ps.length) (xs:=zaI ps) hr (j * 6 + i) (by omega)
 exact ⟨e.trans (zf3 ps j p hp i v hv),World.ownsRow.frozenAt (w:=w) hr (j * 6 + i)⟩
theorem QAt.oform (h : QAt w B bb nv ov ps op) (hp : 1 ≤ op.length) : ∃ g c,ov = .slice (some ⟨g,0,none⟩) op.length c ∧ op.length ≤ c ∧ g < w.heap.size ∧ ∀ (j x : Nat),op[j]? = some x → w.cell? ⟨g,j,none⟩ = some (.int .i64 (x : Int)):=by
 rcases h.opn.2 with ⟨rfl,hz⟩ | ⟨g,cap,cur,rfl,_,hg,hc,_⟩
 ·rw [List.length_map] at hz
  omega
 ·have h9 : w.ownsRow B 3 1 (.slice (some ⟨g,0,none⟩) op.length cap) op.length (isL (op.map fun x : Nat=>(x : Int))):=by
   have:=h.opn
   simp only [za6,List.length_map] at this
   exact this
  rw [List.length_map] at hc ⊢
  refine ⟨g,cap,rfl,hc,(Array.getElem?_eq_some_iff.1 hg).1,fun j x hj=>?_⟩
  have hjl:=(List.getElem?_eq_some_iff.1 hj).1
  have:=World.ownsRow.cellAt (w:=w) (base:=B) (e:=3) (size:=1) (g:=g) (cap:=cap) (n:=op.length) (xs:=isL (op.map fun x : Nat=>(x : Int))) h9 j (by omega)
  rw [this]
  unfold isL
  rw [List.getElem?_map,List.getElem?_map,hj]
  rfl
theorem QAt.reads (h : QAt w B bb nv ov ps op) (hn : 1 ≤ ps.length) : zbA w nv (ps.map (·.1)):=by
 obtain ⟨g,c,rfl,hc,_⟩:=h.nform hn
 refine .inr ⟨g,0,c,by rw [List.length_map],by rw [List.length_map];exact hc,fun j n hj=>?_⟩
 rw [List.getElem?_map] at hj
 obtain ⟨p,hp,rfl⟩:=Option.map_eq_some_iff.1 hj
 have ha:=h.ats _ _ hp
 have hk:=h.kds _ _ hp
 obtain ⟨aa,ac,ea⟩:=(zbd.reads ha).form
 obtain ⟨ka,kc,ek⟩:=(za6.reads hk).form
 refine ⟨aa,ac,ka,kc,fun i v hi=>?_,ea ▸ zbd.reads ha,ek ▸ za6.reads hk⟩
 have:=(h.cell hp (i:=i) (v:=v) (by rw [ea,ek];exact hi)).1
 rw [Nat.zero_add]
 exact this
theorem zjd {ps : List PN} {v : Value} (h : v ∈ zbq ps) : ∃ (i : Nat) (p : PN),ps[i]? = some p ∧ (v = p.2.1 ∨ v = p.2.2):=by
 unfold zbq at h
 obtain ⟨p,hp,hv⟩:=List.mem_flatMap.1 h
 obtain ⟨i,hi⟩:=List.mem_iff_getElem?.1 hp
 simp at hv
 exact ⟨i,p,hi,hv⟩
theorem QAt.put (h : QAt w B bb (.slice (some ⟨g,0,none⟩) m c) ov ps op) {i : Nat} {p : PN} (hp : ps[i]? = some p) (q : PN) (f : Nat) (v : Value) (hf : f < 6)
  (hset : [.int .i64 q.1.kind,.string (str q.1.name),q.2.1,.string (str q.1.text),.int .i64 q.1.up,q.2.2] = [.int .i64 p.1.kind,.string (str p.1.name),p.2.1,.string (str p.1.text),.int .i64 p.1.up,p.2.2].set f v)
  (ha : zaN w B q.2.1 q.1.attrs) (hk : za6 w B q.2.2 q.1.kids) (hna : q.2.1.ownBlock ≠ some g ∧ q.2.1.ownBlock ≠ some bb) (hnk : q.2.2.ownBlock ≠ some g ∧ q.2.2.ownBlock ≠ some bb) :
  QAt (w.setCell ⟨g,i * 6 + f,none⟩ v) B bb (.slice (some ⟨g,0,none⟩) m c) ov (ps.set i q) op ∧ Below B w (w.setCell ⟨g,i * 6 + f,none⟩ v):=by
 have hm:=h.size
 subst hm
 have hst:=(World.ownsRow.stored (w:=w) h.row (i * 6 + f) v).1
 rw [zcG ps i p q f v hp hf hset] at hst
 have hgb : g ≠ bb:=fun e=>h.nof (by rw [← e];rfl)
 have hgB : B ≤ g:=(World.ownsRow.lt h.row g rfl).1
 have hapg : ∀ x ∈ ze5 ov ps,x.ownBlock ≠ some g:=fun x hx e=>h.apn x hx g e rfl
 have hw : ∀ (x : Value),x.ownBlock ≠ some g → ∀ k,x.ownBlock = some k → k < w.heap.size → (w.setCell ⟨g,i * 6 + f,none⟩ v).heap[k]? = w.heap[k]?:=fun x hx k e _=>zaM w g _ v (fun e2=>hx (by rw [e,e2]))
 refine ⟨⟨(zaM w g _ v (fun e=>hgb e.symm)).trans h.blk,by rw [List.length_set];exact hst,zae h.opn (hw ov (hapg ov (by simp))),?_,?_,?_,?_,h.nof,h.bB⟩,(Below.refl B w).setCell hgB v⟩
 ·intro j x hj
  rcases zbB hj with ⟨rfl,rfl⟩ | ⟨hne,hj⟩
  ·exact zae ha (hw _ hna.1)
  ·exact zae (h.ats j x hj) (hw _ (hapg _ (by simp [(zaB (List.mem_of_getElem? hj)).1])))
 ·intro j x hj
  rcases zbB hj with ⟨rfl,rfl⟩ | ⟨hne,hj⟩
  ·exact zae hk (hw _ hnk.1)
  ·exact zae (h.kds j x hj) (hw _ (hapg _ (by simp [(zaB (List.mem_of_getElem? hj)).2])))
 ·intro x hx
  rcases List.mem_cons.1 hx with rfl | hx
  ·exact h.apn x (by simp)
  ·obtain ⟨j,y,hj,hy⟩:=zjd hx
   rcases zbB hj with ⟨rfl,rfl⟩ | ⟨hne,hj⟩
   ·rcases hy with rfl | rfl
    ·exact fun k e1 e2=>by cases e2;exact hna.1 e1
    ·exact fun k e1 e2=>by cases e2;exact hnk.1 e1
   ·rcases hy with rfl | rfl
    ·exact h.apn _ (by simp [(zaB (List.mem_of_getElem? hj)).1])
    ·exact h.apn _ (by simp [(zaB (List.mem_of_getElem? hj)).2])
 ·intro x hx
  rcases List.mem_cons.1 hx with rfl | hx
  ·exact h.off x (by simp)
  ·obtain ⟨j,y,hj,hy⟩:=zjd hx
   rcases zbB hj with ⟨rfl,rfl⟩ | ⟨hne,hj⟩
   ·rcases hy with rfl | rfl
    ·exact hna.2
    ·exact hnk.2
   ·rcases hy with rfl | rfl
    ·exact h.off _ (by simp [(zaB (List.mem_of_getElem? hj)).1])
    ·exact h.off _ (by simp [(zaB (List.mem_of_getElem? hj)).2])
theorem QAt.node (h : QAt w B bb nv ov ps op) {n : Nd} {va nv' : Value} (hrow : w1.ownsRow B 43 6 nv' (ps.length + 1) (zaI ps ++ [.int .i64 n.kind,.string (str n.name),va,.string (str n.text),.int .i64 n.up,.slice none 0 0])) (hn : n.kids = []) (hg : w.grownBy w1 nv.ownBlock) (hat : nv'.ownBlock = nv.ownBlock ∨ nv'.ownBlock = some w.heap.size)
  (hva : zaN w B va n.attrs) (hvo : va.ownBlock ≠ some bb) (hvap : ApK va nv) (hB : Below B w w1) :
  QAt (w1.setCell ⟨bb,0,none⟩ nv') B bb nv' ov (ps ++ [(n,va,.slice none 0 0)]) op ∧ Below B w (w1.setCell ⟨bb,0,none⟩ nv'):=by
 have hnew : nv'.ownBlock ≠ some bb:=fun e=>by
  rcases hat with h1 | h1
  ·rw [h1] at e
   exact h.nof e
  ·rw [h1] at e
   cases e
   exact absurd h.lt (Nat.lt_irrefl _)
 have hap : ∀ x : Value,(∀ k,x.ownBlock = some k → k < w.heap.size) → ApK x nv → ApK x nv':=fun x hx hx2 k e1 e2=>by
  rcases hat with h1 | h1
  ·exact hx2 k e1 (by rw [← h1];exact e2)
  ·rw [h1] at e2
   cases e2
   exact absurd (hx _ e1) (Nat.lt_irrefl _)
 have hval:=fun k e=>(World.ownsRow.lt hva k e).2
 have hw : ∀ (x : Value),ApK x nv → x.ownBlock ≠ some bb → ∀ k,x.ownBlock = some k → k < w.heap.size → (w1.setCell ⟨bb,0,none⟩ nv').heap[k]? = w.heap[k]?:=fun x hx hxb k e hl=>(zaM w1 bb _ nv' (fun e2=>hxb (by rw [e,e2]))).trans (hg.block k hl (fun e2=>hx k e e2.symm))
 have hblk : w1.heap[bb]? = some (.cells #[nv,ov] 59 (0,0)):=(hg.block bb h.lt (fun e=>h.nof e.symm)).trans h.blk
 refine ⟨⟨za4 hblk nv',?_,zae h.opn (hw ov (h.apn ov (by simp)) (h.off ov (by simp))),?_,?_,?_,?_,hnew,h.bB⟩,hB.setCell h.bB _⟩
 ·rw [List.length_append,zf2]
  exact zae hrow (fun k e _=>zaM w1 bb _ nv' (fun e2=>hnew (by rw [e,e2])))
 ·intro j p hj
  by_cases hjl : j < ps.length
  ·rw [List.getElem?_append_left hjl] at hj
   have hm:=(zaB (List.mem_of_getElem? hj)).1
   exact zae (h.ats j p hj) (hw _ (h.apn _ (by simp [hm])) (h.off _ (by simp [hm])))
  ·have hje : j = ps.length:=by
    have:=(List.getElem?_eq_some_iff.1 hj).1
    simp at this
    omega
   subst hje
   simp at hj
   subst hj
   exact zae hva (hw va hvap hvo)
 ·intro j p hj
  by_cases hjl : j < ps.length
  ·rw [List.getElem?_append_left hjl] at hj
   have hm:=(zaB (List.mem_of_getElem? hj)).2
   exact zae (h.kds j p hj) (hw _ (h.apn _ (by simp [hm])) (h.off _ (by simp [hm])))
  ·have hje : j = ps.length:=by
    have:=(List.getElem?_eq_some_iff.1 hj).1
    simp at this
    omega
   subst hje
   simp at hj
   subst hj
   show za6 _ B (.slice none 0 0) n.kids
   rw [hn]
   exact za6.nil _ _
 ·intro x hx
  have hx2 : x ∈ ze5 ov ps ∨ x = va ∨ x = .slice none 0 0:=by
   rcases List.mem_cons.1 hx with rfl | hx
   ·exact .inl (by simp)
   ·rw [zdR] at hx
    simp only [List.mem_append,List.mem_singleton] at hx
    rcases hx with (hx | hx) | hx
    ·exact .inl (by simp [hx])
    ·exact .inr (.inl hx)
    ·exact .inr (.inr hx)
  rcases hx2 with hx | rfl | rfl
  ·exact hap x (fun k e=>(h.slots x hx k e).2) (h.apn x hx)
  ·exact hap x hval hvap
  ·exact fun k e=>by cases e
 ·intro x hx
  have hx2 : x ∈ ze5 ov ps ∨ x = va ∨ x = .slice none 0 0:=by
   rcases List.mem_cons.1 hx with rfl | hx
   ·exact .inl (by simp)
   ·rw [zdR] at hx
    simp only [List.mem_append,List.mem_singleton] at hx
    rcases hx with (hx | hx) | hx
    ·exact .inl (by simp [hx])
    ·exact .inr (.inl hx)
    ·exact .inr (.inr hx)
  rcases hx2 with hx | rfl | rfl
  ·exact h.off x hx
  ·exact hvo
  ·exact fun e=>by cases e
theorem QAt.open' (h : QAt w B bb nv ov ps op) {ov' : Value} {op' : List Nat} (hrow : za6 w B ov' (op'.map fun x : Nat=>(x : Int))) (hap : ApK ov' nv) (hoff : ov'.ownBlock ≠ some bb) :
  QAt (w.setCell ⟨bb,1,none⟩ ov') B bb nv ov' ps op' ∧ Below B w (w.setCell ⟨bb,1,none⟩ ov'):=by
 have hw : ∀ (x : Value),x.ownBlock ≠ some bb → ∀ k,x.ownBlock = some k → k < w.heap.size → (w.setCell ⟨bb,1,none⟩ ov').heap[k]? = w.heap[k]?:=fun x hxb k e hl=>zaM w bb _ ov' (fun e2=>hxb (by rw [e,e2]))
 refine ⟨⟨za4 h.blk ov',zae h.row (hw nv h.nof),zae hrow (hw ov' hoff),fun j p hj=>zae (h.ats j p hj) (hw _ (h.off _ (by simp [(zaB (List.mem_of_getElem? hj)).1]))),fun j p hj=>zae (h.kds j p hj) (hw _ (h.off _ (by simp [(zaB (List.mem_of_getElem? hj)).2]))),?_,?_,h.nof,h.bB⟩,(Below.refl B w).setCell h.bB _⟩
 ·intro x hx
  rcases List.mem_cons.1 hx with rfl | hx
  ·exact hap
  ·exact h.apn x (by simp [hx])
 ·intro x hx
  rcases List.mem_cons.1 hx with rfl | hx
  ·exact hoff
  ·exact h.off x (by simp [hx])
end
end Go.Proofs.YtiodaahncadodaaGreatDoor
namespace Tre
theorem zgh (ns : List Nd) (op : List Nat) (zaH w1 w2 : List Bs) (h : ∀ x,w1.contains x = w2.contains x) : ∀ k,zdw ns op zaH w1 k = zdw ns op zaH w2 k
 | 0=>rfl
 | 1=>rfl
 | k + 2=>by rw [zdw,zdw,h,zgh ns op zaH w1 w2 h (k + 1)]
theorem shut_congr (b : St) (zaH w1 w2 : List Bs) (h : ∀ x,w1.contains x = w2.contains x) : zsg b zaH w1 = zsg b zaH w2:=by
 unfold zsg
 rw [zgh _ _ _ _ _ h]
end Tre
namespace Go.Proofs.YtiodaahncadodaaGreatDoor
open Go.RowKit
def zoV (B bb : Nat) (w : World) (b : Tre.St) (w' : World) : Prop :=
 ∃ nv ov ps,QAt w' B bb nv ov ps b.opn ∧ ps.map (·.1) = b.nodes ∧ Below B w w'
def Kq (bb : Nat) (nv : Value) (w w' : World) : Prop:=∀ k,k < w.heap.size → k ≠ bb → nv.ownBlock ≠ some k → w'.heap[k]? = w.heap[k]?
theorem Kq.of {bb : Nat} {nv : Value} {w w' : World} (h : Below w.heap.size w w') : Kq bb nv w w':=fun k hk _ _=>h.block k hk
def QShut (B bb : Nat) (nv : Value) (ps : List PN) (w : World) (b : Tre.St) (e : Ending) (w' : World) : Prop:=e = .returned (.tuple #[]) ∧ ∃ ov,QAt w' B bb nv ov ps b.opn ∧ Below B w w' ∧ Kq bb nv w w'
theorem za1 {w w' : World} (h : w.grownBy w' none) : Below w.heap.size w w':=⟨h.os,h.tape,h.output,h.size,fun k hk=>h.block k hk (by simp)⟩
section
variable {w : World} {B bb : Nat} {nv ov : Value} {ps : List PN} {op : List Nat}
theorem zbh (B : Nat) (w : World) (m : Nat) : Below B w (w.drewN m):=⟨rfl,rfl,rfl,Nat.le_refl _,fun _ _=>rfl⟩
theorem zdg (h : QAt w B bb nv ov ps op) (hop : 1 ≤ op.length) (hop2 : op.length ≤ 1000) (hin : ∀ x ∈ op,x < ps.length) (v1 v2 : Value) (zaH walls : List (List UInt8)) (h1 : zaw w v1 zaH) (h2 : zaw w v2 walls) (hl1 : zaH.length ≤ 1000) (hl2 : walls.length ≤ 1000) :
  Calls Tryz.prog 28 #[.pointer (some ⟨bb,0,none⟩),v1,v2] w (QShut B bb nv ps w (Tre.zsg ⟨ps.map (·.1),op⟩ zaH walls)):=by
 obtain ⟨a1,d1,rfl⟩:=ReadsTexts13.form h1
 obtain ⟨a2,d2,rfl⟩:=ReadsTexts13.form h2
 have hps : 1 ≤ ps.length:=by
  have:=hin op[0] (List.getElem_mem hop)
  omega
 obtain ⟨g,c,rfl,hc,_⟩:=h.nform hps
 obtain ⟨go,co,rfl,hco,hgol,hcell⟩:=h.oform hop
 have c0 : w.cell? ⟨bb,0,none⟩ = some (.slice (some ⟨g,0,none⟩) ps.length c):=Lib.cell_of_heap h.blk 0
 have c1 : w.cell? ⟨bb,1,none⟩ = some (.slice (some ⟨go,0,none⟩) op.length co):=Lib.cell_of_heap h.blk 1
 have f1 : w.frozen? ⟨bb,1,none⟩ = false:=Lib.frozen_of_heap h.blk 1
 have hblt:=h.lt
 have H:=zaa h
 have HC1:=zaa (fun m q=>zdn zaH _ q (w.drewN m) (ReadsTexts13.below h1 (zav ⟨m,rfl⟩)) (by omega))
 have HC2:=zaa (fun m q=>zdn walls _ q (w.drewN m) (ReadsTexts13.below h2 (zav ⟨m,rfl⟩)) (by omega))
 have HCell:=zaa hcell
 have HIn:=zaa hin
 have HS : Hid (Tre.zsg ⟨ps.map (·.1),op⟩ zaH walls = ⟨ps.map (·.1),op.take (Tre.zdw (ps.map (·.1)) op zaH walls op.length)⟩):=rfl
 clear h h1 h2 hcell hin
 go_enter Tryz.func28,Tryz.ntmps28
 go_wp2
 go_loopw [6] (fun i wr=>∃ k m : Nat,i = .int .i64 k ∧ k < op.length ∧ wr = w.drewN m ∧ Hid (Tre.zdw (ps.map (·.1)) op zaH walls op.length = Tre.zdw (ps.map (·.1)) op zaH walls (k + 1))) (fun i _=>(intOf i).toNat)
 case atStart=>exact ⟨op.length - 1,0,by go_num,by omega,rfl,by show _ = _;rw [show op.length - 1 + 1 = op.length from by omega]⟩
 case round =>
  obtain ⟨k,m,rfl,hk,rfl,HE⟩:=hrel
  by_cases hk0 : 0 < k
  ·have hx : op[k]? = some op[k]:=List.getElem?_eq_getElem hk
   have hxl:=HIn.out _ (List.getElem_mem hk)
   have hcx:=HCell.out _ _ hx
   generalize op[k]'hk = x at *
   obtain ⟨p,hp⟩ : ∃ p,ps[x]? = some p:=⟨_,List.getElem?_eq_getElem hxl⟩
   obtain ⟨n,va,vk⟩:=p
   have hcn:=(H.out.cell hp (i:=1) rfl).1
   have HX:=zaa hx
   have HNM : Hid ((Tre.zaC (ps.map (·.1)) x).name = n.name):=by
    show _ = _
    rw [zcP hp]
   simp only at hcn
   have hq : (0 : Int) < (k : Int):=by omega
   clear hx hp
   generalize n.name = nm at *
   have HC1x:=zaa (fun k=>HC1.out k nm)
   have HC2x:=zaa (fun k=>HC2.out k nm)
   cases hy : zaH.contains nm
   ·have HN1 : Hid (zaH.contains (Tre.zaC (ps.map (·.1)) x).name = false):=by
     show _ = _
     rw [HNM.out]
     exact hy
    rw [hy] at HC1x
    cases hz : walls.contains nm
    ·have HN2 : Hid (walls.contains (Tre.zaC (ps.map (·.1)) x).name = false):=by
      show _ = _
      rw [HNM.out]
      exact hz
     rw [hz] at HC2x
     have HE2 : Hid (Tre.zdw (ps.map (·.1)) op zaH walls op.length = Tre.zdw (ps.map (·.1)) op zaH walls k):=HE.out.trans (Tre.shutN_on (by omega) HX.out HN1.out HN2.out)
     clear hy hz HE
     go_wp2
     go_quiet (fail)
     go_wp2_with (first
      | (go_at_call 60;refine (HC1x.out (m + nq)).mono ?_;rintro e w1 ⟨rfl,he1⟩;rw [he1];clear he1 HC1x)
      | (go_at_call 60;refine (HC2x.out (m + nq)).mono ?_;rintro e w2 ⟨rfl,he2⟩;rw [he2];clear he2 HC2x))
     go_roundw
     case rel=>exact ⟨k - 1,m + nq,by go_num,by omega,by simp,by show _ = _;rw [show k - 1 + 1 = k from by omega];exact HE2.out⟩
     case measure=>simp [intOf];omega
    ·have HN2 : Hid (walls.contains (Tre.zaC (ps.map (·.1)) x).name = true):=by
      show _ = _
      rw [HNM.out]
      exact hz
     rw [hz] at HC2x
     have HE2 : Hid (Tre.zsg ⟨ps.map (·.1),op⟩ zaH walls = ⟨ps.map (·.1),op⟩):=by
      show _ = _
      rw [HS.out,HE.out,Tre.shutN_wall (by omega) HX.out HN1.out HN2.out,List.take_length]
     clear hy hz HE
     go_wp2
     go_quiet (fail)
     go_wp2_with (first
      | (go_at_call 60;refine (HC1x.out (m + nq)).mono ?_;rintro e w1 ⟨rfl,he1⟩;rw [he1];clear he1 HC1x)
      | (go_at_call 60;refine (HC2x.out (m + nq)).mono ?_;rintro e w2 ⟨rfl,he2⟩;rw [he2];clear he2 HC2x))
     ((try simp only [Exit.inBlock,Exit.then]);refine bodyPost_ret (results_none rfl _ _ _) rfl ?_)
     rw [HE2.out]
     exact ⟨rfl,_,H.out.below (zav ⟨m + nq,rfl⟩),zbh B w (m + nq),Kq.of (zav ⟨m + nq,rfl⟩)⟩
   ·have HN1 : Hid (zaH.contains (Tre.zaC (ps.map (·.1)) x).name = true):=by
     show _ = _
     rw [HNM.out]
     exact hy
    rw [hy] at HC1x
    have HE2 : Hid (Tre.zsg ⟨ps.map (·.1),op⟩ zaH walls = ⟨ps.map (·.1),op.take k⟩):=by
     show _ = _
     rw [HS.out,HE.out,Tre.shutN_yes (by omega) HX.out HN1.out]
    have hkc : (k : Int) ≤ (co : Int):=by omega
    have HOW:=zaa (fun q=>(za6.cut (za6.drewN (za6.drewN H.out.opn m) q) k (by rw [List.length_map];omega)).reads)
    have HLB:=zaa (Nat.le_trans H.out.bB (Nat.le_of_lt hblt))
    clear hy HE
    go_wp2
    go_quiet (fail)
    go_wp2_with (first
     | (go_at_call 60;refine (HC1x.out (m + nq)).mono ?_;rintro e w1 ⟨rfl,he1⟩;rw [he1];clear he1 HC1x)
     | (refine zbC rfl (.const (.slice none 0 0)) (.tmp 41) rfl B _ [] rfl (za6.nil _ _) (.slice (some ⟨go,0,none⟩) k co) _ rfl (HOW.out nq) (by simp;omega) HLB.out ?_;intro v5 w5 h5 g5 hat5;obtain ⟨xa5,xc5,e5⟩:=(za6.reads h5).form;rw [List.nil_append] at h5 e5;rw [List.length_take,List.length_map,Nat.min_eq_left (Nat.le_of_lt hk)] at e5;subst e5;have hb5:=za1 g5;have c15:=(hb5.cell (p:=⟨bb,1,none⟩) hblt).trans c1;have f15:=(hb5.frozen (p:=⟨bb,1,none⟩) hblt).trans f1))
    ((try simp only [Exit.inBlock,Exit.then]);refine bodyPost_ret (results_none rfl _ _ _) rfl ?_)
    have hQ:=(H.out.below (zav ⟨m + nq,rfl⟩)).below (w':=w5) hb5
    have hfr : ∀ j,(Value.slice xa5 k xc5).ownBlock = some j → w.heap.size ≤ j:=fun j e=>by
     rcases hat5 with h9 | h9
     ·rw [h9] at e
      cases e
     ·rw [h9] at e
      cases e
      exact Nat.le_refl _
    have hO:=hQ.open' (ov':=.slice xa5 k xc5) (op':=op.take k) (by rw [List.map_take];exact h5) (fun j e1 e2=>by
     have h8:=hfr j e1
     have h9:=(World.ownsRow.lt H.out.row j e2).2
     omega) (fun e=>by have:=hfr _ e;omega)
    rw [HE2.out]
    exact ⟨rfl,_,hO.1,((zbh B w (m + nq)).trans (hb5.mono HLB.out)).trans hO.2,fun k hk hkb _=>(zaM w5 bb _ _ hkb).trans (hb5.block k hk)⟩
  ·have hk00 : k = 0:=by omega
   subst hk00
   have HE2 : Hid (Tre.zsg ⟨ps.map (·.1),op⟩ zaH walls = ⟨ps.map (·.1),op⟩):=by
    show _ = _
    rw [HS.out,HE.out,Tre.shutN_one,List.take_length]
   go_wp2
   go_end0
   rw [HE2.out]
   exact ⟨rfl,_,H.out.below (zav ⟨m,rfl⟩),zbh B w m,Kq.of (zav ⟨m,rfl⟩)⟩
theorem zl7 {ns : List Nd} {q : List UInt8} (j : Nat) (hj : j < ns.length) (hno : ∀ i,i < j → ((Tre.zaC ns i).kind == 2 && (Tre.zaC ns i).name == q) = false) (hy : ((Tre.zaC ns j).kind == 2 && (Tre.zaC ns j).name == q) = true) : Tre.zei ns q = some j:=by
 unfold Tre.zei
 rw [List.findIdx?_eq_some_iff_getElem]
 have e : ∀ i (h : i < ns.length),ns[i] = Tre.zaC ns i:=fun i h=>(Tre.zn3 (List.getElem?_eq_getElem h)).symm
 refine ⟨hj,by rw [e j hj];exact hy,fun i hi=>?_⟩
 rw [e i (by omega),hno i hi]
 simp
theorem zl8 {ns : List Nd} {q : List UInt8} (hno : ∀ i,i < ns.length → ((Tre.zaC ns i).kind == 2 && (Tre.zaC ns i).name == q) = false) : Tre.zei ns q = none:=by
 unfold Tre.zei
 rw [List.findIdx?_eq_none_iff]
 intro x hx
 obtain ⟨i,hi⟩:=List.mem_iff_getElem?.1 hx
 have hl:=(List.getElem?_eq_some_iff.1 hi).1
 have:=hno i hl
 rw [Tre.zn3 hi] at this
 rw [this]
def optI : Option Nat → Int
 | none=>-1
 | some i=>(i : Int)
theorem zje (h : QAt w B bb nv ov ps op) (hps : 1 ≤ ps.length) (hps2 : ps.length ≤ 4096) (q : List UInt8) :
  Calls Tryz.prog 56 #[.pointer (some ⟨bb,0,none⟩),.string (str q)] w fun e w'=>e = .returned (.int .i64 (optI (Tre.zei (ps.map (·.1)) q))) ∧ w' = w:=by
 obtain ⟨g,c,rfl,hc,_⟩:=h.nform hps
 have c0 : w.cell? ⟨bb,0,none⟩ = some (.slice (some ⟨g,0,none⟩) ps.length c):=Lib.cell_of_heap h.blk 0
 have H:=zaa h
 clear h
 go_enter Tryz.func56,Tryz.ntmps56
 go_wp2
 go_loop [5] (fun i=>∃ k : Nat,i = .int .i64 k ∧ k ≤ ps.length ∧ Hid (∀ i,i < k → ((Tre.zaC (ps.map (·.1)) i).kind == 2 && (Tre.zaC (ps.map (·.1)) i).name == q) = false)) (fun i=>ps.length - (intOf i).toNat)
 case atStart=>exact ⟨0,rfl,Nat.zero_le _,fun i hi=>by omega⟩
 case round =>
  obtain ⟨k,rfl,hk,HE⟩:=hrel
  by_cases hkl : k < ps.length
  ·obtain ⟨p,hp⟩ : ∃ p,ps[k]? = some p:=⟨_,List.getElem?_eq_getElem hkl⟩
   obtain ⟨n,va,vk⟩:=p
   have g0:=(H.out.cell hp (i:=0) rfl).1
   have g1:=(H.out.cell hp (i:=1) rfl).1
   have HNM : Hid (Tre.zaC (ps.map (·.1)) k = n):=by
    show _ = _
    rw [zcP hp]
   simp only at g0 g1
   rw [Nat.add_zero] at g0
   have qn:=zck n.name q
   clear hp
   have HKL:=zaa hkl
   cases h2 : (n.kind == 2)
   ·have HE2 : Hid (∀ i,i < k + 1 → ((Tre.zaC (ps.map (·.1)) i).kind == 2 && (Tre.zaC (ps.map (·.1)) i).name == q) = false):=fun i hi=>by
     by_cases e : i = k
     ·rw [e,HNM.out,h2]
      rfl
     ·exact HE.out i (by omega)
    generalize n.kind = kd at *
    generalize n.name = nm at *
    clear HE
    go_wp2
    go_round
    case rel=>exact ⟨k + 1,by go_num,by omega,HE2⟩
    case measure=>simp [intOf];omega
   ·cases h3 : (n.name == q)
    ·have HE2 : Hid (∀ i,i < k + 1 → ((Tre.zaC (ps.map (·.1)) i).kind == 2 && (Tre.zaC (ps.map (·.1)) i).name == q) = false):=fun i hi=>by
      by_cases e : i = k
      ·rw [e,HNM.out,h3]
       simp
      ·exact HE.out i (by omega)
     rw [h3] at qn
     generalize n.kind = kd at *
     generalize n.name = nm at *
     clear HE h3
     go_wp2
     go_round
     case rel=>exact ⟨k + 1,by go_num,by omega,HE2⟩
     case measure=>simp [intOf];omega
    ·have HX : Hid (Tre.zei (ps.map (·.1)) q = some k):=zl7 k (by rw [List.length_map];exact hkl) HE.out (by rw [HNM.out,h2,h3];rfl)
     rw [h3] at qn
     generalize n.kind = kd at *
     generalize n.name = nm at *
     clear HE h3
     go_wp2
     go_ret
     rw [HX.out]
     exact ⟨rfl,rfl⟩
  ·have hke : k = ps.length:=by omega
   have HX : Hid (Tre.zei (ps.map (·.1)) q = none):=zl8 (fun i hi=>HE.out i (by rw [List.length_map] at hi;omega))
   go_wp2
   go_ret
   rw [HX.out]
   exact ⟨rfl,rfl⟩
end
end Go.Proofs.YtiodaahncadodaaGreatDoor
