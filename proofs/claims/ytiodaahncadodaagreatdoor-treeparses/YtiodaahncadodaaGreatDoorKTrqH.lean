/- The contract of the reference's start, where a node is laid. -/
import Derived.Test.YtiodaahncadodaaGreatDoorKTrqCG
import Derived.Test.YtiodaahncadodaaGreatDoorKTreM
set_option maxRecDepth 100000
set_option maxHeartbeats 8000000
set_option linter.unusedVariables false
set_option linter.unusedSimpArgs false
namespace Go.Proofs.YtiodaahncadodaaGreatDoor
open Go.RowKit
theorem zhV (w : World) (ty : TypeId) (B : Nat) (v : Value) (l : List (List UInt8)) (hown : zaG w B v l) (y : Value) (m : List (List UInt8)) (hy : zaw w y m) (hlen : l.length + m.length ≤ 1000000000) (hB : B ≤ w.heap.size) :
  ∃ v' w',(Builtin.append_ #[62,62] ty #[v,y]).run Tryz.prog w = .ok v' w' ∧ zaG w' B v' (l ++ m) ∧ w.grownBy w' v.ownBlock ∧ (v'.ownBlock = v.ownBlock ∨ v'.ownBlock = some w.heap.size):=by
 obtain ⟨i0,hi,hz0,hz1,hz2⟩:=info_parts info9
 have hfin : ∀ v' w',w'.ownsRow B 9 1 v' (l.length + m.length) (l.map zcf ++ m.map zcf) → zaG w' B v' (l ++ m):=by
  intro v' w' h
  unfold zaG
  rw [List.length_append,List.map_append]
  exact h
 rcases hy with ⟨ad,c,rfl,rfl⟩ | ⟨b,f,c,rfl,hc,hr⟩
 ·cases ad with
  | none =>
   refine ⟨v,w,?_,by rw [List.append_nil];exact hown,World.grownBy.refl _ _,.inl rfl⟩
   have ht:=Tryz.underlying62
   rcases hown.2 with ⟨rfl,hz⟩ | ⟨g,cap,cur,rfl,_,_,hnc,_⟩
   ·simp [Builtin.append_,run_underlying ht,sizeOf,typeInfo,hi,Builtin.lenOf,Builtin.firstCells]
   ·simp [Builtin.append_,run_underlying ht,sizeOf,typeInfo,hi,Builtin.lenOf,Builtin.firstCells,hnc,storeCells]
  | some ad =>
   obtain ⟨v',w',h1,h2,h3,_,h5⟩:=run_append_own_at (P:=Tryz.prog) w B 62 ty 9 i0 (.string ByteArray.empty) 1 16 Tryz.underlying62 hi hz0 hz1 hz2 rfl (by decide) v _ _ hown ad 0 c [] rfl (fun j u hj=>by simp at hj) (fun x hx=>by simp at hx) (by simp at hlen;unfold maxLen;omega) (by simp at hlen;omega) hB
   exact ⟨v',w',h1,hfin v' w' h2,h3,h5⟩
 ·obtain ⟨v',w',h1,h2,h3,_,h5⟩:=run_append_own_at (P:=Tryz.prog) w B 62 ty 9 i0 (.string ByteArray.empty) 1 16 Tryz.underlying62 hi hz0 hz1 hz2 rfl (by decide) v _ _ hown ⟨b,f,none⟩ m.length c (m.map zcf) (by rw [List.length_map,Nat.mul_one]) (fun j u hj=>by
   rw [zbt]
   rw [List.getElem?_map] at hj
   obtain ⟨x,hx,rfl⟩:=Option.map_eq_some_iff.1 hj
   exact hr j x hx) (fun u hu=>by
   obtain ⟨x,_,rfl⟩:=List.mem_map.1 hu
   rfl) (by unfold maxLen;omega) (by omega) hB
  exact ⟨v',w',h1,hfin v' w' h2,h3,h5⟩
theorem zfb {w : World} {ops : Array Oper} {rest : List Oper} {o : Oper} {a : Act} {Q : Exit → Act → World → Prop} (hgd : o.guard = none) (s x : Operand)
  (ho : o.op = .call { callee:=.builtin .append,args:=#[s,x],argTypes:=#[62,62] }) (B : Nat) (v : Value) (l : List (List UInt8)) (hs : a.eval s = v) (hown : zaG w B v l) (y : Value) (m : List (List UInt8)) (hx : a.eval x = y) (hy : zaw w y m) (hlen : l.length + m.length ≤ 1000000000) (hB : B ≤ w.heap.size)
  (h : ∀ v' w',zaG w' B v' (l ++ m) → w.grownBy w' v.ownBlock → (v'.ownBlock = v.ownBlock ∨ v'.ownBlock = some w.heap.size) → wpList Tryz.prog ops Q rest (a.put o.dst v') w') : wpList Tryz.prog ops Q (o :: rest) a w :=
 wpList_plain hgd fun K hK=>by
  obtain ⟨v',w',hr,h2,h3,h4⟩:=zhV w o.type B v l hown y m hy hlen hB
  unfold Oper.wp execOp
  simp only [ho,resolve,invoke,builtin,Sem.run_bind,Sem.run_pure,Result.andThen_ok,List.map_toArray,List.map_cons,List.map_nil,hs,hx,hr]
  exact hK _ _ (h v' w' h2 h3 h4)
theorem zha (ns : List Nd) (op : List Nat) (walls : List (List UInt8)) : ∀ k,Tre.zdw ns op [] walls k = op.length
 | 0=>rfl
 | 1=>rfl
 | k + 2=>by
  rw [Tre.zdw,if_neg (by simp)]
  split
  ·rfl
  ·exact zha ns op walls (k + 1)
theorem zjg (b : Tre.St) (walls : List (List UInt8)) : Tre.zsg b [] walls = b:=by
 unfold Tre.zsg
 rw [zha,List.take_length]
theorem zki (l : List UInt8) : (Tre.zgU l).1.length ≤ 2 ∧ (Tre.zgU l).2.length ≤ 6:=by
 unfold Tre.zgU
 repeat' split
 all_goals simp
theorem zo0 {l : List UInt8} (h : Tre.isHB l = true) : Tre.zgU l = ([],[]):=by
 rcases (Tre.isHB_iff l).1 h with rfl | rfl <;> decide +kernel
section
variable {w : World} {B bb : Nat} {nv ov : Value} {ps : List PN} {op : List Nat}
def LayTo (l : List UInt8) (np : Nat) : Except Nat Tre.St → Except Nat Tre.St
 | .error e=>.error e
 | .ok b2=>.ok (if Tre.zgS l = true then b2 else ⟨b2.nodes,b2.opn ++ [np]⟩)
theorem zkj {l : List UInt8} {ats : List Pr} (hf : Tre.zra (ps.map (·.1)) l = none) : Tre.ziI ⟨ps.map (·.1),op⟩ l ats = LayTo l ps.length (Tre.lay (Tre.zsg ⟨ps.map (·.1),op⟩ (Tre.zgU l).1 ((Tre.zgU l).2 ++ [Tre.body,Tre.zsh])) ⟨2,l,ats,[],0,[]⟩):=by
 unfold Tre.ziI
 simp only
 rw [hf]
 simp only [List.length_map]
 unfold LayTo
 split <;> rename_i e <;> rw [e]
theorem zhW {b : Tre.St} {n : Nd} {k : Nat} (h : Tre.lay b n = .error k) : k = 5 ∨ k = 8:=by
 unfold Tre.lay at h
 split at h
 ·cases h;exact .inl rfl
 ·split at h
  ·cases h;exact .inr rfl
  ·cases h
theorem zhX {b b2 : Tre.St} {n : Nd} (h : Tre.lay b n = .ok b2) : b2.opn = b.opn:=by
 obtain ⟨_,_,rfl⟩:=Tre.zgX h
 rfl
theorem zl9 {M : Nat} (h : QAt w B bb nv ov ps op) (hOk : Tre.Ok ⟨ps.map (·.1),op⟩ M) (kk : Int) (l : List UInt8) (ats : List Pr) (sf : Bool) (x : List UInt8) (aa : Option Addr) (ac : Nat) (hv : ∀ W,Below B w W → zar W (.slice aa ats.length ac) ats) (hats : ats.length ≤ 64) (hf : Tre.zra (ps.map (·.1)) l = none) :
  Calls Tryz.prog 26 #[.pointer (some ⟨bb,0,none⟩),zsd kk l (.slice aa ats.length ac) sf x] w (zgD B bb w (Tre.ziI ⟨ps.map (·.1),op⟩ l ats)):=by
 rw [zkj hf]
 have hlm : (ps.map (·.1)).length = ps.length:=List.length_map ..
 have hl:=hOk.len
 have ho:=hOk.op1
 have hin:=hOk.opin
 simp only [hlm] at hl ho hin
 have hBw : B ≤ w.heap.size:=Nat.le_trans h.bB (Nat.le_of_lt h.lt)
 have hlt:=h.lt
 have hnlt : ∀ k,nv.ownBlock = some k → k < w.heap.size:=fun k e=>(World.ownsRow.lt h.row k e).2
 obtain ⟨i0,hi0,hz0,hz1,hz2⟩:=info_parts info9
 have hcl:=zki l
 have hbw0 : Below w.heap.size w (w.alloc (.cells #[.int .i64 kk,.string (str l),.slice aa ats.length ac,.bool sf,.string (str x)] 48)):=(Below.refl _ w).alloc (Nat.le_refl _) _
 have htk0:=zaf w (.cells #[.int .i64 kk,.string (str l),.slice aa ats.length ac,.bool sf,.string (str x)] 48)
 have h0:=h.below hbw0
 obtain ⟨W0,hW0⟩ : ∃ W,w.alloc (.cells #[.int .i64 kk,.string (str l),.slice aa ats.length ac,.bool sf,.string (str x)] 48) = W:=⟨_,rfl⟩
 rw [hW0] at hbw0 htk0 h0
 have HW0:=zaa hW0
 obtain ⟨tb,htb⟩ : ∃ tb,w.heap.size = tb:=⟨_,rfl⟩
 rw [htb] at htk0
 have HTB:=zaa htb
 have cn0 : W0.cell? ⟨tb,1,none⟩ = some (.string (str l)):=Lib.cell_of_heap htk0 1
 have ca0 : W0.cell? ⟨tb,2,none⟩ = some (.slice aa ats.length ac):=Lib.cell_of_heap htk0 2
 have hsW0 : tb < W0.heap.size:=(Array.getElem?_eq_some_iff.1 htk0).1
 have hbtb : bb ≠ tb:=by omega
 have hntb : nv.ownBlock ≠ some tb:=fun e=>by have:=hnlt _ e;omega
 have hBtb : B ≤ tb:=by omega
 have HTK0:=zaa htk0
 have H0:=zaa h0
 have HBW0 : Hid (Below B w W0):=hbw0.mono hBw
 have HV:=zaa hv
 have HIN:=zaa hin
 have HOK:=zaa hOk
 have HN : Hid (nv.ownBlock ≠ some bb):=h.nof
 clear hW0 htb h hv h0 hbw0 htk0 hnlt hin hOk hlt
 by_cases hn : (Tre.zgU l).1 = []
 ·by_cases hb : Tre.isHB l = true
  ·have hfi : Tre.zei (ps.map (·.1)) l = none:=by
    unfold Tre.zra at hf
    rw [if_pos hb] at hf
    exact hf
   have HFI:=zaa (zje H0.out (by omega) (by omega) l)
   rw [hfi] at HFI
   have hcl1 : (Tre.zgU l).1.length = 0:=by rw [hn];rfl
   have e3 : Tre.zsg ⟨ps.map (·.1),op⟩ (Tre.zgU l).1 ((Tre.zgU l).2 ++ [Tre.body,Tre.zsh]) = ⟨ps.map (·.1),op⟩:=by rw [hn,zjg]
   rw [e3]
   obtain ⟨op3,hop3e⟩ : ∃ o,op = o:=⟨_,rfl⟩
   have hop3:=ho
   have HOK3:=HOK
   rw [hop3e] at hop3 HOK3 ⊢
   have H03:=H0
   rw [hop3e] at H03
   have HLE : Hid (∀ r,Tre.lay ⟨ps.map (·.1),op3⟩ (⟨2,l,ats,[],0,[]⟩ : Nd) = r → Tre.lay ⟨ps.map (·.1),op3⟩ (⟨2,l,ats,[],0,[]⟩ : Nd) = r):=fun _ h=>h
   clear e3 hop3e
   by_cases hh : l = Tre.zsh
   (have q1:=zag (l:=l) (m:=[104,116,109,108]) hh)
   rotate_left
   (have q1:=zai (l:=l) (m:=[104,116,109,108]) hh
    have q2:=zag (l:=l) (m:=[98,111,100,121]) (((Tre.isHB_iff l).1 hb).resolve_left hh))
   rotate_left
   all_goals
    clear hh hfi hf hb hn
    go_enter Tryz.func26,Tryz.ntmps26
    go_upto_region 1 with fail
    rw [HW0.out,HTB.out]
    go_upto_region 11 with (first | (go_at_call 56;refine HFI.out.mono ?_;rintro e w9 ⟨rfl,he⟩;rw [he];clear he) | (go_at_call 57;refine (zdU l _).mono ?_;rintro e w3 ⟨v1,v2,rfl,r1,r2,hb1⟩;obtain ⟨a1,d1,e1⟩:=ReadsTexts13.form r1;obtain ⟨a2,d2,e2⟩:=ReadsTexts13.form r2;subst e1 e2))
    have HTK3:=zaa ((hb1.block tb hsW0).trans HTK0.out)
    have H3:=zaa (H03.out.below hb1)
    have HB3:=zaa (HBW0.out.trans (hb1.mono (by omega)))
    rw [hcl1] at *
    clear r1 r2
    go_upto_region 13 with fail
    cases hlay : Tre.lay ⟨ps.map (·.1),op3⟩ (⟨2,l,ats,[],0,[]⟩ : Nd) with
    | error ek =>
     have hek : ((ek : Int) == 0) = false:=by
      rcases zhW hlay with h9 | h9 <;> rw [h9] <;> rfl
     obtain ⟨S,hS1⟩ : ∃ S : World → Prop,∀ W,S W ↔ (W.cell? ⟨tb,1,none⟩ = some (.string (str l)) ∧ W.cell? ⟨tb,2,none⟩ = some (.slice aa ats.length ac)):=⟨_,fun _=>Iff.rfl⟩
     refine wp_region_held_drew (S:=S) (by kernel_rfl) ((hS1 _).2 ⟨Lib.cell_of_heap HTK3.out 1,Lib.cell_of_heap HTK3.out 2⟩) (fun hS=>?_)
     have hdr : Below w3.heap.size w3 w3.drew:=(Below.refl _ _).drew
     have hX:=H3.out.below hdr
     have hBX:=HB3.out.trans ((Below.refl B w3).drew)
     have htkX : w3.drew.heap[tb]? = _:=HTK3.out
     have hsX : tb < w3.drew.heap.size:=(Array.getElem?_eq_some_iff.1 htkX).1
     generalize w3.drew = X at *
     refine zab 0 99 (.pointer (some ⟨bb,0,none⟩)) rfl rfl (by kernel_rfl) (by kernel_rfl) (by kernel_rfl) (fun _ _ _ h=>h) (Or.inl ⟨by kernel_rfl,fun W _=>by go_simp⟩) hS ?_
     simp only [Act.put,List.setIfInBounds_toArray,List.set_cons_zero,List.set_cons_succ]
     refine zab 1 100 (.pointer (some ⟨tb,1,none⟩)) rfl rfl (by kernel_rfl) (by kernel_rfl) (by kernel_rfl) (fun _ _ _ h=>h) (Or.inl ⟨by kernel_rfl,fun W _=>by go_simp⟩) hS ?_
     simp only [Act.put,List.setIfInBounds_toArray,List.set_cons_zero,List.set_cons_succ]
     refine zab 2 101 (.string (str l)) rfl rfl (by kernel_rfl) (by kernel_rfl) (by kernel_rfl) (fun _ _ _ h=>h) (Or.inl ⟨by kernel_rfl,fun W hW=>by have hc:=(((hS1 W).1 hW).1);go_simp⟩) hS ?_
     simp only [Act.put,List.setIfInBounds_toArray,List.set_cons_zero,List.set_cons_succ]
     refine zab 3 102 (.pointer (some ⟨tb,2,none⟩)) rfl rfl (by kernel_rfl) (by kernel_rfl) (by kernel_rfl) (fun _ _ _ h=>h) (Or.inl ⟨by kernel_rfl,fun W _=>by go_simp⟩) hS ?_
     simp only [Act.put,List.setIfInBounds_toArray,List.set_cons_zero,List.set_cons_succ]
     refine zab 4 103 (.slice aa ats.length ac) rfl rfl (by kernel_rfl) (by kernel_rfl) (by kernel_rfl) (fun _ _ _ h=>h) (Or.inl ⟨by kernel_rfl,fun W hW=>by have hc:=(((hS1 W).1 hW).2);go_simp⟩) hS ?_
     simp only [Act.put,List.setIfInBounds_toArray,List.set_cons_zero,List.set_cons_succ]
     refine wpAnyH_ready (rs:=[5]) (by kernel_rfl) (by simp) ?_
     refine AllReadyH.cons rfl (fun K hK=>?_) AllReadyH.nil
     refine zaO rfl (.const (.slice none 0 0)) (.tmp 103) rfl B (.slice none 0 0) [] (by kernel_rfl) (zbd.nil _ _ _) (.slice aa ats.length ac) ats (by kernel_rfl) (HV.out _ hBX) (by simp;omega) (by omega) ?_
     intro v5 w5 h5 g5 hat5
     have hb5:=za1 g5
     have hf5 : ∀ k,v5.ownBlock = some k → X.heap.size ≤ k:=fun k e=>by
      rcases hat5 with h9 | h9
      ·rw [h9] at e
       cases e
      ·rw [h9] at e
       cases e
       exact Nat.le_refl _
     obtain ⟨xa5,xc5,e5⟩:=(zbd.reads h5).form
     rw [List.nil_append] at e5 h5
     subst e5
     have htk5:=(hb5.block tb hsX).trans htkX
     have hB5:=hBX.trans (hb5.mono (by omega))
     have hQ5:=hX.below hb5
     have hs5:=Nat.lt_of_lt_of_le hsX hb5.size
     refine hK.out _ _ ((hS1 _).2 ⟨Lib.cell_of_heap htk5 1,Lib.cell_of_heap htk5 2⟩) (fun hS=>?_)
     clear hK K
     refine zab 6 105 (zk1 ⟨2,l,ats,[],0,[]⟩ xa5 xc5) rfl rfl (by kernel_rfl) (by kernel_rfl) (by kernel_rfl) (fun _ _ _ h=>h) (Or.inl ⟨by kernel_rfl,fun W _=>by go_simp;rfl⟩) hS ?_
     simp only [Act.put,List.setIfInBounds_toArray,List.set_cons_zero,List.set_cons_succ]
     refine wpAnyH_ready (rs:=[7]) (by kernel_rfl) (by simp) ?_
     refine AllReadyH.cons rfl (fun K hK=>?_) AllReadyH.nil
     have hLay:=zcR hQ5 HOK3.out ⟨2,l,ats,[],0,[]⟩ rfl xa5 xc5 h5 (fun e=>by have:=hf5 _ e;have:=hX.lt;omega) (fun k e1 e2=>by have h8:=hf5 k e1;have h9:=(World.ownsRow.lt hX.row k e2).2;omega)
     rw [hlay] at hLay
     go_simp
     refine hLay.mono ?_
     rintro e w6 ⟨rfl,hkq,hp⟩
     have htk6:=(hkq tb hs5 (fun e=>hbtb e.symm) hntb).trans htk5
     refine hK.out _ _ ((hS1 _).2 ⟨Lib.cell_of_heap htk6 1,Lib.cell_of_heap htk6 2⟩) (fun hS=>?_)
     clear hK K
     refine zab 8 98 (.tuple #[.int .i64 0,.int .i64 (ek : Int)]) rfl rfl (by kernel_rfl) (by kernel_rfl) (by kernel_rfl) (fun _ _ _ h=>h) (Or.inl ⟨by kernel_rfl,fun W _=>by go_simp⟩) hS ?_
     simp only [Act.put,List.setIfInBounds_toArray,List.set_cons_zero,List.set_cons_succ]
     refine zab 9 107 (.int .i64 0) rfl rfl (by kernel_rfl) (by kernel_rfl) (by kernel_rfl) (fun _ _ _ h=>h) (Or.inl ⟨by kernel_rfl,fun W _=>by go_simp⟩) hS ?_
     simp only [Act.put,List.setIfInBounds_toArray,List.set_cons_zero,List.set_cons_succ]
     refine zab 10 108 (.int .i64 (ek : Int)) rfl rfl (by kernel_rfl) (by kernel_rfl) (by kernel_rfl) (fun _ _ _ h=>h) (Or.inl ⟨by kernel_rfl,fun W _=>by go_simp⟩) hS ?_
     simp only [Act.put,List.setIfInBounds_toArray,List.set_cons_zero,List.set_cons_succ]
     refine zab 11 9 (.int .i64 0) rfl rfl (by kernel_rfl) (by kernel_rfl) (by kernel_rfl) (fun _ _ _ h=>h) (Or.inl ⟨by kernel_rfl,fun W _=>by go_simp⟩) hS ?_
     simp only [Act.put,List.setIfInBounds_toArray,List.set_cons_zero,List.set_cons_succ]
     refine zab 12 10 (.int .i64 (ek : Int)) rfl rfl (by kernel_rfl) (by kernel_rfl) (by kernel_rfl) (fun _ _ _ h=>h) (Or.inl ⟨by kernel_rfl,fun W _=>by go_simp⟩) hS ?_
     simp only [Act.put,List.setIfInBounds_toArray,List.set_cons_zero,List.set_cons_succ]
     refine wpAnyH_done (by kernel_rfl) ?_ _
     have HLY:=zaa (HLE.out _ hlay)
     clear hLay hlay
     go_wp2
     go_ret
     rw [HLY.out]
     exact ⟨rfl,hB5.trans hp⟩
    | ok b2 =>
     obtain ⟨S,hS1⟩ : ∃ S : World → Prop,∀ W,S W ↔ (W.cell? ⟨tb,1,none⟩ = some (.string (str l)) ∧ W.cell? ⟨tb,2,none⟩ = some (.slice aa ats.length ac)):=⟨_,fun _=>Iff.rfl⟩
     refine wp_region_held_drew (S:=S) (by kernel_rfl) ((hS1 _).2 ⟨Lib.cell_of_heap HTK3.out 1,Lib.cell_of_heap HTK3.out 2⟩) (fun hS=>?_)
     have hdr : Below w3.heap.size w3 w3.drew:=(Below.refl _ _).drew
     have hX:=H3.out.below hdr
     have hBX:=HB3.out.trans ((Below.refl B w3).drew)
     have htkX : w3.drew.heap[tb]? = _:=HTK3.out
     have hsX : tb < w3.drew.heap.size:=(Array.getElem?_eq_some_iff.1 htkX).1
     generalize w3.drew = X at *
     refine zab 0 99 (.pointer (some ⟨bb,0,none⟩)) rfl rfl (by kernel_rfl) (by kernel_rfl) (by kernel_rfl) (fun _ _ _ h=>h) (Or.inl ⟨by kernel_rfl,fun W _=>by go_simp⟩) hS ?_
     simp only [Act.put,List.setIfInBounds_toArray,List.set_cons_zero,List.set_cons_succ]
     refine zab 1 100 (.pointer (some ⟨tb,1,none⟩)) rfl rfl (by kernel_rfl) (by kernel_rfl) (by kernel_rfl) (fun _ _ _ h=>h) (Or.inl ⟨by kernel_rfl,fun W _=>by go_simp⟩) hS ?_
     simp only [Act.put,List.setIfInBounds_toArray,List.set_cons_zero,List.set_cons_succ]
     refine zab 2 101 (.string (str l)) rfl rfl (by kernel_rfl) (by kernel_rfl) (by kernel_rfl) (fun _ _ _ h=>h) (Or.inl ⟨by kernel_rfl,fun W hW=>by have hc:=(((hS1 W).1 hW).1);go_simp⟩) hS ?_
     simp only [Act.put,List.setIfInBounds_toArray,List.set_cons_zero,List.set_cons_succ]
     refine zab 3 102 (.pointer (some ⟨tb,2,none⟩)) rfl rfl (by kernel_rfl) (by kernel_rfl) (by kernel_rfl) (fun _ _ _ h=>h) (Or.inl ⟨by kernel_rfl,fun W _=>by go_simp⟩) hS ?_
     simp only [Act.put,List.setIfInBounds_toArray,List.set_cons_zero,List.set_cons_succ]
     refine zab 4 103 (.slice aa ats.length ac) rfl rfl (by kernel_rfl) (by kernel_rfl) (by kernel_rfl) (fun _ _ _ h=>h) (Or.inl ⟨by kernel_rfl,fun W hW=>by have hc:=(((hS1 W).1 hW).2);go_simp⟩) hS ?_
     simp only [Act.put,List.setIfInBounds_toArray,List.set_cons_zero,List.set_cons_succ]
     refine wpAnyH_ready (rs:=[5]) (by kernel_rfl) (by simp) ?_
     refine AllReadyH.cons rfl (fun K hK=>?_) AllReadyH.nil
     refine zaO rfl (.const (.slice none 0 0)) (.tmp 103) rfl B (.slice none 0 0) [] (by kernel_rfl) (zbd.nil _ _ _) (.slice aa ats.length ac) ats (by kernel_rfl) (HV.out _ hBX) (by simp;omega) (by omega) ?_
     intro v5 w5 h5 g5 hat5
     have hb5:=za1 g5
     have hf5 : ∀ k,v5.ownBlock = some k → X.heap.size ≤ k:=fun k e=>by
      rcases hat5 with h9 | h9
      ·rw [h9] at e
       cases e
      ·rw [h9] at e
       cases e
       exact Nat.le_refl _
     obtain ⟨xa5,xc5,e5⟩:=(zbd.reads h5).form
     rw [List.nil_append] at e5 h5
     subst e5
     have htk5:=(hb5.block tb hsX).trans htkX
     have hB5:=hBX.trans (hb5.mono (by omega))
     have hQ5:=hX.below hb5
     have hs5:=Nat.lt_of_lt_of_le hsX hb5.size
     refine hK.out _ _ ((hS1 _).2 ⟨Lib.cell_of_heap htk5 1,Lib.cell_of_heap htk5 2⟩) (fun hS=>?_)
     clear hK K
     refine zab 6 105 (zk1 ⟨2,l,ats,[],0,[]⟩ xa5 xc5) rfl rfl (by kernel_rfl) (by kernel_rfl) (by kernel_rfl) (fun _ _ _ h=>h) (Or.inl ⟨by kernel_rfl,fun W _=>by go_simp;rfl⟩) hS ?_
     simp only [Act.put,List.setIfInBounds_toArray,List.set_cons_zero,List.set_cons_succ]
     refine wpAnyH_ready (rs:=[7]) (by kernel_rfl) (by simp) ?_
     refine AllReadyH.cons rfl (fun K hK=>?_) AllReadyH.nil
     have hLay:=zcR hQ5 HOK3.out ⟨2,l,ats,[],0,[]⟩ rfl xa5 xc5 h5 (fun e=>by have:=hf5 _ e;have:=hX.lt;omega) (fun k e1 e2=>by have h8:=hf5 k e1;have h9:=(World.ownsRow.lt hX.row k e2).2;omega)
     rw [hlay] at hLay
     go_simp
     refine hLay.mono ?_
     rintro e w6 ⟨rfl,hkq,hp⟩
     have htk6:=(hkq tb hs5 (fun e=>hbtb e.symm) hntb).trans htk5
     refine hK.out _ _ ((hS1 _).2 ⟨Lib.cell_of_heap htk6 1,Lib.cell_of_heap htk6 2⟩) (fun hS=>?_)
     clear hK K
     refine zab 8 98 (.tuple #[.int .i64 (ps.length : Int),.int .i64 0]) rfl rfl (by kernel_rfl) (by kernel_rfl) (by kernel_rfl) (fun _ _ _ h=>h) (Or.inl ⟨by kernel_rfl,fun W _=>by go_simp⟩) hS ?_
     simp only [Act.put,List.setIfInBounds_toArray,List.set_cons_zero,List.set_cons_succ]
     refine zab 9 107 (.int .i64 (ps.length : Int)) rfl rfl (by kernel_rfl) (by kernel_rfl) (by kernel_rfl) (fun _ _ _ h=>h) (Or.inl ⟨by kernel_rfl,fun W _=>by go_simp⟩) hS ?_
     simp only [Act.put,List.setIfInBounds_toArray,List.set_cons_zero,List.set_cons_succ]
     refine zab 10 108 (.int .i64 0) rfl rfl (by kernel_rfl) (by kernel_rfl) (by kernel_rfl) (fun _ _ _ h=>h) (Or.inl ⟨by kernel_rfl,fun W _=>by go_simp⟩) hS ?_
     simp only [Act.put,List.setIfInBounds_toArray,List.set_cons_zero,List.set_cons_succ]
     refine zab 11 9 (.int .i64 (ps.length : Int)) rfl rfl (by kernel_rfl) (by kernel_rfl) (by kernel_rfl) (fun _ _ _ h=>h) (Or.inl ⟨by kernel_rfl,fun W _=>by go_simp⟩) hS ?_
     simp only [Act.put,List.setIfInBounds_toArray,List.set_cons_zero,List.set_cons_succ]
     refine zab 12 10 (.int .i64 0) rfl rfl (by kernel_rfl) (by kernel_rfl) (by kernel_rfl) (fun _ _ _ h=>h) (Or.inl ⟨by kernel_rfl,fun W _=>by go_simp⟩) hS ?_
     simp only [Act.put,List.setIfInBounds_toArray,List.set_cons_zero,List.set_cons_succ]
     refine wpAnyH_done (by kernel_rfl) ?_ _
     have hopn:=zhX hlay
     have HLY:=zaa (HLE.out _ hlay)
     clear hLay hlay
     have cn6 : w6.cell? ⟨tb,1,none⟩ = some (.string (str l)):=Lib.cell_of_heap htk6 1
     have HVo:=zaa (fun W=>zdT l W)
     have HP:=zaa hp
     have HB5:=zaa hB5
     clear hp hS hS1 hQ5 h5 g5 hat5 hf5 hb5 hX hBX htkX htk5 htk6 hkq hB5 hdr
     cases hvd : Tre.zgS l
     ·rw [hvd] at HVo
      go_upto_region 15 with (go_at_call 59;refine (HVo.out _).mono ?_;rintro e w7 ⟨rfl,hb7⟩)
      obtain ⟨nv6,ov6,ps6,hQ6,hps6,hB6⟩:=HP.out
      have hQ7:=hQ6.below hb7
      have hop6 : 1 ≤ b2.opn.length:=by rw [hopn];exact hop3.1
      have hop6b : b2.opn.length ≤ 65:=by rw [hopn];exact hop3.2
      have hB7 : Below B w w7:=(HB5.out.trans hB6).trans (hb7.mono (by have:=hQ6.bB;have:=hQ6.lt;omega))
      obtain ⟨go6,co6,rfl,hco6,_,_⟩:=hQ7.oform hop6
      have c16 : w7.cell? ⟨bb,1,none⟩ = some (.slice (some ⟨go6,0,none⟩) b2.opn.length co6):=Lib.cell_of_heap hQ7.blk 1
      have f16 : w7.frozen? ⟨bb,1,none⟩ = false:=Lib.frozen_of_heap hQ7.blk 1
      have hbl7:=hQ7.lt
      have HQ7:=zaa hQ7
      have HO7:=zaa (za6.reads hQ7.opn)
      have hBb7 : B ≤ w7.heap.size:=Nat.le_trans hQ7.bB (Nat.le_of_lt hbl7)
      have HBW7:=zaa hB7
      have hol : (b2.opn.map fun x : Nat=>(x : Int)).length = b2.opn.length:=List.length_map ..
      clear hQ6 hQ7 hB6 hopn hB7
      go_wp2_with (first
       | (at_builtin;refine zbC rfl (.const (.slice none 0 0)) (.tmp 121) rfl B (.slice none 0 0) [] rfl (za6.nil _ _) (.slice (some ⟨go6,0,none⟩) b2.opn.length co6) _ rfl HO7.out (by simp;omega) hBb7 ?_;intro v8 w8 h8 g8 hat8;obtain ⟨xa8,xc8,e8⟩:=(za6.reads h8).form;rw [List.nil_append] at h8 e8;rw [hol] at e8;subst e8;have hb8:=za1 g8;have H8:=zaa h8;have HB8:=zaa hb8;have HF8 : Hid (∀ k,(Value.slice xa8 b2.opn.length xc8).ownBlock = some k → w7.heap.size ≤ k):=(fun k e=>by rcases hat8 with h9 | h9 <;> rw [h9] at e <;> cases e;exact Nat.le_refl _);have hA8 : Below w8.heap.size w8 (w8.alloc (.cells #[.int .i64 (ps.length : Int)] 3)):=(Below.refl _ _).alloc (Nat.le_refl _) _;have cA:=Lib.cell_of_heap (zaf w8 (.cells #[.int .i64 (ps.length : Int)] 3)) 0;have H8A:=zaa (zae h8 (fun k e hl=>hA8.block k hl));have hs8:=hb8.size;clear h8 g8 hat8 hb8)
       | (at_builtin;refine zbe rfl (.tmp 122) (.tmp 124) rfl B (.slice xa8 b2.opn.length xc8) (b2.opn.map fun x : Nat=>(x : Int)) rfl H8A.out w8.heap.size 1 rfl (ps.length : Int) cA (by rw [hol];omega) (Nat.le_trans hBb7 (by simp;omega)) ?_;intro v9 w9 h9 g9 hat9;obtain ⟨xa9,xc9,e9⟩:=(za6.reads h9).form;rw [List.length_append,hol,List.length_singleton] at e9;subst e9;have hb9 : Below w7.heap.size w7 w9:=(HB8.out.trans (hA8.mono HB8.out.size)).trans ⟨g9.os,g9.tape,g9.output,g9.size,fun k hk=>g9.block k (by simp;omega) (fun e=>by have:=HF8.out k e.symm;omega)⟩;have c19:=(hb9.cell (p:=⟨bb,1,none⟩) hbl7).trans c16;have f19:=(hb9.frozen (p:=⟨bb,1,none⟩) hbl7).trans f16;have HF9 : Hid (∀ k,(Value.slice xa9 (b2.opn.length + 1) xc9).ownBlock = some k → w7.heap.size ≤ k):=(fun k e=>by rcases hat9 with h2 | h2 <;> rw [h2] at e;exact HF8.out k e;cases e;simp;omega);have H9:=zaa h9;have HB9:=zaa hb9;clear h9 g9 hat9 hb9))
      go_ret
      have hQ9:=HQ7.out.below HB9.out
      have hO:=hQ9.open' (ov':=.slice xa9 (b2.opn.length + 1) xc9) (op':=b2.opn ++ [ps.length]) (by rw [List.map_append];exact H9.out) (fun j e1 e2=>by have h8:=HF9.out j e1;have h9:=(World.ownsRow.lt HQ7.out.row j e2).2;omega) (fun e=>by have:=HF9.out _ e;omega)
      rw [HLY.out]
      show zgD B bb w (.ok (if Tre.zgS l = true then b2 else ⟨b2.nodes,b2.opn ++ [ps.length]⟩)) _ _
      rw [if_neg (by rw [hvd];simp)]
      exact ⟨rfl,_,_,ps6,hO.1,hps6,(HBW7.out.trans (HB9.out.mono hBb7)).trans hO.2⟩
     ·rw [hvd] at HVo
      go_wp2_with (go_at_call 59;refine (HVo.out _).mono ?_;rintro e w7 ⟨rfl,hb7⟩)
      go_ret
      obtain ⟨nv6,ov6,ps6,hQ6,hps6,hB6⟩:=HP.out
      rw [HLY.out]
      show zgD B bb w (.ok (if Tre.zgS l = true then b2 else ⟨b2.nodes,b2.opn ++ [ps.length]⟩)) _ _
      rw [if_pos hvd]
      exact ⟨rfl,_,_,ps6,hQ6.below hb7,hps6,(HB5.out.trans hB6).trans (hb7.mono (by have:=hQ6.bB;have:=hQ6.lt;omega))⟩
  ·have q1:=zai (l:=l) (m:=[104,116,109,108]) (fun e=>hb ((Tre.isHB_iff l).2 (.inl e)))
   have q2:=zai (l:=l) (m:=[98,111,100,121]) (fun e=>hb ((Tre.isHB_iff l).2 (.inr e)))
   have hcl1 : (Tre.zgU l).1.length = 0:=by rw [hn];rfl
   have e3 : Tre.zsg ⟨ps.map (·.1),op⟩ (Tre.zgU l).1 ((Tre.zgU l).2 ++ [Tre.body,Tre.zsh]) = ⟨ps.map (·.1),op⟩:=by rw [hn,zjg]
   rw [e3]
   obtain ⟨op3,hop3e⟩ : ∃ o,op = o:=⟨_,rfl⟩
   have hop3:=ho
   have HOK3:=HOK
   rw [hop3e] at hop3 HOK3 ⊢
   have H03:=H0
   rw [hop3e] at H03
   have HLE : Hid (∀ r,Tre.lay ⟨ps.map (·.1),op3⟩ (⟨2,l,ats,[],0,[]⟩ : Nd) = r → Tre.lay ⟨ps.map (·.1),op3⟩ (⟨2,l,ats,[],0,[]⟩ : Nd) = r):=fun _ h=>h
   clear e3 hop3e
   clear hb hf hn
   go_enter Tryz.func26,Tryz.ntmps26
   go_upto_region 1 with fail
   rw [HW0.out,HTB.out]
   go_upto_region 11 with (go_at_call 57;refine (zdU l _).mono ?_;rintro e w3 ⟨v1,v2,rfl,r1,r2,hb1⟩;obtain ⟨a1,d1,e1⟩:=ReadsTexts13.form r1;obtain ⟨a2,d2,e2⟩:=ReadsTexts13.form r2;subst e1 e2)
   have HTK3:=zaa ((hb1.block tb hsW0).trans HTK0.out)
   have H3:=zaa (H03.out.below hb1)
   have HB3:=zaa (HBW0.out.trans (hb1.mono (by omega)))
   rw [hcl1] at *
   clear r1 r2
   go_upto_region 13 with fail
   cases hlay : Tre.lay ⟨ps.map (·.1),op3⟩ (⟨2,l,ats,[],0,[]⟩ : Nd) with
   | error ek =>
    have hek : ((ek : Int) == 0) = false:=by
     rcases zhW hlay with h9 | h9 <;> rw [h9] <;> rfl
    obtain ⟨S,hS1⟩ : ∃ S : World → Prop,∀ W,S W ↔ (W.cell? ⟨tb,1,none⟩ = some (.string (str l)) ∧ W.cell? ⟨tb,2,none⟩ = some (.slice aa ats.length ac)):=⟨_,fun _=>Iff.rfl⟩
    refine wp_region_held_drew (S:=S) (by kernel_rfl) ((hS1 _).2 ⟨Lib.cell_of_heap HTK3.out 1,Lib.cell_of_heap HTK3.out 2⟩) (fun hS=>?_)
    have hdr : Below w3.heap.size w3 w3.drew:=(Below.refl _ _).drew
    have hX:=H3.out.below hdr
    have hBX:=HB3.out.trans ((Below.refl B w3).drew)
    have htkX : w3.drew.heap[tb]? = _:=HTK3.out
    have hsX : tb < w3.drew.heap.size:=(Array.getElem?_eq_some_iff.1 htkX).1
    generalize w3.drew = X at *
    refine zab 0 99 (.pointer (some ⟨bb,0,none⟩)) rfl rfl (by kernel_rfl) (by kernel_rfl) (by kernel_rfl) (fun _ _ _ h=>h) (Or.inl ⟨by kernel_rfl,fun W _=>by go_simp⟩) hS ?_
    simp only [Act.put,List.setIfInBounds_toArray,List.set_cons_zero,List.set_cons_succ]
    refine zab 1 100 (.pointer (some ⟨tb,1,none⟩)) rfl rfl (by kernel_rfl) (by kernel_rfl) (by kernel_rfl) (fun _ _ _ h=>h) (Or.inl ⟨by kernel_rfl,fun W _=>by go_simp⟩) hS ?_
    simp only [Act.put,List.setIfInBounds_toArray,List.set_cons_zero,List.set_cons_succ]
    refine zab 2 101 (.string (str l)) rfl rfl (by kernel_rfl) (by kernel_rfl) (by kernel_rfl) (fun _ _ _ h=>h) (Or.inl ⟨by kernel_rfl,fun W hW=>by have hc:=(((hS1 W).1 hW).1);go_simp⟩) hS ?_
    simp only [Act.put,List.setIfInBounds_toArray,List.set_cons_zero,List.set_cons_succ]
    refine zab 3 102 (.pointer (some ⟨tb,2,none⟩)) rfl rfl (by kernel_rfl) (by kernel_rfl) (by kernel_rfl) (fun _ _ _ h=>h) (Or.inl ⟨by kernel_rfl,fun W _=>by go_simp⟩) hS ?_
    simp only [Act.put,List.setIfInBounds_toArray,List.set_cons_zero,List.set_cons_succ]
    refine zab 4 103 (.slice aa ats.length ac) rfl rfl (by kernel_rfl) (by kernel_rfl) (by kernel_rfl) (fun _ _ _ h=>h) (Or.inl ⟨by kernel_rfl,fun W hW=>by have hc:=(((hS1 W).1 hW).2);go_simp⟩) hS ?_
    simp only [Act.put,List.setIfInBounds_toArray,List.set_cons_zero,List.set_cons_succ]
    refine wpAnyH_ready (rs:=[5]) (by kernel_rfl) (by simp) ?_
    refine AllReadyH.cons rfl (fun K hK=>?_) AllReadyH.nil
    refine zaO rfl (.const (.slice none 0 0)) (.tmp 103) rfl B (.slice none 0 0) [] (by kernel_rfl) (zbd.nil _ _ _) (.slice aa ats.length ac) ats (by kernel_rfl) (HV.out _ hBX) (by simp;omega) (by omega) ?_
    intro v5 w5 h5 g5 hat5
    have hb5:=za1 g5
    have hf5 : ∀ k,v5.ownBlock = some k → X.heap.size ≤ k:=fun k e=>by
     rcases hat5 with h9 | h9
     ·rw [h9] at e
      cases e
     ·rw [h9] at e
      cases e
      exact Nat.le_refl _
    obtain ⟨xa5,xc5,e5⟩:=(zbd.reads h5).form
    rw [List.nil_append] at e5 h5
    subst e5
    have htk5:=(hb5.block tb hsX).trans htkX
    have hB5:=hBX.trans (hb5.mono (by omega))
    have hQ5:=hX.below hb5
    have hs5:=Nat.lt_of_lt_of_le hsX hb5.size
    refine hK.out _ _ ((hS1 _).2 ⟨Lib.cell_of_heap htk5 1,Lib.cell_of_heap htk5 2⟩) (fun hS=>?_)
    clear hK K
    refine zab 6 105 (zk1 ⟨2,l,ats,[],0,[]⟩ xa5 xc5) rfl rfl (by kernel_rfl) (by kernel_rfl) (by kernel_rfl) (fun _ _ _ h=>h) (Or.inl ⟨by kernel_rfl,fun W _=>by go_simp;rfl⟩) hS ?_
    simp only [Act.put,List.setIfInBounds_toArray,List.set_cons_zero,List.set_cons_succ]
    refine wpAnyH_ready (rs:=[7]) (by kernel_rfl) (by simp) ?_
    refine AllReadyH.cons rfl (fun K hK=>?_) AllReadyH.nil
    have hLay:=zcR hQ5 HOK3.out ⟨2,l,ats,[],0,[]⟩ rfl xa5 xc5 h5 (fun e=>by have:=hf5 _ e;have:=hX.lt;omega) (fun k e1 e2=>by have h8:=hf5 k e1;have h9:=(World.ownsRow.lt hX.row k e2).2;omega)
    rw [hlay] at hLay
    go_simp
    refine hLay.mono ?_
    rintro e w6 ⟨rfl,hkq,hp⟩
    have htk6:=(hkq tb hs5 (fun e=>hbtb e.symm) hntb).trans htk5
    refine hK.out _ _ ((hS1 _).2 ⟨Lib.cell_of_heap htk6 1,Lib.cell_of_heap htk6 2⟩) (fun hS=>?_)
    clear hK K
    refine zab 8 98 (.tuple #[.int .i64 0,.int .i64 (ek : Int)]) rfl rfl (by kernel_rfl) (by kernel_rfl) (by kernel_rfl) (fun _ _ _ h=>h) (Or.inl ⟨by kernel_rfl,fun W _=>by go_simp⟩) hS ?_
    simp only [Act.put,List.setIfInBounds_toArray,List.set_cons_zero,List.set_cons_succ]
    refine zab 9 107 (.int .i64 0) rfl rfl (by kernel_rfl) (by kernel_rfl) (by kernel_rfl) (fun _ _ _ h=>h) (Or.inl ⟨by kernel_rfl,fun W _=>by go_simp⟩) hS ?_
    simp only [Act.put,List.setIfInBounds_toArray,List.set_cons_zero,List.set_cons_succ]
    refine zab 10 108 (.int .i64 (ek : Int)) rfl rfl (by kernel_rfl) (by kernel_rfl) (by kernel_rfl) (fun _ _ _ h=>h) (Or.inl ⟨by kernel_rfl,fun W _=>by go_simp⟩) hS ?_
    simp only [Act.put,List.setIfInBounds_toArray,List.set_cons_zero,List.set_cons_succ]
    refine zab 11 9 (.int .i64 0) rfl rfl (by kernel_rfl) (by kernel_rfl) (by kernel_rfl) (fun _ _ _ h=>h) (Or.inl ⟨by kernel_rfl,fun W _=>by go_simp⟩) hS ?_
    simp only [Act.put,List.setIfInBounds_toArray,List.set_cons_zero,List.set_cons_succ]
    refine zab 12 10 (.int .i64 (ek : Int)) rfl rfl (by kernel_rfl) (by kernel_rfl) (by kernel_rfl) (fun _ _ _ h=>h) (Or.inl ⟨by kernel_rfl,fun W _=>by go_simp⟩) hS ?_
    simp only [Act.put,List.setIfInBounds_toArray,List.set_cons_zero,List.set_cons_succ]
    refine wpAnyH_done (by kernel_rfl) ?_ _
    have HLY:=zaa (HLE.out _ hlay)
    clear hLay hlay
    go_wp2
    go_ret
    rw [HLY.out]
    exact ⟨rfl,hB5.trans hp⟩
   | ok b2 =>
    obtain ⟨S,hS1⟩ : ∃ S : World → Prop,∀ W,S W ↔ (W.cell? ⟨tb,1,none⟩ = some (.string (str l)) ∧ W.cell? ⟨tb,2,none⟩ = some (.slice aa ats.length ac)):=⟨_,fun _=>Iff.rfl⟩
    refine wp_region_held_drew (S:=S) (by kernel_rfl) ((hS1 _).2 ⟨Lib.cell_of_heap HTK3.out 1,Lib.cell_of_heap HTK3.out 2⟩) (fun hS=>?_)
    have hdr : Below w3.heap.size w3 w3.drew:=(Below.refl _ _).drew
    have hX:=H3.out.below hdr
    have hBX:=HB3.out.trans ((Below.refl B w3).drew)
    have htkX : w3.drew.heap[tb]? = _:=HTK3.out
    have hsX : tb < w3.drew.heap.size:=(Array.getElem?_eq_some_iff.1 htkX).1
    generalize w3.drew = X at *
    refine zab 0 99 (.pointer (some ⟨bb,0,none⟩)) rfl rfl (by kernel_rfl) (by kernel_rfl) (by kernel_rfl) (fun _ _ _ h=>h) (Or.inl ⟨by kernel_rfl,fun W _=>by go_simp⟩) hS ?_
    simp only [Act.put,List.setIfInBounds_toArray,List.set_cons_zero,List.set_cons_succ]
    refine zab 1 100 (.pointer (some ⟨tb,1,none⟩)) rfl rfl (by kernel_rfl) (by kernel_rfl) (by kernel_rfl) (fun _ _ _ h=>h) (Or.inl ⟨by kernel_rfl,fun W _=>by go_simp⟩) hS ?_
    simp only [Act.put,List.setIfInBounds_toArray,List.set_cons_zero,List.set_cons_succ]
    refine zab 2 101 (.string (str l)) rfl rfl (by kernel_rfl) (by kernel_rfl) (by kernel_rfl) (fun _ _ _ h=>h) (Or.inl ⟨by kernel_rfl,fun W hW=>by have hc:=(((hS1 W).1 hW).1);go_simp⟩) hS ?_
    simp only [Act.put,List.setIfInBounds_toArray,List.set_cons_zero,List.set_cons_succ]
    refine zab 3 102 (.pointer (some ⟨tb,2,none⟩)) rfl rfl (by kernel_rfl) (by kernel_rfl) (by kernel_rfl) (fun _ _ _ h=>h) (Or.inl ⟨by kernel_rfl,fun W _=>by go_simp⟩) hS ?_
    simp only [Act.put,List.setIfInBounds_toArray,List.set_cons_zero,List.set_cons_succ]
    refine zab 4 103 (.slice aa ats.length ac) rfl rfl (by kernel_rfl) (by kernel_rfl) (by kernel_rfl) (fun _ _ _ h=>h) (Or.inl ⟨by kernel_rfl,fun W hW=>by have hc:=(((hS1 W).1 hW).2);go_simp⟩) hS ?_
    simp only [Act.put,List.setIfInBounds_toArray,List.set_cons_zero,List.set_cons_succ]
    refine wpAnyH_ready (rs:=[5]) (by kernel_rfl) (by simp) ?_
    refine AllReadyH.cons rfl (fun K hK=>?_) AllReadyH.nil
    refine zaO rfl (.const (.slice none 0 0)) (.tmp 103) rfl B (.slice none 0 0) [] (by kernel_rfl) (zbd.nil _ _ _) (.slice aa ats.length ac) ats (by kernel_rfl) (HV.out _ hBX) (by simp;omega) (by omega) ?_
    intro v5 w5 h5 g5 hat5
    have hb5:=za1 g5
    have hf5 : ∀ k,v5.ownBlock = some k → X.heap.size ≤ k:=fun k e=>by
     rcases hat5 with h9 | h9
     ·rw [h9] at e
      cases e
     ·rw [h9] at e
      cases e
      exact Nat.le_refl _
    obtain ⟨xa5,xc5,e5⟩:=(zbd.reads h5).form
    rw [List.nil_append] at e5 h5
    subst e5
    have htk5:=(hb5.block tb hsX).trans htkX
    have hB5:=hBX.trans (hb5.mono (by omega))
    have hQ5:=hX.below hb5
    have hs5:=Nat.lt_of_lt_of_le hsX hb5.size
    refine hK.out _ _ ((hS1 _).2 ⟨Lib.cell_of_heap htk5 1,Lib.cell_of_heap htk5 2⟩) (fun hS=>?_)
    clear hK K
    refine zab 6 105 (zk1 ⟨2,l,ats,[],0,[]⟩ xa5 xc5) rfl rfl (by kernel_rfl) (by kernel_rfl) (by kernel_rfl) (fun _ _ _ h=>h) (Or.inl ⟨by kernel_rfl,fun W _=>by go_simp;rfl⟩) hS ?_
    simp only [Act.put,List.setIfInBounds_toArray,List.set_cons_zero,List.set_cons_succ]
    refine wpAnyH_ready (rs:=[7]) (by kernel_rfl) (by simp) ?_
    refine AllReadyH.cons rfl (fun K hK=>?_) AllReadyH.nil
    have hLay:=zcR hQ5 HOK3.out ⟨2,l,ats,[],0,[]⟩ rfl xa5 xc5 h5 (fun e=>by have:=hf5 _ e;have:=hX.lt;omega) (fun k e1 e2=>by have h8:=hf5 k e1;have h9:=(World.ownsRow.lt hX.row k e2).2;omega)
    rw [hlay] at hLay
    go_simp
    refine hLay.mono ?_
    rintro e w6 ⟨rfl,hkq,hp⟩
    have htk6:=(hkq tb hs5 (fun e=>hbtb e.symm) hntb).trans htk5
    refine hK.out _ _ ((hS1 _).2 ⟨Lib.cell_of_heap htk6 1,Lib.cell_of_heap htk6 2⟩) (fun hS=>?_)
    clear hK K
    refine zab 8 98 (.tuple #[.int .i64 (ps.length : Int),.int .i64 0]) rfl rfl (by kernel_rfl) (by kernel_rfl) (by kernel_rfl) (fun _ _ _ h=>h) (Or.inl ⟨by kernel_rfl,fun W _=>by go_simp⟩) hS ?_
    simp only [Act.put,List.setIfInBounds_toArray,List.set_cons_zero,List.set_cons_succ]
    refine zab 9 107 (.int .i64 (ps.length : Int)) rfl rfl (by kernel_rfl) (by kernel_rfl) (by kernel_rfl) (fun _ _ _ h=>h) (Or.inl ⟨by kernel_rfl,fun W _=>by go_simp⟩) hS ?_
    simp only [Act.put,List.setIfInBounds_toArray,List.set_cons_zero,List.set_cons_succ]
    refine zab 10 108 (.int .i64 0) rfl rfl (by kernel_rfl) (by kernel_rfl) (by kernel_rfl) (fun _ _ _ h=>h) (Or.inl ⟨by kernel_rfl,fun W _=>by go_simp⟩) hS ?_
    simp only [Act.put,List.setIfInBounds_toArray,List.set_cons_zero,List.set_cons_succ]
    refine zab 11 9 (.int .i64 (ps.length : Int)) rfl rfl (by kernel_rfl) (by kernel_rfl) (by kernel_rfl) (fun _ _ _ h=>h) (Or.inl ⟨by kernel_rfl,fun W _=>by go_simp⟩) hS ?_
    simp only [Act.put,List.setIfInBounds_toArray,List.set_cons_zero,List.set_cons_succ]
    refine zab 12 10 (.int .i64 0) rfl rfl (by kernel_rfl) (by kernel_rfl) (by kernel_rfl) (fun _ _ _ h=>h) (Or.inl ⟨by kernel_rfl,fun W _=>by go_simp⟩) hS ?_
    simp only [Act.put,List.setIfInBounds_toArray,List.set_cons_zero,List.set_cons_succ]
    refine wpAnyH_done (by kernel_rfl) ?_ _
    have hopn:=zhX hlay
    have HLY:=zaa (HLE.out _ hlay)
    clear hLay hlay
    have cn6 : w6.cell? ⟨tb,1,none⟩ = some (.string (str l)):=Lib.cell_of_heap htk6 1
    have HVo:=zaa (fun W=>zdT l W)
    have HP:=zaa hp
    have HB5:=zaa hB5
    clear hp hS hS1 hQ5 h5 g5 hat5 hf5 hb5 hX hBX htkX htk5 htk6 hkq hB5 hdr
    cases hvd : Tre.zgS l
    ·rw [hvd] at HVo
     go_upto_region 15 with (go_at_call 59;refine (HVo.out _).mono ?_;rintro e w7 ⟨rfl,hb7⟩)
     obtain ⟨nv6,ov6,ps6,hQ6,hps6,hB6⟩:=HP.out
     have hQ7:=hQ6.below hb7
     have hop6 : 1 ≤ b2.opn.length:=by rw [hopn];exact hop3.1
     have hop6b : b2.opn.length ≤ 65:=by rw [hopn];exact hop3.2
     have hB7 : Below B w w7:=(HB5.out.trans hB6).trans (hb7.mono (by have:=hQ6.bB;have:=hQ6.lt;omega))
     obtain ⟨go6,co6,rfl,hco6,_,_⟩:=hQ7.oform hop6
     have c16 : w7.cell? ⟨bb,1,none⟩ = some (.slice (some ⟨go6,0,none⟩) b2.opn.length co6):=Lib.cell_of_heap hQ7.blk 1
     have f16 : w7.frozen? ⟨bb,1,none⟩ = false:=Lib.frozen_of_heap hQ7.blk 1
     have hbl7:=hQ7.lt
     have HQ7:=zaa hQ7
     have HO7:=zaa (za6.reads hQ7.opn)
     have hBb7 : B ≤ w7.heap.size:=Nat.le_trans hQ7.bB (Nat.le_of_lt hbl7)
     have HBW7:=zaa hB7
     have hol : (b2.opn.map fun x : Nat=>(x : Int)).length = b2.opn.length:=List.length_map ..
     clear hQ6 hQ7 hB6 hopn hB7
     go_wp2_with (first
      | (at_builtin;refine zbC rfl (.const (.slice none 0 0)) (.tmp 121) rfl B (.slice none 0 0) [] rfl (za6.nil _ _) (.slice (some ⟨go6,0,none⟩) b2.opn.length co6) _ rfl HO7.out (by simp;omega) hBb7 ?_;intro v8 w8 h8 g8 hat8;obtain ⟨xa8,xc8,e8⟩:=(za6.reads h8).form;rw [List.nil_append] at h8 e8;rw [hol] at e8;subst e8;have hb8:=za1 g8;have H8:=zaa h8;have HB8:=zaa hb8;have HF8 : Hid (∀ k,(Value.slice xa8 b2.opn.length xc8).ownBlock = some k → w7.heap.size ≤ k):=(fun k e=>by rcases hat8 with h9 | h9 <;> rw [h9] at e <;> cases e;exact Nat.le_refl _);have hA8 : Below w8.heap.size w8 (w8.alloc (.cells #[.int .i64 (ps.length : Int)] 3)):=(Below.refl _ _).alloc (Nat.le_refl _) _;have cA:=Lib.cell_of_heap (zaf w8 (.cells #[.int .i64 (ps.length : Int)] 3)) 0;have H8A:=zaa (zae h8 (fun k e hl=>hA8.block k hl));have hs8:=hb8.size;clear h8 g8 hat8 hb8)
      | (at_builtin;refine zbe rfl (.tmp 122) (.tmp 124) rfl B (.slice xa8 b2.opn.length xc8) (b2.opn.map fun x : Nat=>(x : Int)) rfl H8A.out w8.heap.size 1 rfl (ps.length : Int) cA (by rw [hol];omega) (Nat.le_trans hBb7 (by simp;omega)) ?_;intro v9 w9 h9 g9 hat9;obtain ⟨xa9,xc9,e9⟩:=(za6.reads h9).form;rw [List.length_append,hol,List.length_singleton] at e9;subst e9;have hb9 : Below w7.heap.size w7 w9:=(HB8.out.trans (hA8.mono HB8.out.size)).trans ⟨g9.os,g9.tape,g9.output,g9.size,fun k hk=>g9.block k (by simp;omega) (fun e=>by have:=HF8.out k e.symm;omega)⟩;have c19:=(hb9.cell (p:=⟨bb,1,none⟩) hbl7).trans c16;have f19:=(hb9.frozen (p:=⟨bb,1,none⟩) hbl7).trans f16;have HF9 : Hid (∀ k,(Value.slice xa9 (b2.opn.length + 1) xc9).ownBlock = some k → w7.heap.size ≤ k):=(fun k e=>by rcases hat9 with h2 | h2 <;> rw [h2] at e;exact HF8.out k e;cases e;simp;omega);have H9:=zaa h9;have HB9:=zaa hb9;clear h9 g9 hat9 hb9))
     go_ret
     have hQ9:=HQ7.out.below HB9.out
     have hO:=hQ9.open' (ov':=.slice xa9 (b2.opn.length + 1) xc9) (op':=b2.opn ++ [ps.length]) (by rw [List.map_append];exact H9.out) (fun j e1 e2=>by have h8:=HF9.out j e1;have h9:=(World.ownsRow.lt HQ7.out.row j e2).2;omega) (fun e=>by have:=HF9.out _ e;omega)
     rw [HLY.out]
     show zgD B bb w (.ok (if Tre.zgS l = true then b2 else ⟨b2.nodes,b2.opn ++ [ps.length]⟩)) _ _
     rw [if_neg (by rw [hvd];simp)]
     exact ⟨rfl,_,_,ps6,hO.1,hps6,(HBW7.out.trans (HB9.out.mono hBb7)).trans hO.2⟩
    ·rw [hvd] at HVo
     go_wp2_with (go_at_call 59;refine (HVo.out _).mono ?_;rintro e w7 ⟨rfl,hb7⟩)
     go_ret
     obtain ⟨nv6,ov6,ps6,hQ6,hps6,hB6⟩:=HP.out
     rw [HLY.out]
     show zgD B bb w (.ok (if Tre.zgS l = true then b2 else ⟨b2.nodes,b2.opn ++ [ps.length]⟩)) _ _
     rw [if_pos hvd]
     exact ⟨rfl,_,_,ps6,hQ6.below hb7,hps6,(HB5.out.trans hB6).trans (hb7.mono (by have:=hQ6.bB;have:=hQ6.lt;omega))⟩
 ·have hb : ¬ Tre.isHB l = true:=fun hb=>hn (by rw [zo0 hb])
  have q1:=zai (l:=l) (m:=[104,116,109,108]) (fun e=>hb ((Tre.isHB_iff l).2 (.inl e)))
  have q2:=zai (l:=l) (m:=[98,111,100,121]) (fun e=>hb ((Tre.isHB_iff l).2 (.inr e)))
  have hcl1 : (0 : Int) < ((Tre.zgU l).1.length : Int):=by
   have : (Tre.zgU l).1.length ≠ 0:=fun e=>hn (List.length_eq_zero_iff.1 e)
   omega
  clear hb hf hn
  go_enter Tryz.func26,Tryz.ntmps26
  go_upto_region 1 with fail
  rw [HW0.out,HTB.out]
  go_upto_region 11 with (go_at_call 57;refine (zdU l _).mono ?_;rintro e w1 ⟨v1,v2,rfl,r1,r2,hb1⟩;obtain ⟨a1,d1,e1⟩:=ReadsTexts13.form r1;obtain ⟨a2,d2,e2⟩:=ReadsTexts13.form r2;subst e1 e2)
  have htk1:=(hb1.block tb hsW0).trans HTK0.out
  have h1:=H0.out.below hb1
  have HR1:=zaa r1
  have HR2:=zaa r2
  have hbW1:=HBW0.out.trans (hb1.mono (by omega))
  have hs1:=Nat.lt_of_lt_of_le hsW0 hb1.size
  have HTK1:=zaa htk1
  have H1:=zaa h1
  have HBW1:=zaa hbW1
  clear r1 r2 htk1 h1 hbW1 hb1
  go_upto_region 13 with (first
   | (at_builtin;refine zfb rfl (.tmp 94) (.tmp 95) rfl w1.heap.size (.slice (some ⟨w1.heap.size,0,none⟩) 2 2) [Tre.body,Tre.zsh] rfl (zb6 w1 [Tre.body,Tre.zsh] (by decide)) (.slice a2 (Tre.zgU l).2.length d2) (Tre.zgU l).2 rfl (ReadsTexts13.below HR2.out ((Below.refl _ _).alloc (Nat.le_refl _) _)) (by simp;omega) (by simp) ?_;intro v3 w2 h3 g3 hat3;obtain ⟨x3,d3,e3⟩:=ReadsTexts13.form (zaG.reads h3);subst e3;have hb2 : Below w1.heap.size w1 w2:=((Below.refl _ _).alloc (Nat.le_refl _) _).trans ⟨g3.os,g3.tape,g3.output,g3.size,fun k hk=>g3.block k (by simp;omega) (fun e=>by have h8 : some k = some w1.heap.size:=e;injection h8 with h8;omega)⟩;have HR3:=zaa (zaG.reads h3);have HR12:=zaa (ReadsTexts13.below HR1.out hb2);have HB2:=zaa hb2;have H2:=zaa (H1.out.below hb2);clear h3 g3 hat3 hb2)
   | (go_at_call 28;refine (zdg H2.out ho.1 (by omega) (fun y hy=>HIN.out y hy) _ _ (Tre.zgU l).1 ([Tre.body,Tre.zsh] ++ (Tre.zgU l).2) HR12.out HR3.out (by omega) (by simp;omega)).mono ?_;rintro e w3 ⟨rfl,ov3,h3,hB3,hk3⟩))
  have hs2:=Nat.lt_of_lt_of_le hs1 HB2.out.size
  have HTK3:=zaa ((hk3 tb hs2 (fun e=>hbtb e.symm) hntb).trans ((HB2.out.block tb hs1).trans HTK1.out))
  have HB3:=zaa ((HBW1.out.trans (HB2.out.mono (by omega))).trans hB3)
  have hsc:=Tre.shut_congr ⟨ps.map (·.1),op⟩ (Tre.zgU l).1 ([Tre.body,Tre.zsh] ++ (Tre.zgU l).2) ((Tre.zgU l).2 ++ [Tre.body,Tre.zsh]) (fun y=>by rw [Bool.eq_iff_iff];simp only [List.contains_iff_mem,List.mem_append];exact Or.comm)
  rw [hsc] at h3
  have hOk3:=Tre.zoc HOK.out (Tre.zgU l).1 ((Tre.zgU l).2 ++ [Tre.body,Tre.zsh])
  have e3 : Tre.zsg ⟨ps.map (·.1),op⟩ (Tre.zgU l).1 ((Tre.zgU l).2 ++ [Tre.body,Tre.zsh]) = ⟨ps.map (·.1),(Tre.zsg ⟨ps.map (·.1),op⟩ (Tre.zgU l).1 ((Tre.zgU l).2 ++ [Tre.body,Tre.zsh])).opn⟩:=rfl
  rw [e3] at hOk3
  simp only at hOk3
  obtain ⟨op3,hop3e⟩ : ∃ o,(Tre.zsg ⟨ps.map (·.1),op⟩ (Tre.zgU l).1 ((Tre.zgU l).2 ++ [Tre.body,Tre.zsh])).opn = o:=⟨_,rfl⟩
  have HLE : Hid (∀ r,Tre.lay ⟨ps.map (·.1),op3⟩ (⟨2,l,ats,[],0,[]⟩ : Nd) = r → Tre.lay (Tre.zsg ⟨ps.map (·.1),op⟩ (Tre.zgU l).1 ((Tre.zgU l).2 ++ [Tre.body,Tre.zsh])) (⟨2,l,ats,[],0,[]⟩ : Nd) = r):=fun r h9=>by
   rw [e3,hop3e]
   exact h9
  rw [hop3e] at h3 hOk3
  have hop3:=hOk3.op1
  simp only at hop3
  have HOK3:=zaa hOk3
  have H3:=zaa h3
  clear h3 hOk3 hk3 hB3 hsc e3 hop3e
  cases hlay : Tre.lay ⟨ps.map (·.1),op3⟩ (⟨2,l,ats,[],0,[]⟩ : Nd) with
  | error ek =>
   have hek : ((ek : Int) == 0) = false:=by
    rcases zhW hlay with h9 | h9 <;> rw [h9] <;> rfl
   obtain ⟨S,hS1⟩ : ∃ S : World → Prop,∀ W,S W ↔ (W.cell? ⟨tb,1,none⟩ = some (.string (str l)) ∧ W.cell? ⟨tb,2,none⟩ = some (.slice aa ats.length ac)):=⟨_,fun _=>Iff.rfl⟩
   refine wp_region_held_drew (S:=S) (by kernel_rfl) ((hS1 _).2 ⟨Lib.cell_of_heap HTK3.out 1,Lib.cell_of_heap HTK3.out 2⟩) (fun hS=>?_)
   have hdr : Below w3.heap.size w3 w3.drew:=(Below.refl _ _).drew
   have hX:=H3.out.below hdr
   have hBX:=HB3.out.trans ((Below.refl B w3).drew)
   have htkX : w3.drew.heap[tb]? = _:=HTK3.out
   have hsX : tb < w3.drew.heap.size:=(Array.getElem?_eq_some_iff.1 htkX).1
   generalize w3.drew = X at *
   refine zab 0 99 (.pointer (some ⟨bb,0,none⟩)) rfl rfl (by kernel_rfl) (by kernel_rfl) (by kernel_rfl) (fun _ _ _ h=>h) (Or.inl ⟨by kernel_rfl,fun W _=>by go_simp⟩) hS ?_
   simp only [Act.put,List.setIfInBounds_toArray,List.set_cons_zero,List.set_cons_succ]
   refine zab 1 100 (.pointer (some ⟨tb,1,none⟩)) rfl rfl (by kernel_rfl) (by kernel_rfl) (by kernel_rfl) (fun _ _ _ h=>h) (Or.inl ⟨by kernel_rfl,fun W _=>by go_simp⟩) hS ?_
   simp only [Act.put,List.setIfInBounds_toArray,List.set_cons_zero,List.set_cons_succ]
   refine zab 2 101 (.string (str l)) rfl rfl (by kernel_rfl) (by kernel_rfl) (by kernel_rfl) (fun _ _ _ h=>h) (Or.inl ⟨by kernel_rfl,fun W hW=>by have hc:=(((hS1 W).1 hW).1);go_simp⟩) hS ?_
   simp only [Act.put,List.setIfInBounds_toArray,List.set_cons_zero,List.set_cons_succ]
   refine zab 3 102 (.pointer (some ⟨tb,2,none⟩)) rfl rfl (by kernel_rfl) (by kernel_rfl) (by kernel_rfl) (fun _ _ _ h=>h) (Or.inl ⟨by kernel_rfl,fun W _=>by go_simp⟩) hS ?_
   simp only [Act.put,List.setIfInBounds_toArray,List.set_cons_zero,List.set_cons_succ]
   refine zab 4 103 (.slice aa ats.length ac) rfl rfl (by kernel_rfl) (by kernel_rfl) (by kernel_rfl) (fun _ _ _ h=>h) (Or.inl ⟨by kernel_rfl,fun W hW=>by have hc:=(((hS1 W).1 hW).2);go_simp⟩) hS ?_
   simp only [Act.put,List.setIfInBounds_toArray,List.set_cons_zero,List.set_cons_succ]
   refine wpAnyH_ready (rs:=[5]) (by kernel_rfl) (by simp) ?_
   refine AllReadyH.cons rfl (fun K hK=>?_) AllReadyH.nil
   refine zaO rfl (.const (.slice none 0 0)) (.tmp 103) rfl B (.slice none 0 0) [] (by kernel_rfl) (zbd.nil _ _ _) (.slice aa ats.length ac) ats (by kernel_rfl) (HV.out _ hBX) (by simp;omega) (by omega) ?_
   intro v5 w5 h5 g5 hat5
   have hb5:=za1 g5
   have hf5 : ∀ k,v5.ownBlock = some k → X.heap.size ≤ k:=fun k e=>by
    rcases hat5 with h9 | h9
    ·rw [h9] at e
     cases e
    ·rw [h9] at e
     cases e
     exact Nat.le_refl _
   obtain ⟨xa5,xc5,e5⟩:=(zbd.reads h5).form
   rw [List.nil_append] at e5 h5
   subst e5
   have htk5:=(hb5.block tb hsX).trans htkX
   have hB5:=hBX.trans (hb5.mono (by omega))
   have hQ5:=hX.below hb5
   have hs5:=Nat.lt_of_lt_of_le hsX hb5.size
   refine hK.out _ _ ((hS1 _).2 ⟨Lib.cell_of_heap htk5 1,Lib.cell_of_heap htk5 2⟩) (fun hS=>?_)
   clear hK K
   refine zab 6 105 (zk1 ⟨2,l,ats,[],0,[]⟩ xa5 xc5) rfl rfl (by kernel_rfl) (by kernel_rfl) (by kernel_rfl) (fun _ _ _ h=>h) (Or.inl ⟨by kernel_rfl,fun W _=>by go_simp;rfl⟩) hS ?_
   simp only [Act.put,List.setIfInBounds_toArray,List.set_cons_zero,List.set_cons_succ]
   refine wpAnyH_ready (rs:=[7]) (by kernel_rfl) (by simp) ?_
   refine AllReadyH.cons rfl (fun K hK=>?_) AllReadyH.nil
   have hLay:=zcR hQ5 HOK3.out ⟨2,l,ats,[],0,[]⟩ rfl xa5 xc5 h5 (fun e=>by have:=hf5 _ e;have:=hX.lt;omega) (fun k e1 e2=>by have h8:=hf5 k e1;have h9:=(World.ownsRow.lt hX.row k e2).2;omega)
   rw [hlay] at hLay
   go_simp
   refine hLay.mono ?_
   rintro e w6 ⟨rfl,hkq,hp⟩
   have htk6:=(hkq tb hs5 (fun e=>hbtb e.symm) hntb).trans htk5
   refine hK.out _ _ ((hS1 _).2 ⟨Lib.cell_of_heap htk6 1,Lib.cell_of_heap htk6 2⟩) (fun hS=>?_)
   clear hK K
   refine zab 8 98 (.tuple #[.int .i64 0,.int .i64 (ek : Int)]) rfl rfl (by kernel_rfl) (by kernel_rfl) (by kernel_rfl) (fun _ _ _ h=>h) (Or.inl ⟨by kernel_rfl,fun W _=>by go_simp⟩) hS ?_
   simp only [Act.put,List.setIfInBounds_toArray,List.set_cons_zero,List.set_cons_succ]
   refine zab 9 107 (.int .i64 0) rfl rfl (by kernel_rfl) (by kernel_rfl) (by kernel_rfl) (fun _ _ _ h=>h) (Or.inl ⟨by kernel_rfl,fun W _=>by go_simp⟩) hS ?_
   simp only [Act.put,List.setIfInBounds_toArray,List.set_cons_zero,List.set_cons_succ]
   refine zab 10 108 (.int .i64 (ek : Int)) rfl rfl (by kernel_rfl) (by kernel_rfl) (by kernel_rfl) (fun _ _ _ h=>h) (Or.inl ⟨by kernel_rfl,fun W _=>by go_simp⟩) hS ?_
   simp only [Act.put,List.setIfInBounds_toArray,List.set_cons_zero,List.set_cons_succ]
   refine zab 11 9 (.int .i64 0) rfl rfl (by kernel_rfl) (by kernel_rfl) (by kernel_rfl) (fun _ _ _ h=>h) (Or.inl ⟨by kernel_rfl,fun W _=>by go_simp⟩) hS ?_
   simp only [Act.put,List.setIfInBounds_toArray,List.set_cons_zero,List.set_cons_succ]
   refine zab 12 10 (.int .i64 (ek : Int)) rfl rfl (by kernel_rfl) (by kernel_rfl) (by kernel_rfl) (fun _ _ _ h=>h) (Or.inl ⟨by kernel_rfl,fun W _=>by go_simp⟩) hS ?_
   simp only [Act.put,List.setIfInBounds_toArray,List.set_cons_zero,List.set_cons_succ]
   refine wpAnyH_done (by kernel_rfl) ?_ _
   have HLY:=zaa (HLE.out _ hlay)
   clear hLay hlay
   go_wp2
   go_ret
   rw [HLY.out]
   exact ⟨rfl,hB5.trans hp⟩
  | ok b2 =>
   obtain ⟨S,hS1⟩ : ∃ S : World → Prop,∀ W,S W ↔ (W.cell? ⟨tb,1,none⟩ = some (.string (str l)) ∧ W.cell? ⟨tb,2,none⟩ = some (.slice aa ats.length ac)):=⟨_,fun _=>Iff.rfl⟩
   refine wp_region_held_drew (S:=S) (by kernel_rfl) ((hS1 _).2 ⟨Lib.cell_of_heap HTK3.out 1,Lib.cell_of_heap HTK3.out 2⟩) (fun hS=>?_)
   have hdr : Below w3.heap.size w3 w3.drew:=(Below.refl _ _).drew
   have hX:=H3.out.below hdr
   have hBX:=HB3.out.trans ((Below.refl B w3).drew)
   have htkX : w3.drew.heap[tb]? = _:=HTK3.out
   have hsX : tb < w3.drew.heap.size:=(Array.getElem?_eq_some_iff.1 htkX).1
   generalize w3.drew = X at *
   refine zab 0 99 (.pointer (some ⟨bb,0,none⟩)) rfl rfl (by kernel_rfl) (by kernel_rfl) (by kernel_rfl) (fun _ _ _ h=>h) (Or.inl ⟨by kernel_rfl,fun W _=>by go_simp⟩) hS ?_
   simp only [Act.put,List.setIfInBounds_toArray,List.set_cons_zero,List.set_cons_succ]
   refine zab 1 100 (.pointer (some ⟨tb,1,none⟩)) rfl rfl (by kernel_rfl) (by kernel_rfl) (by kernel_rfl) (fun _ _ _ h=>h) (Or.inl ⟨by kernel_rfl,fun W _=>by go_simp⟩) hS ?_
   simp only [Act.put,List.setIfInBounds_toArray,List.set_cons_zero,List.set_cons_succ]
   refine zab 2 101 (.string (str l)) rfl rfl (by kernel_rfl) (by kernel_rfl) (by kernel_rfl) (fun _ _ _ h=>h) (Or.inl ⟨by kernel_rfl,fun W hW=>by have hc:=(((hS1 W).1 hW).1);go_simp⟩) hS ?_
   simp only [Act.put,List.setIfInBounds_toArray,List.set_cons_zero,List.set_cons_succ]
   refine zab 3 102 (.pointer (some ⟨tb,2,none⟩)) rfl rfl (by kernel_rfl) (by kernel_rfl) (by kernel_rfl) (fun _ _ _ h=>h) (Or.inl ⟨by kernel_rfl,fun W _=>by go_simp⟩) hS ?_
   simp only [Act.put,List.setIfInBounds_toArray,List.set_cons_zero,List.set_cons_succ]
   refine zab 4 103 (.slice aa ats.length ac) rfl rfl (by kernel_rfl) (by kernel_rfl) (by kernel_rfl) (fun _ _ _ h=>h) (Or.inl ⟨by kernel_rfl,fun W hW=>by have hc:=(((hS1 W).1 hW).2);go_simp⟩) hS ?_
   simp only [Act.put,List.setIfInBounds_toArray,List.set_cons_zero,List.set_cons_succ]
   refine wpAnyH_ready (rs:=[5]) (by kernel_rfl) (by simp) ?_
   refine AllReadyH.cons rfl (fun K hK=>?_) AllReadyH.nil
   refine zaO rfl (.const (.slice none 0 0)) (.tmp 103) rfl B (.slice none 0 0) [] (by kernel_rfl) (zbd.nil _ _ _) (.slice aa ats.length ac) ats (by kernel_rfl) (HV.out _ hBX) (by simp;omega) (by omega) ?_
   intro v5 w5 h5 g5 hat5
   have hb5:=za1 g5
   have hf5 : ∀ k,v5.ownBlock = some k → X.heap.size ≤ k:=fun k e=>by
    rcases hat5 with h9 | h9
    ·rw [h9] at e
     cases e
    ·rw [h9] at e
     cases e
     exact Nat.le_refl _
   obtain ⟨xa5,xc5,e5⟩:=(zbd.reads h5).form
   rw [List.nil_append] at e5 h5
   subst e5
   have htk5:=(hb5.block tb hsX).trans htkX
   have hB5:=hBX.trans (hb5.mono (by omega))
   have hQ5:=hX.below hb5
   have hs5:=Nat.lt_of_lt_of_le hsX hb5.size
   refine hK.out _ _ ((hS1 _).2 ⟨Lib.cell_of_heap htk5 1,Lib.cell_of_heap htk5 2⟩) (fun hS=>?_)
   clear hK K
   refine zab 6 105 (zk1 ⟨2,l,ats,[],0,[]⟩ xa5 xc5) rfl rfl (by kernel_rfl) (by kernel_rfl) (by kernel_rfl) (fun _ _ _ h=>h) (Or.inl ⟨by kernel_rfl,fun W _=>by go_simp;rfl⟩) hS ?_
   simp only [Act.put,List.setIfInBounds_toArray,List.set_cons_zero,List.set_cons_succ]
   refine wpAnyH_ready (rs:=[7]) (by kernel_rfl) (by simp) ?_
   refine AllReadyH.cons rfl (fun K hK=>?_) AllReadyH.nil
   have hLay:=zcR hQ5 HOK3.out ⟨2,l,ats,[],0,[]⟩ rfl xa5 xc5 h5 (fun e=>by have:=hf5 _ e;have:=hX.lt;omega) (fun k e1 e2=>by have h8:=hf5 k e1;have h9:=(World.ownsRow.lt hX.row k e2).2;omega)
   rw [hlay] at hLay
   go_simp
   refine hLay.mono ?_
   rintro e w6 ⟨rfl,hkq,hp⟩
   have htk6:=(hkq tb hs5 (fun e=>hbtb e.symm) hntb).trans htk5
   refine hK.out _ _ ((hS1 _).2 ⟨Lib.cell_of_heap htk6 1,Lib.cell_of_heap htk6 2⟩) (fun hS=>?_)
   clear hK K
   refine zab 8 98 (.tuple #[.int .i64 (ps.length : Int),.int .i64 0]) rfl rfl (by kernel_rfl) (by kernel_rfl) (by kernel_rfl) (fun _ _ _ h=>h) (Or.inl ⟨by kernel_rfl,fun W _=>by go_simp⟩) hS ?_
   simp only [Act.put,List.setIfInBounds_toArray,List.set_cons_zero,List.set_cons_succ]
   refine zab 9 107 (.int .i64 (ps.length : Int)) rfl rfl (by kernel_rfl) (by kernel_rfl) (by kernel_rfl) (fun _ _ _ h=>h) (Or.inl ⟨by kernel_rfl,fun W _=>by go_simp⟩) hS ?_
   simp only [Act.put,List.setIfInBounds_toArray,List.set_cons_zero,List.set_cons_succ]
   refine zab 10 108 (.int .i64 0) rfl rfl (by kernel_rfl) (by kernel_rfl) (by kernel_rfl) (fun _ _ _ h=>h) (Or.inl ⟨by kernel_rfl,fun W _=>by go_simp⟩) hS ?_
   simp only [Act.put,List.setIfInBounds_toArray,List.set_cons_zero,List.set_cons_succ]
   refine zab 11 9 (.int .i64 (ps.length : Int)) rfl rfl (by kernel_rfl) (by kernel_rfl) (by kernel_rfl) (fun _ _ _ h=>h) (Or.inl ⟨by kernel_rfl,fun W _=>by go_simp⟩) hS ?_
   simp only [Act.put,List.setIfInBounds_toArray,List.set_cons_zero,List.set_cons_succ]
   refine zab 12 10 (.int .i64 0) rfl rfl (by kernel_rfl) (by kernel_rfl) (by kernel_rfl) (fun _ _ _ h=>h) (Or.inl ⟨by kernel_rfl,fun W _=>by go_simp⟩) hS ?_
   simp only [Act.put,List.setIfInBounds_toArray,List.set_cons_zero,List.set_cons_succ]
   refine wpAnyH_done (by kernel_rfl) ?_ _
   have hopn:=zhX hlay
   have HLY:=zaa (HLE.out _ hlay)
   clear hLay hlay
   have cn6 : w6.cell? ⟨tb,1,none⟩ = some (.string (str l)):=Lib.cell_of_heap htk6 1
   have HVo:=zaa (fun W=>zdT l W)
   have HP:=zaa hp
   have HB5:=zaa hB5
   clear hp hS hS1 hQ5 h5 g5 hat5 hf5 hb5 hX hBX htkX htk5 htk6 hkq hB5 hdr
   cases hvd : Tre.zgS l
   ·rw [hvd] at HVo
    go_upto_region 15 with (go_at_call 59;refine (HVo.out _).mono ?_;rintro e w7 ⟨rfl,hb7⟩)
    obtain ⟨nv6,ov6,ps6,hQ6,hps6,hB6⟩:=HP.out
    have hQ7:=hQ6.below hb7
    have hop6 : 1 ≤ b2.opn.length:=by rw [hopn];exact hop3.1
    have hop6b : b2.opn.length ≤ 65:=by rw [hopn];exact hop3.2
    have hB7 : Below B w w7:=(HB5.out.trans hB6).trans (hb7.mono (by have:=hQ6.bB;have:=hQ6.lt;omega))
    obtain ⟨go6,co6,rfl,hco6,_,_⟩:=hQ7.oform hop6
    have c16 : w7.cell? ⟨bb,1,none⟩ = some (.slice (some ⟨go6,0,none⟩) b2.opn.length co6):=Lib.cell_of_heap hQ7.blk 1
    have f16 : w7.frozen? ⟨bb,1,none⟩ = false:=Lib.frozen_of_heap hQ7.blk 1
    have hbl7:=hQ7.lt
    have HQ7:=zaa hQ7
    have HO7:=zaa (za6.reads hQ7.opn)
    have hBb7 : B ≤ w7.heap.size:=Nat.le_trans hQ7.bB (Nat.le_of_lt hbl7)
    have HBW7:=zaa hB7
    have hol : (b2.opn.map fun x : Nat=>(x : Int)).length = b2.opn.length:=List.length_map ..
    clear hQ6 hQ7 hB6 hopn hB7
    go_wp2_with (first
     | (at_builtin;refine zbC rfl (.const (.slice none 0 0)) (.tmp 121) rfl B (.slice none 0 0) [] rfl (za6.nil _ _) (.slice (some ⟨go6,0,none⟩) b2.opn.length co6) _ rfl HO7.out (by simp;omega) hBb7 ?_;intro v8 w8 h8 g8 hat8;obtain ⟨xa8,xc8,e8⟩:=(za6.reads h8).form;rw [List.nil_append] at h8 e8;rw [hol] at e8;subst e8;have hb8:=za1 g8;have H8:=zaa h8;have HB8:=zaa hb8;have HF8 : Hid (∀ k,(Value.slice xa8 b2.opn.length xc8).ownBlock = some k → w7.heap.size ≤ k):=(fun k e=>by rcases hat8 with h9 | h9 <;> rw [h9] at e <;> cases e;exact Nat.le_refl _);have hA8 : Below w8.heap.size w8 (w8.alloc (.cells #[.int .i64 (ps.length : Int)] 3)):=(Below.refl _ _).alloc (Nat.le_refl _) _;have cA:=Lib.cell_of_heap (zaf w8 (.cells #[.int .i64 (ps.length : Int)] 3)) 0;have H8A:=zaa (zae h8 (fun k e hl=>hA8.block k hl));have hs8:=hb8.size;clear h8 g8 hat8 hb8)
     | (at_builtin;refine zbe rfl (.tmp 122) (.tmp 124) rfl B (.slice xa8 b2.opn.length xc8) (b2.opn.map fun x : Nat=>(x : Int)) rfl H8A.out w8.heap.size 1 rfl (ps.length : Int) cA (by rw [hol];omega) (Nat.le_trans hBb7 (by simp;omega)) ?_;intro v9 w9 h9 g9 hat9;obtain ⟨xa9,xc9,e9⟩:=(za6.reads h9).form;rw [List.length_append,hol,List.length_singleton] at e9;subst e9;have hb9 : Below w7.heap.size w7 w9:=(HB8.out.trans (hA8.mono HB8.out.size)).trans ⟨g9.os,g9.tape,g9.output,g9.size,fun k hk=>g9.block k (by simp;omega) (fun e=>by have:=HF8.out k e.symm;omega)⟩;have c19:=(hb9.cell (p:=⟨bb,1,none⟩) hbl7).trans c16;have f19:=(hb9.frozen (p:=⟨bb,1,none⟩) hbl7).trans f16;have HF9 : Hid (∀ k,(Value.slice xa9 (b2.opn.length + 1) xc9).ownBlock = some k → w7.heap.size ≤ k):=(fun k e=>by rcases hat9 with h2 | h2 <;> rw [h2] at e;exact HF8.out k e;cases e;simp;omega);have H9:=zaa h9;have HB9:=zaa hb9;clear h9 g9 hat9 hb9))
    go_ret
    have hQ9:=HQ7.out.below HB9.out
    have hO:=hQ9.open' (ov':=.slice xa9 (b2.opn.length + 1) xc9) (op':=b2.opn ++ [ps.length]) (by rw [List.map_append];exact H9.out) (fun j e1 e2=>by have h8:=HF9.out j e1;have h9:=(World.ownsRow.lt HQ7.out.row j e2).2;omega) (fun e=>by have:=HF9.out _ e;omega)
    rw [HLY.out]
    show zgD B bb w (.ok (if Tre.zgS l = true then b2 else ⟨b2.nodes,b2.opn ++ [ps.length]⟩)) _ _
    rw [if_neg (by rw [hvd];simp)]
    exact ⟨rfl,_,_,ps6,hO.1,hps6,(HBW7.out.trans (HB9.out.mono hBb7)).trans hO.2⟩
   ·rw [hvd] at HVo
    go_wp2_with (go_at_call 59;refine (HVo.out _).mono ?_;rintro e w7 ⟨rfl,hb7⟩)
    go_ret
    obtain ⟨nv6,ov6,ps6,hQ6,hps6,hB6⟩:=HP.out
    rw [HLY.out]
    show zgD B bb w (.ok (if Tre.zgS l = true then b2 else ⟨b2.nodes,b2.opn ++ [ps.length]⟩)) _ _
    rw [if_pos hvd]
    exact ⟨rfl,_,_,ps6,hQ6.below hb7,hps6,(HB5.out.trans hB6).trans (hb7.mono (by have:=hQ6.bB;have:=hQ6.lt;omega))⟩
end
end Go.Proofs.YtiodaahncadodaaGreatDoor
