/- Texts laid as one. -/
import Derived.Test.YtiodaahncadodaaGreatDoorKTrqAB
import Derived.Test.YtiodaahncadodaaGreatDoorKTreOQ
set_option maxRecDepth 100000
set_option maxHeartbeats 4000000
set_option linter.unusedVariables false
set_option linter.unusedSimpArgs false
namespace Go.Proofs.YtiodaahncadodaaGreatDoor
open Go.RowKit
def QLay (B bb : Nat) (nv : Value) (w : World) (at_ err : Nat) (b : Option Tre.St) (e : Ending) (w' : World) : Prop:=e = .returned (.tuple #[.int .i64 (at_ : Int),.int .i64 (err : Int)]) ∧ Kq bb nv w w' ∧ match b with
 | none=>Below B w w'
 | some b=>zoV B bb w b w'
section
variable {w : World} {B bb : Nat} {nv ov : Value} {ps : List PN} {op : List Nat}
theorem zoW (h : QAt w B bb nv ov ps op) (hps : ps.length = 4096) (n : Nd) (aa : Option Addr) (ac : Nat) :
  Calls Tryz.prog 58 #[.pointer (some ⟨bb,0,none⟩),zk1 n aa ac] w (QLay B bb nv w 0 5 none):=by
 obtain ⟨k,nm,ats,tx,up,ks⟩:=n
 obtain ⟨g,c,rfl,hc,_⟩:=h.nform (by omega)
 have hBw : B ≤ w.heap.size:=Nat.le_trans h.bB (Nat.le_of_lt h.lt)
 have hb0 : Below w.heap.size w (w.alloc (.cells #[.int .i64 k,.string (str nm),.slice aa ats.length ac,.string (str tx),.int .i64 0,.slice none 0 0] 43)):=(Below.refl _ w).alloc (Nat.le_refl _) _
 have c0 : (w.alloc (.cells #[.int .i64 k,.string (str nm),.slice aa ats.length ac,.string (str tx),.int .i64 0,.slice none 0 0] 43)).cell? ⟨bb,0,none⟩ = some (.slice (some ⟨g,0,none⟩) ps.length c):=Lib.cell_of_heap (h.below hb0).blk 0
 have q : (4096 : Int) < (ps.length : Int) + 1:=by rw [hps];decide
 have q2 : (ps.length : Int) ≤ 4096:=by rw [hps];decide
 clear h hps
 go_enter Tryz.func58,Tryz.ntmps58
 go_wp2
 go_ret2
 exact ⟨rfl,Kq.of hb0,hb0.mono hBw⟩
theorem zoX (h : QAt w B bb nv ov ps op) (hps : ps.length < 4096) (hp1 : 1 ≤ ps.length) (hop : 64 < op.length) (n : Nd) (aa : Option Addr) (ac : Nat) :
  Calls Tryz.prog 58 #[.pointer (some ⟨bb,0,none⟩),zk1 n aa ac] w (QLay B bb nv w 0 8 none):=by
 obtain ⟨k,nm,ats,tx,up,ks⟩:=n
 obtain ⟨g,c,rfl,hc,_⟩:=h.nform (by omega)
 obtain ⟨go,co,rfl,hco,_⟩:=h.oform (by omega)
 have hBw : B ≤ w.heap.size:=Nat.le_trans h.bB (Nat.le_of_lt h.lt)
 have hb0 : Below w.heap.size w (w.alloc (.cells #[.int .i64 k,.string (str nm),.slice aa ats.length ac,.string (str tx),.int .i64 0,.slice none 0 0] 43)):=(Below.refl _ w).alloc (Nat.le_refl _) _
 have c0 : (w.alloc (.cells #[.int .i64 k,.string (str nm),.slice aa ats.length ac,.string (str tx),.int .i64 0,.slice none 0 0] 43)).cell? ⟨bb,0,none⟩ = some (.slice (some ⟨g,0,none⟩) ps.length c):=Lib.cell_of_heap (h.below hb0).blk 0
 have c1 : (w.alloc (.cells #[.int .i64 k,.string (str nm),.slice aa ats.length ac,.string (str tx),.int .i64 0,.slice none 0 0] 43)).cell? ⟨bb,1,none⟩ = some (.slice (some ⟨go,0,none⟩) op.length co):=Lib.cell_of_heap (h.below hb0).blk 1
 have q : ¬ (4096 : Int) < (ps.length : Int) + 1:=by omega
 have q2 : (64 : Int) < (op.length : Int):=by omega
 clear h hop
 go_enter Tryz.func58,Tryz.ntmps58
 go_wp2
 go_ret2
 exact ⟨rfl,Kq.of hb0,hb0.mono hBw⟩
theorem zsB (h : QAt w B bb nv ov ps op) (hps : ps.length < 4096) (hop : op.length ≤ 64) (hop1 : 1 ≤ op.length) (htop : op.getLastD 0 < ps.length) (n : Nd) (hnk : n.kids = []) (aa : Option Addr) (ac : Nat) (hkl : ∀ (i : Nat) (p : PN),ps[i]? = some p → p.1.kids.length ≤ 4096)
  (hva : zaN w B (.slice aa n.attrs.length ac) n.attrs) (hvo : (Value.slice aa n.attrs.length ac).ownBlock ≠ some bb) (hvap : ApK (.slice aa n.attrs.length ac) nv) :
  Calls Tryz.prog 58 #[.pointer (some ⟨bb,0,none⟩),zk1 n aa ac] w (QLay B bb nv w ps.length 0 (some ⟨(ps.map (·.1)).modify (op.getLastD 0) (fun m=>{ m with kids:=m.kids ++ [(ps.length : Int)] }) ++ [{ n with up:=((op.getLastD 0 : Nat) : Int) }],op⟩)):=by
 obtain ⟨g,c,rfl,hc,hBg,hgl,hgb⟩:=h.nform (by omega)
 obtain ⟨go,co,rfl,hco,_,hcell⟩:=h.oform hop1
 have hBw : B ≤ w.heap.size:=Nat.le_trans h.bB (Nat.le_of_lt h.lt)
 have hb0 : Below w.heap.size w (w.alloc (.cells #[.int .i64 n.kind,.string (str n.name),.slice aa n.attrs.length ac,.string (str n.text),.int .i64 0,.slice none 0 0] 43)):=(Below.refl _ w).alloc (Nat.le_refl _) _
 have hnn:=zaf w (.cells #[.int .i64 n.kind,.string (str n.name),.slice aa n.attrs.length ac,.string (str n.text),.int .i64 0,.slice none 0 0] 43)
 have h0:=h.below hb0
 have c0 : (w.alloc (.cells #[.int .i64 n.kind,.string (str n.name),.slice aa n.attrs.length ac,.string (str n.text),.int .i64 0,.slice none 0 0] 43)).cell? ⟨bb,0,none⟩ = some (.slice (some ⟨g,0,none⟩) ps.length c):=Lib.cell_of_heap h0.blk 0
 have c1 : (w.alloc (.cells #[.int .i64 n.kind,.string (str n.name),.slice aa n.attrs.length ac,.string (str n.text),.int .i64 0,.slice none 0 0] 43)).cell? ⟨bb,1,none⟩ = some (.slice (some ⟨go,0,none⟩) op.length co):=Lib.cell_of_heap h0.blk 1
 have q : ¬ (4096 : Int) < (ps.length : Int) + 1:=by omega
 have q2 : ¬ (64 : Int) < (op.length : Int):=by omega
 have hwb : bb < w.heap.size:=h.lt
 have HVA:=zaa (zbd.below hva hb0)
 have HVO:=zaa hvo
 have HVP:=zaa hvap
 have hval : ∀ k,(Value.slice aa n.attrs.length ac).ownBlock = some k → k < w.heap.size:=fun k e=>(World.ownsRow.lt hva k e).2
 have HVL:=zaa hval
 obtain ⟨p0,hp0⟩ : ∃ p,ps[op.getLastD 0]? = some p:=⟨_,List.getElem?_eq_getElem htop⟩
 have hkl0:=hkl _ _ hp0
 have ct:=(hb0.cell (p:=⟨go,op.length - 1,none⟩) (zaK (hcell _ _ (zhM hop1)))).trans (hcell _ _ (zhM hop1))
 obtain ⟨m,hm⟩ : ∃ m,op.length = m + 1:=⟨op.length - 1,by omega⟩
 have HM:=zaa hm
 rw [hm] at ct c1 hco q2 hop
 rw [Nat.add_sub_cancel] at ct
 have HQ:=zaa h
 have H0:=zaa h0
 have HNN:=zaa hnn
 have HB0:=zaa hb0
 have hs0 : (w.alloc (.cells #[.int .i64 n.kind,.string (str n.name),.slice aa n.attrs.length ac,.string (str n.text),.int .i64 0,.slice none 0 0] 43)).heap.size = w.heap.size + 1:=by simp
 clear h h0 hnn hva hvo hvap hkl hop1 hb0 hcell hm hval
 generalize ht : op.getLastD 0 = t at *
 have HTT:=zaa ht
 clear ht
 obtain ⟨W0,hW0⟩ : ∃ W,w.alloc (.cells #[.int .i64 n.kind,.string (str n.name),.slice aa n.attrs.length ac,.string (str n.text),.int .i64 0,.slice none 0 0] 43) = W:=⟨_,rfl⟩
 rw [hW0] at c0 c1 HVA H0 HNN HB0 hs0 ct
 have HW0:=zaa hW0
 clear hW0
 have cn4 : W0.cell? ⟨w.heap.size,4,none⟩ = some (.int .i64 0):=Lib.cell_of_heap HNN.out 4
 have fn4 : W0.frozen? ⟨w.heap.size,4,none⟩ = false:=Lib.frozen_of_heap HNN.out 4
 go_enter Tryz.func58,Tryz.ntmps58
 go_upto_region 1 with fail
 rw [HW0.out]
 go_upto_region 5 with fail
 go_quiet (fail)
 go_upto_region 8 with fail
 obtain ⟨n0,va0,vk0⟩:=p0
 simp only at hkl0
 obtain ⟨ka,kc,e0⟩:=(za6.reads (H0.out.kds t _ hp0)).form
 simp only at e0
 subst e0
 obtain ⟨W1,hW1⟩ : ∃ W,(W0.drewN nq).setCell ⟨w.heap.size,4,none⟩ (.int .i64 (t : Int)) = W:=⟨_,rfl⟩
 have hbW1 : Below w.heap.size w W1:=by
  rw [← hW1]
  exact (HB0.out.trans ((zav ⟨nq,rfl⟩).mono HB0.out.size)).setCell (Nat.le_refl _) _
 have hnoset : ∀ k,k < w.heap.size → ((W0.drewN nq).setCell ⟨w.heap.size,4,none⟩ (.int .i64 (t : Int))).heap[k]? = W0.heap[k]?:=fun k hk=>Below.heap_setCell _ _ _ _ (fun e=>by rw [show k = w.heap.size from e] at hk;exact absurd hk (Nat.lt_irrefl _))
 have hQW1 : QAt W1 B bb (.slice (some ⟨g,0,none⟩) ps.length c) (.slice (some ⟨go,0,none⟩) op.length co) ps op:=HQ.out.below hbW1
 have hNW1 : W1.heap[w.heap.size]? = some (.cells #[.int .i64 n.kind,.string (str n.name),.slice aa n.attrs.length ac,.string (str n.text),.int .i64 (t : Int),.slice none 0 0] 43 (0,0)):=by
  rw [← hW1]
  have:=za4 (w:=W0.drewN nq) (i:=4) HNN.out (.int .i64 (t : Int))
  exact this
 have hVW1 : zaN W1 B (.slice aa n.attrs.length ac) n.attrs:=by
  rw [← hW1]
  exact zae HVA.out (fun k e _=>hnoset k (HVL.out k e))
 have hsW1 : W1.heap.size = w.heap.size + 1:=by
  rw [← hW1,zaW]
  exact hs0
 rw [hW1]
 obtain ⟨nb,hnb⟩ : ∃ nb,w.heap.size = nb:=⟨_,rfl⟩
 have HNB:=zaa hnb
 rw [hnb] at hNW1 hsW1 ⊢
 clear hW1 HNN H0 HVA HB0 cn4 fn4 c0 c1 hs0 HW0 hnb ct hnoset HQ
 obtain ⟨S,hS1⟩ : ∃ S : World → Prop,∀ W,S W ↔ (W.cell? ⟨bb,0,none⟩ = some (.slice (some ⟨g,0,none⟩) ps.length c) ∧ W.cell? ⟨g,t * 6 + 5,none⟩ = some (.slice ka n0.kids.length kc) ∧ W.frozen? ⟨g,t * 6 + 5,none⟩ = false):=⟨_,fun _=>Iff.rfl⟩
 have hQX : QAt W1.drew B bb (.slice (some ⟨g,0,none⟩) ps.length c) (.slice (some ⟨go,0,none⟩) op.length co) ps op:=hQW1.below (Below.refl _ _).drew
 have hSQ : ∀ W,QAt W B bb (.slice (some ⟨g,0,none⟩) ps.length c) (.slice (some ⟨go,0,none⟩) op.length co) ps op → S W:=fun W hW=>(hS1 W).2 ⟨Lib.cell_of_heap hW.blk 0,(hW.cell hp0 (i:=5) rfl).1,(hW.cell hp0 (i:=5) rfl).2⟩
 have HSQ:=zaa hSQ
 have hNX : W1.drew.heap[nb]? = some (.cells #[.int .i64 n.kind,.string (str n.name),.slice aa n.attrs.length ac,.string (str n.text),.int .i64 (t : Int),.slice none 0 0] 43 (0,0)):=hNW1
 have hVX : zaN W1.drew B (.slice aa n.attrs.length ac) n.attrs:=hVW1
 have hbX : Below w.heap.size w W1.drew:=hbW1.trans (Below.refl _ _).drew
 have HSX : Hid (W1.drew.heap.size = nb + 1):=hsW1
 have hSW1 : S W1.drew:=hSQ _ hQX
 refine zba (S:=S) 19 (by kernel_rfl) hSW1 (fun hS=>?_)
 clear hSQ hQW1 hNW1 hVW1 hbW1 hsW1 hSW1
 generalize W1.drew = X at *
 have hklb : n0.kids.length ≤ 10000000:=by omega
 have hBX : B ≤ X.heap.size:=by have:=HNB.out;have:=HSX.out;omega
 refine zas 0 40 (.pointer (some ⟨bb,0,none⟩)) rfl rfl rfl (by kernel_rfl) (by kernel_rfl) (by kernel_rfl) (by kernel_rfl) (fun _ _ _ h=>h) (Or.inl ⟨by kernel_rfl,fun W _=>by go_simp⟩) hS ?_
 simp only [Act.put,List.setIfInBounds_toArray,List.set_cons_zero,List.set_cons_succ]
 refine zas 1 41 (.pointer (some ⟨bb,0,none⟩)) rfl rfl rfl (by kernel_rfl) (by kernel_rfl) (by kernel_rfl) (by kernel_rfl) (fun _ _ _ h=>h) (Or.inl ⟨by kernel_rfl,fun W _=>by go_simp⟩) hS ?_
 simp only [Act.put,List.setIfInBounds_toArray,List.set_cons_zero,List.set_cons_succ]
 refine zas 2 42 (.pointer (some ⟨bb,0,none⟩)) rfl rfl rfl (by kernel_rfl) (by kernel_rfl) (by kernel_rfl) (by kernel_rfl) (fun _ _ _ h=>h) (Or.inl ⟨by kernel_rfl,fun W _=>by go_simp⟩) hS ?_
 simp only [Act.put,List.setIfInBounds_toArray,List.set_cons_zero,List.set_cons_succ]
 refine zas 3 43 (.slice (some ⟨g,0,none⟩) ps.length c) rfl rfl rfl (by kernel_rfl) (by kernel_rfl) (by kernel_rfl) (by kernel_rfl) (fun _ _ _ h=>h) (Or.inl ⟨by kernel_rfl,fun W hW=>by have hc:=(((hS1 W).1 hW).1);go_simp⟩) hS ?_
 simp only [Act.put,List.setIfInBounds_toArray,List.set_cons_zero,List.set_cons_succ]
 refine zas 4 44 (.int .i64 (t : Int)) rfl rfl rfl (by kernel_rfl) (by kernel_rfl) (by kernel_rfl) (by kernel_rfl) (fun _ _ _ h=>h) (Or.inl ⟨by kernel_rfl,fun W _=>by go_simp⟩) hS ?_
 simp only [Act.put,List.setIfInBounds_toArray,List.set_cons_zero,List.set_cons_succ]
 refine zas 5 45 (.pointer (some ⟨bb,0,none⟩)) rfl rfl rfl (by kernel_rfl) (by kernel_rfl) (by kernel_rfl) (by kernel_rfl) (fun _ _ _ h=>h) (Or.inl ⟨by kernel_rfl,fun W _=>by go_simp⟩) hS ?_
 simp only [Act.put,List.setIfInBounds_toArray,List.set_cons_zero,List.set_cons_succ]
 refine zas 6 46 (.pointer (some ⟨bb,0,none⟩)) rfl rfl rfl (by kernel_rfl) (by kernel_rfl) (by kernel_rfl) (by kernel_rfl) (fun _ _ _ h=>h) (Or.inl ⟨by kernel_rfl,fun W _=>by go_simp⟩) hS ?_
 simp only [Act.put,List.setIfInBounds_toArray,List.set_cons_zero,List.set_cons_succ]
 refine zas 7 47 (.pointer (some ⟨bb,0,none⟩)) rfl rfl rfl (by kernel_rfl) (by kernel_rfl) (by kernel_rfl) (by kernel_rfl) (fun _ _ _ h=>h) (Or.inl ⟨by kernel_rfl,fun W _=>by go_simp⟩) hS ?_
 simp only [Act.put,List.setIfInBounds_toArray,List.set_cons_zero,List.set_cons_succ]
 refine zas 8 48 (.slice (some ⟨g,0,none⟩) ps.length c) rfl rfl rfl (by kernel_rfl) (by kernel_rfl) (by kernel_rfl) (by kernel_rfl) (fun _ _ _ h=>h) (Or.inl ⟨by kernel_rfl,fun W hW=>by have hc:=(((hS1 W).1 hW).1);go_simp⟩) hS ?_
 simp only [Act.put,List.setIfInBounds_toArray,List.set_cons_zero,List.set_cons_succ]
 refine zas 9 49 (.int .i64 (t : Int)) rfl rfl rfl (by kernel_rfl) (by kernel_rfl) (by kernel_rfl) (by kernel_rfl) (fun _ _ _ h=>h) (Or.inl ⟨by kernel_rfl,fun W _=>by go_simp⟩) hS ?_
 simp only [Act.put,List.setIfInBounds_toArray,List.set_cons_zero,List.set_cons_succ]
 refine zas 10 50 (.pointer (some ⟨g,t * 6,none⟩)) rfl rfl rfl (by kernel_rfl) (by kernel_rfl) (by kernel_rfl) (by kernel_rfl) (fun _ _ _ h=>h) (Or.inl ⟨by kernel_rfl,fun W _=>by go_simp⟩) hS ?_
 simp only [Act.put,List.setIfInBounds_toArray,List.set_cons_zero,List.set_cons_succ]
 refine zas 11 51 (.pointer (some ⟨g,t * 6 + 5,none⟩)) rfl rfl rfl (by kernel_rfl) (by kernel_rfl) (by kernel_rfl) (by kernel_rfl) (fun _ _ _ h=>h) (Or.inl ⟨by kernel_rfl,fun W _=>by go_simp⟩) hS ?_
 simp only [Act.put,List.setIfInBounds_toArray,List.set_cons_zero,List.set_cons_succ]
 refine zas 12 52 (.slice ka n0.kids.length kc) rfl rfl rfl (by kernel_rfl) (by kernel_rfl) (by kernel_rfl) (by kernel_rfl) (fun _ _ _ h=>h) (Or.inl ⟨by kernel_rfl,fun W hW=>by have hc:=(((hS1 W).1 hW).2.1);go_simp⟩) hS ?_
 simp only [Act.put,List.setIfInBounds_toArray,List.set_cons_zero,List.set_cons_succ]
 refine zas 14 54 (.int .i64 (ps.length : Int)) rfl rfl rfl (by kernel_rfl) (by kernel_rfl) (by kernel_rfl) (by kernel_rfl) (fun _ _ _ h=>h) (Or.inl ⟨by kernel_rfl,fun W _=>by go_simp⟩) hS ?_
 simp only [Act.put,List.setIfInBounds_toArray,List.set_cons_zero,List.set_cons_succ]
 refine zg9 (i:=13) (j:=15) (by kernel_rfl) rfl rfl (fun K hK=>?_) (fun K hK=>?_)
 ·have hbX0 : Below X.heap.size X X:=Below.refl _ _
  refine zdF rfl (.const (.slice none 0 0)) (.tmp 52) rfl B (.slice none 0 0) [] (by kernel_rfl) (za6.nil _ _) (.slice ka n0.kids.length kc) n0.kids (by kernel_rfl) (za6.reads (hQX.kds t _ hp0)) (by simp;omega) (Nat.le_trans hBX hbX0.size) ?_
  intro v5 w5 h5 g5 hat5
  have hb5:=za1 g5
  have hQ5:=hQX.below hb5
  have hb5X:=hb5
  have hf5 : ∀ k,v5.ownBlock = some k → X.heap.size ≤ k:=fun k e=>by
   rcases hat5 with h9 | h9
   ·rw [h9] at e
    cases e
   ·rw [h9] at e
    cases e
    exact hbX0.size
  have e5:=(za6.reads h5).form
  obtain ⟨xa5,xc5,e5⟩:=e5
  rw [List.nil_append] at e5 h5
  subst e5
  refine hK.out _ _ (fun _=>HSQ.out _ hQ5) ?_
  have hS:=HSQ.out _ hQ5
  clear hK K
  refine zal (i:=15) (by kernel_rfl) rfl (fun K hK=>?_)
  go_simp
  have hbA : Below w5.heap.size w5 (w5.alloc (.cells #[.int .i64 (ps.length : Int)] 3)):=(Below.refl _ _).alloc (Nat.le_refl _) _
  have hQA:=hQ5.below hbA
  have hbAX : Below X.heap.size X (w5.alloc (.cells #[.int .i64 (ps.length : Int)] 3)):=bel hb5X hbA
  have cA:=Lib.cell_of_heap (zaf w5 (.cells #[.int .i64 (ps.length : Int)] 3)) 0
  refine hK.out _ _ (fun _=>HSQ.out _ hQA) ?_
  have hS:=HSQ.out _ hQA
  have h5A:=zae h5 (fun k e hl=>hbA.block k hl)
  obtain ⟨y,hy⟩ : ∃ y,w5.heap.size = y:=⟨_,rfl⟩
  rw [hy] at cA ⊢
  have hyX : X.heap.size ≤ y:=by rw [← hy];exact hb5X.size
  clear hy
  generalize hYe : (w5.alloc (.cells #[.int .i64 (ps.length : Int)] 3)) = Y at *
  clear hYe
  clear hK K hbA
  refine zal (i:=16) (by kernel_rfl) rfl (fun K hK=>?_)
  refine zcO rfl (.tmp 53) (.tmp 55) rfl B (.slice xa5 n0.kids.length xc5) n0.kids (by kernel_rfl) h5A y 1 (by kernel_rfl) (ps.length : Int) cA hklb (Nat.le_trans hBX hbAX.size) ?_
  intro v7 w7 h7 g7 hat7
  have hf7 : ∀ k,v7.ownBlock = some k → X.heap.size ≤ k:=fun k e=>by
   rcases hat7 with h9 | h9
   ·rw [h9] at e
    exact hf5 k e
   ·rw [h9] at e
    cases e
    exact hbAX.size
  have hb7 : Below X.heap.size X w7:=hbAX.trans ⟨g7.os,g7.tape,g7.output,g7.size,fun k hk=>g7.block k (Nat.lt_of_lt_of_le hk hbAX.size) (fun e=>by have:=hf5 k e.symm;omega)⟩
  obtain ⟨xa7,xc7,e7⟩:=(za6.reads h7).form
  rw [List.length_append,List.length_singleton] at e7
  subst e7
  have hQ7:=hQX.below hb7
  have c7:=(hQ7.cell hp0 (i:=5) rfl).1
  have f7:=(hQ7.cell hp0 (i:=5) rfl).2
  refine hK.out _ _ (fun _=>HSQ.out _ hQ7) ?_
  have hS:=HSQ.out _ hQ7
  clear hK K
  refine zal (i:=17) (by kernel_rfl) rfl (fun K hK=>?_)
  go_simp
  refine hK.out _ _ (fun _=>hS) ?_
  clear hK K
  refine zas 18 58 (.pointer (some ⟨g,t * 6 + 5,none⟩)) rfl rfl rfl (by kernel_rfl) (by kernel_rfl) (by kernel_rfl) (by kernel_rfl) (fun _ _ _ h=>h) (Or.inl ⟨by kernel_rfl,fun W _=>by go_simp⟩) hS ?_
  simp only [Act.put,List.setIfInBounds_toArray,List.set_cons_zero,List.set_cons_succ]
  refine zal (i:=19) (by kernel_rfl) rfl (fun K hK=>?_)
  go_simp
  refine hK.out _ _ (fun h=>absurd rfl h) ?_
  clear hK K
  refine za2 (by kernel_rfl) ?_ _
  have hgX:=(World.ownsRow.lt hQX.row g rfl).2
  have hne : ∀ k,(Value.slice xa7 (n0.kids.length + 1) xc7).ownBlock = some k → k ≠ g ∧ k ≠ bb:=fun k e=>by
   have h1:=hf7 k e
   have h2:=hQX.lt
   exact ⟨by omega,by omega⟩
  have ha0:=hQ7.ats t _ hp0
  obtain ⟨hQ8,hb8⟩:=hQ7.put hp0 ({ n0 with kids:=n0.kids ++ [(ps.length : Int)] },va0,.slice xa7 (n0.kids.length + 1) xc7) 5 (.slice xa7 (n0.kids.length + 1) xc7) (by decide) rfl ha0 h7
   ⟨fun e=>hQX.apn _ (by simp [(zaB (List.mem_of_getElem? hp0)).1]) g e rfl,fun e=>hQX.off _ (by simp [(zaB (List.mem_of_getElem? hp0)).1]) e⟩ ⟨fun e=>(hne g e).1 rfl,fun e=>(hne bb e).2 rfl⟩
  have hnbX : nb < X.heap.size:=by have:=HSX.out;omega
  have hgnb : g < nb:=by have:=HNB.out;omega
  have hN8 : (w7.setCell ⟨g,t * 6 + 5,none⟩ (.slice xa7 (n0.kids.length + 1) xc7)).heap[nb]? = some (.cells #[.int .i64 n.kind,.string (str n.name),.slice aa n.attrs.length ac,.string (str n.text),.int .i64 (t : Int),.slice none 0 0] 43 (0,0)):=(zaM w7 g _ _ (fun e=>by omega)).trans ((hb7.block nb hnbX).trans hNX)
  have hV8 : zaN (w7.setCell ⟨g,t * 6 + 5,none⟩ (.slice xa7 (n0.kids.length + 1) xc7)) B (.slice aa n.attrs.length ac) n.attrs:=zae (zbd.below hVX hb7) (fun k e _=>zaM w7 g _ _ (fun e2=>HVP.out k e (by rw [e2];rfl)))
  have hbw8 : Below B w (w7.setCell ⟨g,t * 6 + 5,none⟩ (.slice xa7 (n0.kids.length + 1) xc7)):=((hbX.mono hBw).trans (hb7.mono hBX)).trans hb8
  have hkw8 : ∀ k,k < w.heap.size → k ≠ g → (w7.setCell ⟨g,t * 6 + 5,none⟩ (.slice xa7 (n0.kids.length + 1) xc7)).heap[k]? = w.heap[k]?:=fun k hk hkg=>(zaM w7 g _ _ hkg).trans ((hb7.block k (Nat.lt_of_lt_of_le hk hbX.size)).trans (hbX.block k hk))
  have hswX : w.heap.size ≤ (w7.setCell ⟨g,t * 6 + 5,none⟩ (.slice xa7 (n0.kids.length + 1) xc7)).heap.size:=by rw [zaW];exact Nat.le_trans hbX.size hb7.size
  have hs8 : nb < (w7.setCell ⟨g,t * 6 + 5,none⟩ (.slice xa7 (n0.kids.length + 1) xc7)).heap.size:=(Array.getElem?_eq_some_iff.1 hN8).1
  have hps2:=zcn ps t (n0,va0,(.slice ka n0.kids.length kc)) ({ n0 with kids:=n0.kids ++ [(ps.length : Int)] },va0,.slice xa7 (n0.kids.length + 1) xc7) (fun m=>{ m with kids:=m.kids ++ [(ps.length : Int)] }) hp0 rfl
  have hl2 : (ps.set t ({ n0 with kids:=n0.kids ++ [(ps.length : Int)] },va0,.slice xa7 (n0.kids.length + 1) xc7)).length = ps.length:=List.length_set ..
  generalize (ps.set t ({ n0 with kids:=n0.kids ++ [(ps.length : Int)] },va0,.slice xa7 (n0.kids.length + 1) xc7) : List PN) = ps2 at *
  obtain ⟨W2,hW2⟩ : ∃ W2,w7.setCell ⟨g,t * 6 + 5,none⟩ (.slice xa7 (n0.kids.length + 1) xc7) = W2:=⟨_,rfl⟩
  rw [hW2] at hQ8 hN8 hV8 hbw8 hs8 hkw8 hswX ⊢
  clear hW2 hb8 hQ7 c7 f7 HSX h7 g7 hat7 hf7 hf5 hb7 hQX hNX hVX hbX hS hS1 HSQ ha0 hne
  try clear h5
  try clear g5
  try clear hat5
  try clear hb5
  try clear hQ5
  try clear hb5X
  try clear hQA
  try clear hbAX
  try clear cA
  try clear h5A
  try clear c5
  go_upto_region 9 with fail
  obtain ⟨S2,hS2⟩ : ∃ S : World → Prop,∀ W,S W ↔ (W.cell? ⟨bb,0,none⟩ = some (.slice (some ⟨g,0,none⟩) ps.length c) ∧ W.rangeAt nb 0 [.int .i64 n.kind,.string (str n.name),.slice aa n.attrs.length ac,.string (str n.text),.int .i64 (t : Int),.slice none 0 0]):=⟨_,fun _=>Iff.rfl⟩
  have hdr : Below W2.heap.size W2 W2.drew:=(Below.refl _ _).drew
  have hQX:=hQ8.below hdr
  have hNX:=(hdr.block nb hs8).trans hN8
  have hVX:=zbd.below hV8 hdr
  have hbX : Below B w W2.drew:=hbw8.trans (Below.refl _ _).drew
  have hkX : ∀ k,k < w.heap.size → k ≠ g → W2.drew.heap[k]? = w.heap[k]?:=hkw8
  have hszX : w.heap.size ≤ W2.drew.heap.size:=hswX
  have hsX : nb < W2.drew.heap.size:=hs8
  refine zba (S:=S2) 10 (by kernel_rfl) ((hS2 _).2 ⟨Lib.cell_of_heap hQX.blk 0,zaT hNX⟩) (fun hS=>?_)
  clear hdr hQ8 hN8 hV8 hbw8 hs8 hkw8 hswX
  generalize W2.drew = X2 at *
  refine zas 0 59 (.pointer (some ⟨bb,0,none⟩)) rfl rfl rfl (by kernel_rfl) (by kernel_rfl) (by kernel_rfl) (by kernel_rfl) (fun _ _ _ h=>h) (Or.inl ⟨by kernel_rfl,fun W _=>by go_simp⟩) hS ?_
  simp only [Act.put,List.setIfInBounds_toArray,List.set_cons_zero,List.set_cons_succ]
  refine zas 1 60 (.pointer (some ⟨bb,0,none⟩)) rfl rfl rfl (by kernel_rfl) (by kernel_rfl) (by kernel_rfl) (by kernel_rfl) (fun _ _ _ h=>h) (Or.inl ⟨by kernel_rfl,fun W _=>by go_simp⟩) hS ?_
  simp only [Act.put,List.setIfInBounds_toArray,List.set_cons_zero,List.set_cons_succ]
  refine zas 2 61 (.pointer (some ⟨bb,0,none⟩)) rfl rfl rfl (by kernel_rfl) (by kernel_rfl) (by kernel_rfl) (by kernel_rfl) (fun _ _ _ h=>h) (Or.inl ⟨by kernel_rfl,fun W _=>by go_simp⟩) hS ?_
  simp only [Act.put,List.setIfInBounds_toArray,List.set_cons_zero,List.set_cons_succ]
  refine zas 3 62 (.pointer (some ⟨bb,0,none⟩)) rfl rfl rfl (by kernel_rfl) (by kernel_rfl) (by kernel_rfl) (by kernel_rfl) (fun _ _ _ h=>h) (Or.inl ⟨by kernel_rfl,fun W _=>by go_simp⟩) hS ?_
  simp only [Act.put,List.setIfInBounds_toArray,List.set_cons_zero,List.set_cons_succ]
  refine zas 4 63 (.slice (some ⟨g,0,none⟩) ps.length c) rfl rfl rfl (by kernel_rfl) (by kernel_rfl) (by kernel_rfl) (by kernel_rfl) (fun _ _ _ h=>h) (Or.inl ⟨by kernel_rfl,fun W hW=>by have hc:=(((hS2 W).1 hW).1);go_simp⟩) hS ?_
  simp only [Act.put,List.setIfInBounds_toArray,List.set_cons_zero,List.set_cons_succ]
  refine zas 5 64 (.agg #[.int .i64 n.kind,.string (str n.name),.slice aa n.attrs.length ac,.string (str n.text),.int .i64 (t : Int),.slice none 0 0]) rfl rfl rfl (by kernel_rfl) (by kernel_rfl) (by kernel_rfl) (by kernel_rfl) (fun _ _ _ h=>h) (yieldsIf_load_mid (by kernel_rfl) 43 (Operand.tmp 3) rfl nb 0 (by kernel_rfl) [.int .i64 n.kind,.string (str n.name),.slice aa n.attrs.length ac,.string (str n.text),.int .i64 (t : Int),.slice none 0 0] _ (fun W hW=>((hS2 W).1 hW).2) Tryz.underlying43 rfl zlR) hS ?_
  simp only [Act.put,List.setIfInBounds_toArray,List.set_cons_zero,List.set_cons_succ]
  refine zal (i:=6) (by kernel_rfl) rfl (fun K hK=>?_)
  go_simp
  have hbA : Below X2.heap.size X2 (X2.alloc (.cells #[.int .i64 n.kind,.string (str n.name),.slice aa n.attrs.length ac,.string (str n.text),.int .i64 (t : Int),.slice none 0 0] 43)):=(Below.refl _ _).alloc (Nat.le_refl _) _
  have hQY:=hQX.below hbA
  have hNY:=(hbA.block nb (by omega)).trans hNX
  have rA:=zf1 X2 (.int .i64 n.kind) (.string (str n.name)) (.slice aa n.attrs.length ac) (.string (str n.text)) (.int .i64 (t : Int)) (.slice none 0 0) 43
  have hVY:=zbd.below hVX hbA
  have hkY : ∀ k,k < w.heap.size → k ≠ g → (X2.alloc (.cells #[.int .i64 n.kind,.string (str n.name),.slice aa n.attrs.length ac,.string (str n.text),.int .i64 (t : Int),.slice none 0 0] 43)).heap[k]? = w.heap[k]?:=fun k hk hkg=>(hbA.block k (Nat.lt_of_lt_of_le hk hszX)).trans (hkX k hk hkg)
  have hszY : w.heap.size ≤ (X2.alloc (.cells #[.int .i64 n.kind,.string (str n.name),.slice aa n.attrs.length ac,.string (str n.text),.int .i64 (t : Int),.slice none 0 0] 43)).heap.size:=Nat.le_trans hszX hbA.size
  have hbY : Below B w (X2.alloc (.cells #[.int .i64 n.kind,.string (str n.name),.slice aa n.attrs.length ac,.string (str n.text),.int .i64 (t : Int),.slice none 0 0] 43)):=hbX.trans (hbA.mono (by have:=hQX.bB;have:=hQX.lt;omega))
  refine hK.out _ _ (fun _=>(hS2 _).2 ⟨Lib.cell_of_heap hQY.blk 0,zaT hNY⟩) ?_
  have hS:=(hS2 (X2.alloc (.cells #[.int .i64 n.kind,.string (str n.name),.slice aa n.attrs.length ac,.string (str n.text),.int .i64 (t : Int),.slice none 0 0] 43))).2 ⟨Lib.cell_of_heap hQY.blk 0,zaT hNY⟩
  have hsY : X2.heap.size ≤ (X2.alloc (.cells #[.int .i64 n.kind,.string (str n.name),.slice aa n.attrs.length ac,.string (str n.text),.int .i64 (t : Int),.slice none 0 0] 43)).heap.size:=hbA.size
  generalize hXs : X2.heap.size = xs at *
  generalize X2.alloc (.cells #[.int .i64 n.kind,.string (str n.name),.slice aa n.attrs.length ac,.string (str n.text),.int .i64 (t : Int),.slice none 0 0] 43) = Y2 at *
  clear hK K hbA
  refine zal (i:=7) (by kernel_rfl) rfl (fun K hK=>?_)
  refine zdf rfl (.tmp 63) (.tmp 65) rfl B (.slice (some ⟨g,0,none⟩) ps.length c) ps2 (by kernel_rfl) hQY.row xs 1 (by kernel_rfl) _ _ _ _ _ _ rA (fun u hu=>by simp at hu;rcases hu with rfl | rfl | rfl | rfl | rfl | rfl <;> rfl) (by omega) (by have:=hQY.bB;have:=hQY.lt;omega) ?_
  intro v8 w8 h8 g8 hat8
  obtain ⟨xa8,xc8,e8⟩:=zcu h8 (by omega)
  rw [hl2] at e8
  subst e8
  have b8 : w8.cell? ⟨bb,0,none⟩ = some (.slice (some ⟨g,0,none⟩) ps.length c):=by
   rw [World.cell?_of_block (g8.block bb hQY.lt (fun e=>hQY.nof e.symm))]
   exact Lib.cell_of_heap hQY.blk 0
  have f8 : w8.frozen? ⟨bb,0,none⟩ = false:=by
   rw [World.frozen?_of_block (g8.block bb hQY.lt (fun e=>hQY.nof e.symm))]
   exact Lib.frozen_of_heap hQY.blk 0
  have hN8:=(g8.block nb (by omega) (fun e=>by have h8 : some nb = some g:=e;injection h8 with h8;omega)).trans hNY
  refine hK.out _ _ (fun _=>(hS2 _).2 ⟨b8,zaT hN8⟩) ?_
  have hS:=(hS2 w8).2 ⟨b8,zaT hN8⟩
  clear hK K
  refine zal (i:=8) (by kernel_rfl) rfl (fun K hK=>?_)
  go_simp
  refine hK.out _ _ (fun _=>hS) ?_
  clear hK K
  refine zal (i:=9) (by kernel_rfl) rfl (fun K hK=>?_)
  go_simp
  refine hK.out _ _ (fun _=>hS) ?_
  clear hK K
  refine zal (i:=10) (by kernel_rfl) rfl (fun K hK=>?_)
  go_simp
  refine hK.out _ _ (fun h=>absurd rfl h) ?_
  clear hK K
  refine za2 (by kernel_rfl) ?_ _
  have hb9 : Below B Y2 w8:=⟨g8.os,g8.tape,g8.output,g8.size,fun k hk=>g8.block k (by have:=hQY.bB;have:=hQY.lt;omega) (fun e=>by have h8 : some k = some g:=e;injection h8 with h8;omega)⟩
  obtain ⟨hQ9,hb9'⟩:=hQY.node (n:={ n with up:=(t : Int) }) h8 hnk g8 hat8 hVY HVO.out HVP.out hb9
  go_wp2
  go_ret2
  refine ⟨rfl,fun k hk hkb hkn=>?_,_,_,_,hQ9,?_,hbY.trans hb9'⟩
  ·have hkg : k ≠ g:=fun e=>hkn (by rw [e];rfl)
   exact (zaM w8 bb _ _ hkb).trans ((g8.block k (Nat.lt_of_lt_of_le hk hszY) (fun e=>hkn e.symm)).trans (hkY k hk hkg))
  rw [List.map_append,hps2]
  simp [hnk]
 ·go_simp
  have hbA : Below X.heap.size X (X.alloc (.cells #[.int .i64 (ps.length : Int)] 3)):=(Below.refl _ _).alloc (Nat.le_refl _) _
  have hQA:=hQX.below hbA
  have hbAX : Below X.heap.size X (X.alloc (.cells #[.int .i64 (ps.length : Int)] 3)):=hbA
  have cA:=Lib.cell_of_heap (zaf X (.cells #[.int .i64 (ps.length : Int)] 3)) 0
  refine hK.out _ _ (fun _=>HSQ.out _ hQA) ?_
  have hS:=HSQ.out _ hQA
  obtain ⟨y,hy⟩ : ∃ y,X.heap.size = y:=⟨_,rfl⟩
  rw [hy] at cA ⊢
  have hyX : X.heap.size ≤ y:=by rw [← hy];exact Nat.le_refl _
  clear hy
  generalize hYe : (X.alloc (.cells #[.int .i64 (ps.length : Int)] 3)) = Y at *
  clear hYe
  clear hK K hbA
  refine zal (i:=13) (by kernel_rfl) rfl (fun K hK=>?_)
  refine zdF rfl (.const (.slice none 0 0)) (.tmp 52) rfl B (.slice none 0 0) [] (by kernel_rfl) (za6.nil _ _) (.slice ka n0.kids.length kc) n0.kids (by kernel_rfl) (za6.reads (hQA.kds t _ hp0)) (by simp;omega) (Nat.le_trans hBX hbAX.size) ?_
  intro v5 w5 h5 g5 hat5
  have hb5:=za1 g5
  have hQ5:=hQA.below hb5
  have hb5X:=bel hbAX hb5
  have hf5 : ∀ k,v5.ownBlock = some k → X.heap.size ≤ k:=fun k e=>by
   rcases hat5 with h9 | h9
   ·rw [h9] at e
    cases e
   ·rw [h9] at e
    cases e
    exact hbAX.size
  have e5:=(za6.reads h5).form
  obtain ⟨xa5,xc5,e5⟩:=e5
  rw [List.nil_append] at e5 h5
  subst e5
  refine hK.out _ _ (fun _=>HSQ.out _ hQ5) ?_
  have hS:=HSQ.out _ hQ5
  clear hK K
  refine zal (i:=16) (by kernel_rfl) rfl (fun K hK=>?_)
  have c5:=(hb5.cell (p:=⟨y,0,none⟩) (zaK cA)).trans cA
  refine zcO rfl (.tmp 53) (.tmp 55) rfl B (.slice xa5 n0.kids.length xc5) n0.kids (by kernel_rfl) h5 y 1 (by kernel_rfl) (ps.length : Int) c5 hklb (Nat.le_trans hBX hb5X.size) ?_
  intro v7 w7 h7 g7 hat7
  have hf7 : ∀ k,v7.ownBlock = some k → X.heap.size ≤ k:=fun k e=>by
   rcases hat7 with h9 | h9
   ·rw [h9] at e
    exact hf5 k e
   ·rw [h9] at e
    cases e
    exact hb5X.size
  have hb7 : Below X.heap.size X w7:=hb5X.trans ⟨g7.os,g7.tape,g7.output,g7.size,fun k hk=>g7.block k (Nat.lt_of_lt_of_le hk hb5X.size) (fun e=>by have:=hf5 k e.symm;omega)⟩
  obtain ⟨xa7,xc7,e7⟩:=(za6.reads h7).form
  rw [List.length_append,List.length_singleton] at e7
  subst e7
  have hQ7:=hQX.below hb7
  have c7:=(hQ7.cell hp0 (i:=5) rfl).1
  have f7:=(hQ7.cell hp0 (i:=5) rfl).2
  refine hK.out _ _ (fun _=>HSQ.out _ hQ7) ?_
  have hS:=HSQ.out _ hQ7
  clear hK K
  refine zal (i:=17) (by kernel_rfl) rfl (fun K hK=>?_)
  go_simp
  refine hK.out _ _ (fun _=>hS) ?_
  clear hK K
  refine zas 18 58 (.pointer (some ⟨g,t * 6 + 5,none⟩)) rfl rfl rfl (by kernel_rfl) (by kernel_rfl) (by kernel_rfl) (by kernel_rfl) (fun _ _ _ h=>h) (Or.inl ⟨by kernel_rfl,fun W _=>by go_simp⟩) hS ?_
  simp only [Act.put,List.setIfInBounds_toArray,List.set_cons_zero,List.set_cons_succ]
  refine zal (i:=19) (by kernel_rfl) rfl (fun K hK=>?_)
  go_simp
  refine hK.out _ _ (fun h=>absurd rfl h) ?_
  clear hK K
  refine za2 (by kernel_rfl) ?_ _
  have hgX:=(World.ownsRow.lt hQX.row g rfl).2
  have hne : ∀ k,(Value.slice xa7 (n0.kids.length + 1) xc7).ownBlock = some k → k ≠ g ∧ k ≠ bb:=fun k e=>by
   have h1:=hf7 k e
   have h2:=hQX.lt
   exact ⟨by omega,by omega⟩
  have ha0:=hQ7.ats t _ hp0
  obtain ⟨hQ8,hb8⟩:=hQ7.put hp0 ({ n0 with kids:=n0.kids ++ [(ps.length : Int)] },va0,.slice xa7 (n0.kids.length + 1) xc7) 5 (.slice xa7 (n0.kids.length + 1) xc7) (by decide) rfl ha0 h7
   ⟨fun e=>hQX.apn _ (by simp [(zaB (List.mem_of_getElem? hp0)).1]) g e rfl,fun e=>hQX.off _ (by simp [(zaB (List.mem_of_getElem? hp0)).1]) e⟩ ⟨fun e=>(hne g e).1 rfl,fun e=>(hne bb e).2 rfl⟩
  have hnbX : nb < X.heap.size:=by have:=HSX.out;omega
  have hgnb : g < nb:=by have:=HNB.out;omega
  have hN8 : (w7.setCell ⟨g,t * 6 + 5,none⟩ (.slice xa7 (n0.kids.length + 1) xc7)).heap[nb]? = some (.cells #[.int .i64 n.kind,.string (str n.name),.slice aa n.attrs.length ac,.string (str n.text),.int .i64 (t : Int),.slice none 0 0] 43 (0,0)):=(zaM w7 g _ _ (fun e=>by omega)).trans ((hb7.block nb hnbX).trans hNX)
  have hV8 : zaN (w7.setCell ⟨g,t * 6 + 5,none⟩ (.slice xa7 (n0.kids.length + 1) xc7)) B (.slice aa n.attrs.length ac) n.attrs:=zae (zbd.below hVX hb7) (fun k e _=>zaM w7 g _ _ (fun e2=>HVP.out k e (by rw [e2];rfl)))
  have hbw8 : Below B w (w7.setCell ⟨g,t * 6 + 5,none⟩ (.slice xa7 (n0.kids.length + 1) xc7)):=((hbX.mono hBw).trans (hb7.mono hBX)).trans hb8
  have hkw8 : ∀ k,k < w.heap.size → k ≠ g → (w7.setCell ⟨g,t * 6 + 5,none⟩ (.slice xa7 (n0.kids.length + 1) xc7)).heap[k]? = w.heap[k]?:=fun k hk hkg=>(zaM w7 g _ _ hkg).trans ((hb7.block k (Nat.lt_of_lt_of_le hk hbX.size)).trans (hbX.block k hk))
  have hswX : w.heap.size ≤ (w7.setCell ⟨g,t * 6 + 5,none⟩ (.slice xa7 (n0.kids.length + 1) xc7)).heap.size:=by rw [zaW];exact Nat.le_trans hbX.size hb7.size
  have hs8 : nb < (w7.setCell ⟨g,t * 6 + 5,none⟩ (.slice xa7 (n0.kids.length + 1) xc7)).heap.size:=(Array.getElem?_eq_some_iff.1 hN8).1
  have hps2:=zcn ps t (n0,va0,(.slice ka n0.kids.length kc)) ({ n0 with kids:=n0.kids ++ [(ps.length : Int)] },va0,.slice xa7 (n0.kids.length + 1) xc7) (fun m=>{ m with kids:=m.kids ++ [(ps.length : Int)] }) hp0 rfl
  have hl2 : (ps.set t ({ n0 with kids:=n0.kids ++ [(ps.length : Int)] },va0,.slice xa7 (n0.kids.length + 1) xc7)).length = ps.length:=List.length_set ..
  generalize (ps.set t ({ n0 with kids:=n0.kids ++ [(ps.length : Int)] },va0,.slice xa7 (n0.kids.length + 1) xc7) : List PN) = ps2 at *
  obtain ⟨W2,hW2⟩ : ∃ W2,w7.setCell ⟨g,t * 6 + 5,none⟩ (.slice xa7 (n0.kids.length + 1) xc7) = W2:=⟨_,rfl⟩
  rw [hW2] at hQ8 hN8 hV8 hbw8 hs8 hkw8 hswX ⊢
  clear hW2 hb8 hQ7 c7 f7 HSX h7 g7 hat7 hf7 hf5 hb7 hQX hNX hVX hbX hS hS1 HSQ ha0 hne
  try clear h5
  try clear g5
  try clear hat5
  try clear hb5
  try clear hQ5
  try clear hb5X
  try clear hQA
  try clear hbAX
  try clear cA
  try clear h5A
  try clear c5
  go_upto_region 9 with fail
  obtain ⟨S2,hS2⟩ : ∃ S : World → Prop,∀ W,S W ↔ (W.cell? ⟨bb,0,none⟩ = some (.slice (some ⟨g,0,none⟩) ps.length c) ∧ W.rangeAt nb 0 [.int .i64 n.kind,.string (str n.name),.slice aa n.attrs.length ac,.string (str n.text),.int .i64 (t : Int),.slice none 0 0]):=⟨_,fun _=>Iff.rfl⟩
  have hdr : Below W2.heap.size W2 W2.drew:=(Below.refl _ _).drew
  have hQX:=hQ8.below hdr
  have hNX:=(hdr.block nb hs8).trans hN8
  have hVX:=zbd.below hV8 hdr
  have hbX : Below B w W2.drew:=hbw8.trans (Below.refl _ _).drew
  have hkX : ∀ k,k < w.heap.size → k ≠ g → W2.drew.heap[k]? = w.heap[k]?:=hkw8
  have hszX : w.heap.size ≤ W2.drew.heap.size:=hswX
  have hsX : nb < W2.drew.heap.size:=hs8
  refine zba (S:=S2) 10 (by kernel_rfl) ((hS2 _).2 ⟨Lib.cell_of_heap hQX.blk 0,zaT hNX⟩) (fun hS=>?_)
  clear hdr hQ8 hN8 hV8 hbw8 hs8 hkw8 hswX
  generalize W2.drew = X2 at *
  refine zas 0 59 (.pointer (some ⟨bb,0,none⟩)) rfl rfl rfl (by kernel_rfl) (by kernel_rfl) (by kernel_rfl) (by kernel_rfl) (fun _ _ _ h=>h) (Or.inl ⟨by kernel_rfl,fun W _=>by go_simp⟩) hS ?_
  simp only [Act.put,List.setIfInBounds_toArray,List.set_cons_zero,List.set_cons_succ]
  refine zas 1 60 (.pointer (some ⟨bb,0,none⟩)) rfl rfl rfl (by kernel_rfl) (by kernel_rfl) (by kernel_rfl) (by kernel_rfl) (fun _ _ _ h=>h) (Or.inl ⟨by kernel_rfl,fun W _=>by go_simp⟩) hS ?_
  simp only [Act.put,List.setIfInBounds_toArray,List.set_cons_zero,List.set_cons_succ]
  refine zas 2 61 (.pointer (some ⟨bb,0,none⟩)) rfl rfl rfl (by kernel_rfl) (by kernel_rfl) (by kernel_rfl) (by kernel_rfl) (fun _ _ _ h=>h) (Or.inl ⟨by kernel_rfl,fun W _=>by go_simp⟩) hS ?_
  simp only [Act.put,List.setIfInBounds_toArray,List.set_cons_zero,List.set_cons_succ]
  refine zas 3 62 (.pointer (some ⟨bb,0,none⟩)) rfl rfl rfl (by kernel_rfl) (by kernel_rfl) (by kernel_rfl) (by kernel_rfl) (fun _ _ _ h=>h) (Or.inl ⟨by kernel_rfl,fun W _=>by go_simp⟩) hS ?_
  simp only [Act.put,List.setIfInBounds_toArray,List.set_cons_zero,List.set_cons_succ]
  refine zas 4 63 (.slice (some ⟨g,0,none⟩) ps.length c) rfl rfl rfl (by kernel_rfl) (by kernel_rfl) (by kernel_rfl) (by kernel_rfl) (fun _ _ _ h=>h) (Or.inl ⟨by kernel_rfl,fun W hW=>by have hc:=(((hS2 W).1 hW).1);go_simp⟩) hS ?_
  simp only [Act.put,List.setIfInBounds_toArray,List.set_cons_zero,List.set_cons_succ]
  refine zas 5 64 (.agg #[.int .i64 n.kind,.string (str n.name),.slice aa n.attrs.length ac,.string (str n.text),.int .i64 (t : Int),.slice none 0 0]) rfl rfl rfl (by kernel_rfl) (by kernel_rfl) (by kernel_rfl) (by kernel_rfl) (fun _ _ _ h=>h) (yieldsIf_load_mid (by kernel_rfl) 43 (Operand.tmp 3) rfl nb 0 (by kernel_rfl) [.int .i64 n.kind,.string (str n.name),.slice aa n.attrs.length ac,.string (str n.text),.int .i64 (t : Int),.slice none 0 0] _ (fun W hW=>((hS2 W).1 hW).2) Tryz.underlying43 rfl zlR) hS ?_
  simp only [Act.put,List.setIfInBounds_toArray,List.set_cons_zero,List.set_cons_succ]
  refine zal (i:=6) (by kernel_rfl) rfl (fun K hK=>?_)
  go_simp
  have hbA : Below X2.heap.size X2 (X2.alloc (.cells #[.int .i64 n.kind,.string (str n.name),.slice aa n.attrs.length ac,.string (str n.text),.int .i64 (t : Int),.slice none 0 0] 43)):=(Below.refl _ _).alloc (Nat.le_refl _) _
  have hQY:=hQX.below hbA
  have hNY:=(hbA.block nb (by omega)).trans hNX
  have rA:=zf1 X2 (.int .i64 n.kind) (.string (str n.name)) (.slice aa n.attrs.length ac) (.string (str n.text)) (.int .i64 (t : Int)) (.slice none 0 0) 43
  have hVY:=zbd.below hVX hbA
  have hkY : ∀ k,k < w.heap.size → k ≠ g → (X2.alloc (.cells #[.int .i64 n.kind,.string (str n.name),.slice aa n.attrs.length ac,.string (str n.text),.int .i64 (t : Int),.slice none 0 0] 43)).heap[k]? = w.heap[k]?:=fun k hk hkg=>(hbA.block k (Nat.lt_of_lt_of_le hk hszX)).trans (hkX k hk hkg)
  have hszY : w.heap.size ≤ (X2.alloc (.cells #[.int .i64 n.kind,.string (str n.name),.slice aa n.attrs.length ac,.string (str n.text),.int .i64 (t : Int),.slice none 0 0] 43)).heap.size:=Nat.le_trans hszX hbA.size
  have hbY : Below B w (X2.alloc (.cells #[.int .i64 n.kind,.string (str n.name),.slice aa n.attrs.length ac,.string (str n.text),.int .i64 (t : Int),.slice none 0 0] 43)):=hbX.trans (hbA.mono (by have:=hQX.bB;have:=hQX.lt;omega))
  refine hK.out _ _ (fun _=>(hS2 _).2 ⟨Lib.cell_of_heap hQY.blk 0,zaT hNY⟩) ?_
  have hS:=(hS2 (X2.alloc (.cells #[.int .i64 n.kind,.string (str n.name),.slice aa n.attrs.length ac,.string (str n.text),.int .i64 (t : Int),.slice none 0 0] 43))).2 ⟨Lib.cell_of_heap hQY.blk 0,zaT hNY⟩
  have hsY : X2.heap.size ≤ (X2.alloc (.cells #[.int .i64 n.kind,.string (str n.name),.slice aa n.attrs.length ac,.string (str n.text),.int .i64 (t : Int),.slice none 0 0] 43)).heap.size:=hbA.size
  generalize hXs : X2.heap.size = xs at *
  generalize X2.alloc (.cells #[.int .i64 n.kind,.string (str n.name),.slice aa n.attrs.length ac,.string (str n.text),.int .i64 (t : Int),.slice none 0 0] 43) = Y2 at *
  clear hK K hbA
  refine zal (i:=7) (by kernel_rfl) rfl (fun K hK=>?_)
  refine zdf rfl (.tmp 63) (.tmp 65) rfl B (.slice (some ⟨g,0,none⟩) ps.length c) ps2 (by kernel_rfl) hQY.row xs 1 (by kernel_rfl) _ _ _ _ _ _ rA (fun u hu=>by simp at hu;rcases hu with rfl | rfl | rfl | rfl | rfl | rfl <;> rfl) (by omega) (by have:=hQY.bB;have:=hQY.lt;omega) ?_
  intro v8 w8 h8 g8 hat8
  obtain ⟨xa8,xc8,e8⟩:=zcu h8 (by omega)
  rw [hl2] at e8
  subst e8
  have b8 : w8.cell? ⟨bb,0,none⟩ = some (.slice (some ⟨g,0,none⟩) ps.length c):=by
   rw [World.cell?_of_block (g8.block bb hQY.lt (fun e=>hQY.nof e.symm))]
   exact Lib.cell_of_heap hQY.blk 0
  have f8 : w8.frozen? ⟨bb,0,none⟩ = false:=by
   rw [World.frozen?_of_block (g8.block bb hQY.lt (fun e=>hQY.nof e.symm))]
   exact Lib.frozen_of_heap hQY.blk 0
  have hN8:=(g8.block nb (by omega) (fun e=>by have h8 : some nb = some g:=e;injection h8 with h8;omega)).trans hNY
  refine hK.out _ _ (fun _=>(hS2 _).2 ⟨b8,zaT hN8⟩) ?_
  have hS:=(hS2 w8).2 ⟨b8,zaT hN8⟩
  clear hK K
  refine zal (i:=8) (by kernel_rfl) rfl (fun K hK=>?_)
  go_simp
  refine hK.out _ _ (fun _=>hS) ?_
  clear hK K
  refine zal (i:=9) (by kernel_rfl) rfl (fun K hK=>?_)
  go_simp
  refine hK.out _ _ (fun _=>hS) ?_
  clear hK K
  refine zal (i:=10) (by kernel_rfl) rfl (fun K hK=>?_)
  go_simp
  refine hK.out _ _ (fun h=>absurd rfl h) ?_
  clear hK K
  refine za2 (by kernel_rfl) ?_ _
  have hb9 : Below B Y2 w8:=⟨g8.os,g8.tape,g8.output,g8.size,fun k hk=>g8.block k (by have:=hQY.bB;have:=hQY.lt;omega) (fun e=>by have h8 : some k = some g:=e;injection h8 with h8;omega)⟩
  obtain ⟨hQ9,hb9'⟩:=hQY.node (n:={ n with up:=(t : Int) }) h8 hnk g8 hat8 hVY HVO.out HVP.out hb9
  go_wp2
  go_ret2
  refine ⟨rfl,fun k hk hkb hkn=>?_,_,_,_,hQ9,?_,hbY.trans hb9'⟩
  ·have hkg : k ≠ g:=fun e=>hkn (by rw [e];rfl)
   exact (zaM w8 bb _ _ hkb).trans ((g8.block k (Nat.lt_of_lt_of_le hk hszY) (fun e=>hkn e.symm)).trans (hkY k hk hkg))
  rw [List.map_append,hps2]
  simp [hnk]
end
end Go.Proofs.YtiodaahncadodaaGreatDoor
namespace Go.Proofs.YtiodaahncadodaaGreatDoor
open Go.RowKit
def zgD (B bb : Nat) (w : World) (r : Except Nat Tre.St) (e : Ending) (w' : World) : Prop:=match r with
 | .error n=>e = .returned (.int .i64 (n : Int)) ∧ Below B w w'
 | .ok b=>e = .returned (.int .i64 0) ∧ zoV B bb w b w'
theorem zoV.base {B bb : Nat} {w W w' : World} {b : Tre.St} (h : zoV B bb W b w') (hb : Below B w W) : zoV B bb w b w':=by
 obtain ⟨nv,ov,ps,h1,h2,h3⟩:=h
 exact ⟨nv,ov,ps,h1,h2,hb.trans h3⟩
section
variable {w : World} {B bb : Nat} {nv ov : Value} {ps : List PN} {op : List Nat}
theorem zcR {M : Nat} (h : QAt w B bb nv ov ps op) (hOk : Tre.Ok ⟨ps.map (·.1),op⟩ M) (n : Nd) (hnk : n.kids = []) (aa : Option Addr) (ac : Nat)
  (hva : zaN w B (.slice aa n.attrs.length ac) n.attrs) (hvo : (Value.slice aa n.attrs.length ac).ownBlock ≠ some bb) (hvap : ApK (.slice aa n.attrs.length ac) nv) :
  Calls Tryz.prog 58 #[.pointer (some ⟨bb,0,none⟩),zk1 n aa ac] w (match Tre.lay ⟨ps.map (·.1),op⟩ n with
   | .error k=>QLay B bb nv w 0 k none
   | .ok b=>QLay B bb nv w ps.length 0 (some b)):=by
 have hlm : (ps.map (·.1)).length = ps.length:=List.length_map ..
 have hl:=hOk.len
 have ho:=hOk.op1
 simp only at hl ho
 rw [hlm] at hl
 unfold Tre.lay
 by_cases h1 : 4096 ≤ ps.length
 ·have e1 : (4096 ≤ (ps.map (·.1)).length) = True:=by rw [hlm];simp [h1]
  simp only [e1,if_true]
  exact zoW h (by omega) n aa ac
 ·have e1 : (4096 ≤ (ps.map (·.1)).length) = False:=by rw [hlm];simp [h1]
  simp only [e1,if_false]
  by_cases h2 : 64 < op.length
  ·simp only [h2,if_true]
   exact zoX h (by omega) (by omega) h2 n aa ac
  ·simp only [h2,if_false]
   have ht:=Tre.top_in hOk
   simp only [hlm] at ht
   have:=zsB h (by omega) (by omega) ho.1 ht n hnk aa ac (fun i p hp=>by
    have:=(hOk.kids p.1 (ziW hOk hp)).1
    simp only [hlm] at this
    omega) hva hvo hvap
   simp only [hlm]
   exact this
theorem zoY {M : Nat} (h : QAt w B bb nv ov ps op) (hOk : Tre.Ok ⟨ps.map (·.1),op⟩ M) (x : List UInt8) (hM : M ≤ 100000000000) (hx : x.length ≤ 100000000000) :
  Calls Tryz.prog 27 #[.pointer (some ⟨bb,0,none⟩),.string (str x)] w (zgD B bb w (Tre.zn9 ⟨ps.map (·.1),op⟩ x)):=by
 have hlm : (ps.map (·.1)).length = ps.length:=List.length_map ..
 have hl:=hOk.len
 have ho:=hOk.op1
 have ht:=Tre.top_in hOk
 simp only [hlm] at hl ho ht
 replace ht : op.getLastD 0 < ps.length:=ht
 have hBw : B ≤ w.heap.size:=Nat.le_trans h.bB (Nat.le_of_lt h.lt)
 have HL:=zaa (fun W (hb : Below w.heap.size w W)=>zcR (h.below hb) hOk ⟨3,[],[],x,0,[]⟩ rfl none 0 (zbd.nil _ _ _) (fun e=>by cases e) (fun k e _=>by cases e))
 obtain ⟨g,c,rfl,hc,hBg,hgl,hgb⟩:=h.nform (by omega)
 obtain ⟨go,co,rfl,hco,hgol,hcell⟩:=h.oform ho.1
 obtain ⟨p0,hp0⟩ : ∃ p,ps[op.getLastD 0]? = some p:=⟨_,List.getElem?_eq_getElem ht⟩
 have htx : Tre.zn9 ⟨ps.map (·.1),op⟩ x = match p0.1.kids.getLast? with
  | some i=>if (Tre.zaC (ps.map (·.1)) i.toNat).kind = 3 then .ok ⟨(ps.map (·.1)).modify i.toNat (fun m=>{ m with text:=m.text ++ x }),op⟩ else Tre.lay ⟨ps.map (·.1),op⟩ ⟨3,[],[],x,0,[]⟩
  | none=>Tre.lay ⟨ps.map (·.1),op⟩ ⟨3,[],[],x,0,[]⟩:=by
  unfold Tre.zn9 Tre.top
  simp only
  rw [zcP hp0]
  rfl
 rw [htx]
 have HkO:=hOk.kids p0.1 (ziW hOk hp0)
 have HOk:=zaa hOk
 have H:=zaa h
 obtain ⟨n0,va0,vk0⟩:=p0
 obtain ⟨ka,kc,e0⟩:=(za6.reads (h.kds _ _ hp0)).form
 simp only at e0 HkO htx
 subst e0
 have hrk:=za6.reads (h.kds _ _ hp0)
 have c0 : w.cell? ⟨bb,0,none⟩ = some (.slice (some ⟨g,0,none⟩) ps.length c):=Lib.cell_of_heap h.blk 0
 have c1 : w.cell? ⟨bb,1,none⟩ = some (.slice (some ⟨go,0,none⟩) op.length co):=Lib.cell_of_heap h.blk 1
 have c5:=(h.cell hp0 (i:=5) rfl).1
 have ct:=hcell _ _ (zhM ho.1)
 obtain ⟨m,hm⟩ : ∃ m,op.length = m + 1:=⟨op.length - 1,by omega⟩
 have hop65 : m ≤ 64:=by omega
 rw [hm] at ct c1 hco
 rw [Nat.add_sub_cancel] at ct
 have HRK:=zaa hrk
 have HM:=zaa hm
 clear h hOk htx hrk hcell hm
 generalize hg : op.getLastD 0 = t at *
 have HG:=zaa hg
 simp only [hlm] at HkO
 clear hg hp0 ho
 have hB0 : ∀ m,Below w.heap.size w (w.drewN m):=fun m=>zav ⟨m,rfl⟩
 cases hk : n0.kids.getLast? with
 | none =>
  have hk0 : n0.kids.length = 0:=by rw [List.getLast?_eq_none_iff.1 hk];rfl
  have q : ¬ (0 : Int) < (n0.kids.length : Int):=by omega
  have hke : n0.kids = []:=List.getLast?_eq_none_iff.1 hk
  rw [hke] at c5
  clear hk hk0 q
  simp only [List.length_nil] at c5
  simp only
  cases hlay : Tre.lay ⟨ps.map (·.1),op⟩ (⟨3,[],[],x,0,[]⟩ : Nd) with
  | error k =>
   rw [hlay] at HL
   clear hlay
   go_enter Tryz.func27,Tryz.ntmps27
   go_upto_region 1 with fail
   go_quiet (fail)
   go_upto_region 3 with fail
   go_quiet (fail)
   go_wp2_with (go_at_call 58;refine (HL.out _ (hB0 _)).mono ?_;rintro e w2 ⟨rfl,_,hp⟩;have HP:=zaa hp;clear hp)
   go_ret
   exact ⟨rfl,(zbh B w _).trans HP.out⟩
  | ok b' =>
   rw [hlay] at HL
   clear hlay
   go_enter Tryz.func27,Tryz.ntmps27
   go_upto_region 1 with fail
   go_quiet (fail)
   go_upto_region 3 with fail
   go_quiet (fail)
   go_wp2_with (go_at_call 58;refine (HL.out _ (hB0 _)).mono ?_;rintro e w2 ⟨rfl,_,hp⟩;have HP:=zaa hp;clear hp)
   go_ret
   exact ⟨rfl,zoV.base HP.out (zbh B w _)⟩
 | some i =>
  have hil:=List.getLast?_eq_getElem? ▸ hk
  have hkl : 1 ≤ n0.kids.length:=by
   cases hq : n0.kids with
   | nil=>rw [hq] at hk;cases hk
   | cons a l=>simp
  have hi:=HkO.2 i (List.mem_of_getLast? hk)
  obtain ⟨j,rfl⟩ : ∃ j : Nat,i = (j : Int):=⟨i.toNat,by omega⟩
  have hj : j < ps.length:=by omega
  obtain ⟨b5,o5,e5,hc5,hb5,ck⟩:=HRK.out.at hil
  subst e5
  obtain ⟨p1,hp1⟩ : ∃ p,ps[j]? = some p:=⟨_,List.getElem?_eq_getElem hj⟩
  obtain ⟨n1,va1,vk1⟩:=p1
  have cK : w.cell? ⟨g,j * 6,none⟩ = some (.int .i64 n1.kind):=(H.out.cell hp1 (i:=0) rfl).1
  have cT:=(H.out.cell hp1 (i:=3) rfl).1
  have fT:=(H.out.cell hp1 (i:=3) rfl).2
  have hnd:=zcP hp1
  have e6 : ((j : Int)).toNat = j:=by omega
  have HP1:=zaa hp1
  simp only at cK cT hnd
  simp only [e6,hnd]
  obtain ⟨kl,hkl2⟩ : ∃ kl,n0.kids.length = kl + 1:=⟨n0.kids.length - 1,by omega⟩
  have q : (0 : Int) < ((kl : Int) + 1):=by omega
  rw [hkl2,Nat.add_sub_cancel] at ck
  rw [hkl2] at hc5
  have hkl4 : kl + 1 ≤ 4096:=by omega
  clear hil hi hk e6 hnd hp1
  by_cases h3 : n1.kind = 3
  ·rw [if_pos h3]
   have q3 : (n1.kind == 3) = true:=by rw [h3];rfl
   have htl:=HOk.out.tx n1 (ziW HOk.out HP1.out)
   have hz1 : (str n1.text).size ≤ 100000000000:=by rw [zad];omega
   have hz2 : (str x).size ≤ 100000000000:=by rw [zad];omega
   have hCat : str n1.text ++ str x = str (n1.text ++ x):=by
    apply zcS
    rw [ByteArray.data_append,Array.toList_append,zam,zam]
   have HQ:=zaa (fun X (hb : Below w.heap.size w X)=>(H.out.below hb).put HP1.out ({ n1 with text:=n1.text ++ x },va1,vk1) 3 (.string (str (n1.text ++ x))) (by decide) rfl ((H.out.below hb).ats j (n1,va1,vk1) HP1.out) ((H.out.below hb).kds j (n1,va1,vk1) HP1.out) ⟨fun e=>H.out.apn _ (by simp [(zaB (List.mem_of_getElem? HP1.out)).1]) g e rfl,H.out.off _ (by simp [(zaB (List.mem_of_getElem? HP1.out)).1])⟩ ⟨fun e=>H.out.apn _ (by simp [(zaB (List.mem_of_getElem? HP1.out)).2]) g e rfl,H.out.off _ (by simp [(zaB (List.mem_of_getElem? HP1.out)).2])⟩)
   have HMap:=zaa (zcn ps j (n1,va1,vk1) ({ n1 with text:=n1.text ++ x },va1,vk1) (fun m=>{ m with text:=m.text ++ x }) HP1.out rfl)
   clear h3 HL htl
   go_enter Tryz.func27,Tryz.ntmps27
   go_upto_region 1 with fail
   go_quiet (fail)
   generalize nq = na at *
   go_upto_region 3 with fail
   go_quiet (fail)
   go_upto_region 4 with fail
   obtain ⟨S,hS1⟩ : ∃ S : World → Prop,∀ W,S W ↔ (W.cell? ⟨bb,0,none⟩ = some (.slice (some ⟨g,0,none⟩) ps.length c) ∧ W.cell? ⟨b5,o5 + kl,none⟩ = some (.int .i64 (j : Int)) ∧ W.cell? ⟨g,j * 6 + 3,none⟩ = some (.string (str n1.text)) ∧ W.frozen? ⟨g,j * 6 + 3,none⟩ = false):=⟨_,fun _=>Iff.rfl⟩
   refine zba (S:=S) 17 (by kernel_rfl) ((hS1 _).2 ⟨c0,ck,cT,fT⟩) (fun hS=>?_)
   obtain ⟨X,hX⟩ : ∃ X,((w.drewN na).drewN nq).drew = X:=⟨_,rfl⟩
   rw [hX] at hS ⊢
   have HX:=zaa hX
   clear hX
   refine zas 0 48 (.pointer (some ⟨bb,0,none⟩)) rfl rfl rfl (by kernel_rfl) (by kernel_rfl) (by kernel_rfl) (by kernel_rfl) (fun _ _ _ h=>h) (Or.inl ⟨by kernel_rfl,fun W _=>by go_simp⟩) hS ?_
   simp only [Act.put,List.setIfInBounds_toArray,List.set_cons_zero,List.set_cons_succ]
   refine zas 1 49 (.pointer (some ⟨bb,0,none⟩)) rfl rfl rfl (by kernel_rfl) (by kernel_rfl) (by kernel_rfl) (by kernel_rfl) (fun _ _ _ h=>h) (Or.inl ⟨by kernel_rfl,fun W _=>by go_simp⟩) hS ?_
   simp only [Act.put,List.setIfInBounds_toArray,List.set_cons_zero,List.set_cons_succ]
   refine zas 2 50 (.pointer (some ⟨bb,0,none⟩)) rfl rfl rfl (by kernel_rfl) (by kernel_rfl) (by kernel_rfl) (by kernel_rfl) (fun _ _ _ h=>h) (Or.inl ⟨by kernel_rfl,fun W _=>by go_simp⟩) hS ?_
   simp only [Act.put,List.setIfInBounds_toArray,List.set_cons_zero,List.set_cons_succ]
   refine zas 3 51 (.slice (some ⟨g,0,none⟩) ps.length c) rfl rfl rfl (by kernel_rfl) (by kernel_rfl) (by kernel_rfl) (by kernel_rfl) (fun _ _ _ h=>h) (Or.inl ⟨by kernel_rfl,fun W hW=>by have hc:=(((hS1 W).1 hW).1);go_simp⟩) hS ?_
   simp only [Act.put,List.setIfInBounds_toArray,List.set_cons_zero,List.set_cons_succ]
   refine zas 4 52 (.slice (some ⟨b5,o5,none⟩) (kl + 1) kc) rfl rfl rfl (by kernel_rfl) (by kernel_rfl) (by kernel_rfl) (by kernel_rfl) (fun _ _ _ h=>h) (Or.inl ⟨by kernel_rfl,fun W _=>by go_simp⟩) hS ?_
   simp only [Act.put,List.setIfInBounds_toArray,List.set_cons_zero,List.set_cons_succ]
   refine zas 5 53 (.slice (some ⟨b5,o5,none⟩) (kl + 1) kc) rfl rfl rfl (by kernel_rfl) (by kernel_rfl) (by kernel_rfl) (by kernel_rfl) (fun _ _ _ h=>h) (Or.inl ⟨by kernel_rfl,fun W _=>by go_simp⟩) hS ?_
   simp only [Act.put,List.setIfInBounds_toArray,List.set_cons_zero,List.set_cons_succ]
   refine zas 6 54 (.int .i64 ((kl : Int) + 1)) rfl rfl rfl (by kernel_rfl) (by kernel_rfl) (by kernel_rfl) (by kernel_rfl) (fun _ _ _ h=>h) (Or.inl ⟨by kernel_rfl,fun W _=>by go_simp⟩) hS ?_
   simp only [Act.put,List.setIfInBounds_toArray,List.set_cons_zero,List.set_cons_succ]
   refine zas 7 55 (.int .i64 (kl : Int)) rfl rfl rfl (by kernel_rfl) (by kernel_rfl) (by kernel_rfl) (by kernel_rfl) (fun _ _ _ h=>h) (Or.inl ⟨by kernel_rfl,fun W _=>by go_simp;exact wrap_small _ (by omega) (by omega)⟩) hS ?_
   simp only [Act.put,List.setIfInBounds_toArray,List.set_cons_zero,List.set_cons_succ]
   refine zas 8 56 (.pointer (some ⟨b5,o5 + kl,none⟩)) rfl rfl rfl (by kernel_rfl) (by kernel_rfl) (by kernel_rfl) (by kernel_rfl) (fun _ _ _ h=>h) (Or.inl ⟨by kernel_rfl,fun W _=>by go_simp;intro h;omega⟩) hS ?_
   simp only [Act.put,List.setIfInBounds_toArray,List.set_cons_zero,List.set_cons_succ]
   refine zas 9 57 (.int .i64 (j : Int)) rfl rfl rfl (by kernel_rfl) (by kernel_rfl) (by kernel_rfl) (by kernel_rfl) (fun _ _ _ h=>h) (Or.inl ⟨by kernel_rfl,fun W hW=>by have hc:=(((hS1 W).1 hW).2.1);go_simp⟩) hS ?_
   simp only [Act.put,List.setIfInBounds_toArray,List.set_cons_zero,List.set_cons_succ]
   refine zas 10 58 (.pointer (some ⟨g,j * 6,none⟩)) rfl rfl rfl (by kernel_rfl) (by kernel_rfl) (by kernel_rfl) (by kernel_rfl) (fun _ _ _ h=>h) (Or.inl ⟨by kernel_rfl,fun W _=>by go_simp⟩) hS ?_
   simp only [Act.put,List.setIfInBounds_toArray,List.set_cons_zero,List.set_cons_succ]
   refine zas 11 59 (.pointer (some ⟨g,j * 6 + 3,none⟩)) rfl rfl rfl (by kernel_rfl) (by kernel_rfl) (by kernel_rfl) (by kernel_rfl) (fun _ _ _ h=>h) (Or.inl ⟨by kernel_rfl,fun W _=>by go_simp⟩) hS ?_
   simp only [Act.put,List.setIfInBounds_toArray,List.set_cons_zero,List.set_cons_succ]
   refine zas 12 60 (.string (str n1.text)) rfl rfl rfl (by kernel_rfl) (by kernel_rfl) (by kernel_rfl) (by kernel_rfl) (fun _ _ _ h=>h) (Or.inl ⟨by kernel_rfl,fun W hW=>by have hc:=(((hS1 W).1 hW).2.2.1);go_simp⟩) hS ?_
   simp only [Act.put,List.setIfInBounds_toArray,List.set_cons_zero,List.set_cons_succ]
   refine zas 13 61 (.string (str x)) rfl rfl rfl (by kernel_rfl) (by kernel_rfl) (by kernel_rfl) (by kernel_rfl) (fun _ _ _ h=>h) (Or.inl ⟨by kernel_rfl,fun W _=>by go_simp⟩) hS ?_
   simp only [Act.put,List.setIfInBounds_toArray,List.set_cons_zero,List.set_cons_succ]
   refine zas 14 62 (.string (str (n1.text ++ x))) rfl rfl rfl (by kernel_rfl) (by kernel_rfl) (by kernel_rfl) (by kernel_rfl) (fun _ _ _ h=>h) (Or.inl ⟨by kernel_rfl,fun W _=>by rw [← hCat];go_simp;omega⟩) hS ?_
   simp only [Act.put,List.setIfInBounds_toArray,List.set_cons_zero,List.set_cons_succ]
   refine zal (i:=15) (by kernel_rfl) rfl (fun K hK=>?_)
   go_simp
   refine hK.out _ _ (fun _=>hS) ?_
   clear hK K
   refine zas 16 64 (.pointer (some ⟨g,j * 6 + 3,none⟩)) rfl rfl rfl (by kernel_rfl) (by kernel_rfl) (by kernel_rfl) (by kernel_rfl) (fun _ _ _ h=>h) (Or.inl ⟨by kernel_rfl,fun W _=>by go_simp⟩) hS ?_
   simp only [Act.put,List.setIfInBounds_toArray,List.set_cons_zero,List.set_cons_succ]
   refine zal (i:=17) (by kernel_rfl) rfl (fun K hK=>?_)
   obtain ⟨_,_,cT9,fT9⟩:=(hS1 _).1 hS
   go_simp
   refine hK.out _ _ (fun h=>absurd rfl h) ?_
   clear hK K
   refine za2 (by kernel_rfl) ?_ _
   go_wp2
   go_ret
   have hbX : ∀ C,Below C w X:=fun C=>by
    rw [← HX.out]
    exact ((zbh C w na).trans (zbh C (w.drewN na) nq)).trans (Below.refl _ _).drew
   obtain ⟨hq1,hq2⟩:=HQ.out X (hbX _)
   exact ⟨rfl,_,_,_,hq1,HMap.out,(hbX B).trans hq2⟩
  ·rw [if_neg h3]
   have q3 : (n1.kind == 3) = false:=beq_eq_false_iff_ne.2 h3
   clear h3
   cases hlay : Tre.lay ⟨ps.map (·.1),op⟩ (⟨3,[],[],x,0,[]⟩ : Nd) with
   | error k =>
    rw [hlay] at HL
    clear hlay
    go_enter Tryz.func27,Tryz.ntmps27
    go_upto_region 1 with fail
    go_quiet (fail)
    go_upto_region 3 with fail
    go_quiet (fail)
    go_wp2_with (go_at_call 58;refine (HL.out _ (hB0 _)).mono ?_;rintro e w2 ⟨rfl,_,hp⟩;have HP:=zaa hp;clear hp)
    go_ret
    exact ⟨rfl,(zbh B w _).trans HP.out⟩
   | ok b' =>
    rw [hlay] at HL
    clear hlay
    go_enter Tryz.func27,Tryz.ntmps27
    go_upto_region 1 with fail
    go_quiet (fail)
    go_upto_region 3 with fail
    go_quiet (fail)
    go_wp2_with (go_at_call 58;refine (HL.out _ (hB0 _)).mono ?_;rintro e w2 ⟨rfl,_,hp⟩;have HP:=zaa hp;clear hp)
    go_ret
    exact ⟨rfl,zoV.base HP.out (zbh B w _)⟩
end
end Go.Proofs.YtiodaahncadodaaGreatDoor
namespace Go.Proofs.YtiodaahncadodaaGreatDoor
open Go.RowKit
theorem zdT (l : List UInt8) (w : World) :
  Calls Tryz.prog 59 #[.string (str l)] w fun e w'=>e = .returned (.bool (Tre.zgS l)) ∧ Below w.heap.size w w':=by
 have h1:=zb6 w Tre.voidNames (by decide)
 have hb : Below w.heap.size w (w.alloc (.cells (Tre.voidNames.map zcf).toArray 9)):=(Below.refl _ _).alloc (Nat.le_refl _) _
 have hc:=zdn Tre.voidNames _ l _ h1.reads (by decide)
 rw [show Tre.voidNames.contains l = Tre.zgS l from rfl] at hc
 have HC:=zaa hc
 have HB:=zaa hb
 clear h1 hb hc
 go_enter Tryz.func59,Tryz.ntmps59
 go_wp2_with (go_at_call 60;refine HC.out.mono ?_;rintro e w1 ⟨rfl,he⟩;rw [he];clear he)
 go_ret
 exact ⟨zac rfl,HB.out⟩
theorem zjf (l : List UInt8) (w : World) :
  Calls Tryz.prog 98 #[.string (str l)] w fun e w'=>e = .returned (.bool (Tre.zsf l)) ∧ Below w.heap.size w w':=by
 have h1:=zb6 w Tre.blockNames (by decide)
 have hb : Below w.heap.size w (w.alloc (.cells (Tre.blockNames.map zcf).toArray 9)):=(Below.refl _ _).alloc (Nat.le_refl _) _
 have hc:=zdn Tre.blockNames _ l _ h1.reads (by decide)
 rw [show Tre.blockNames.contains l = Tre.zsf l from rfl] at hc
 have HC:=zaa hc
 have HB:=zaa hb
 clear h1 hb hc
 go_enter Tryz.func98,Tryz.ntmps98
 go_wp2_with (go_at_call 60;refine HC.out.mono ?_;rintro e w1 ⟨rfl,he⟩;rw [he];clear he)
 go_ret
 exact ⟨zac rfl,HB.out⟩
def zoZ (w : World) (x : List (List UInt8) × List (List UInt8)) (e : Ending) (w' : World) : Prop:=∃ v1 v2,e = .returned (.tuple #[v1,v2]) ∧ zaw w' v1 x.1 ∧ zaw w' v2 x.2 ∧ Below w.heap.size w w'
theorem zcx (w : World) (cs bs : List (List UInt8)) (ha : cs.length ≤ 1000) (hb : bs.length ≤ 1000) : zoZ w (cs,bs) (.returned (.tuple #[.slice (some ⟨w.heap.size,0,none⟩) cs.length cs.length,.slice (some ⟨w.heap.size + 1,0,none⟩) bs.length bs.length])) ((w.alloc (.cells (cs.map zcf).toArray 9)).alloc (.cells (bs.map zcf).toArray 9)):=by
 obtain ⟨h1,h2,h3⟩:=zcN w cs bs ha hb
 exact ⟨_,_,rfl,h1 _ _ (Below.refl _ _) (World.grownBy.refl _ _),h2.reads,h3⟩
theorem zdU (l : List UInt8) (w : World) :
  Calls Tryz.prog 57 #[.string (str l)] w (zoZ w (Tre.zgU l)):=by
 by_cases h0 : l = [108,105]
 ·have HL : Hid (Tre.zgU l = ([[108,105]],[[111,108],[117,108]])):=by show _ = _;rw [h0];decide +kernel
  have q0:=zag h0
  clear h0
  go_enter Tryz.func57,Tryz.ntmps57
  go_wp2
  go_ret2
  rw [HL.out]
  exact zcx w [[108,105]] [[111,108],[117,108]] (by decide) (by decide)
 have H0 : Hid (¬ l = [108,105]):=h0
 have q0:=zai h0
 clear h0
 by_cases h1 : l = [100,116]
 ·have HL : Hid (Tre.zgU l = ([[100,116],[100,100]],[[100,108]])):=by show _ = _;rw [h1];decide +kernel
  have q1:=zag h1
  clear h1
  go_enter Tryz.func57,Tryz.ntmps57
  go_wp2
  go_ret2
  rw [HL.out]
  exact zcx w [[100,116],[100,100]] [[100,108]] (by decide) (by decide)
 have H1 : Hid (¬ l = [100,116]):=h1
 have q1:=zai h1
 clear h1
 by_cases h2 : l = [100,100]
 ·have HL : Hid (Tre.zgU l = ([[100,116],[100,100]],[[100,108]])):=by show _ = _;rw [h2];decide +kernel
  have q2:=zag h2
  clear h2
  go_enter Tryz.func57,Tryz.ntmps57
  go_wp2
  go_ret2
  rw [HL.out]
  exact zcx w [[100,116],[100,100]] [[100,108]] (by decide) (by decide)
 have H2 : Hid (¬ l = [100,100]):=h2
 have q2:=zai h2
 clear h2
 by_cases h3 : l = [111,112,116,105,111,110]
 ·have HL : Hid (Tre.zgU l = ([[111,112,116,105,111,110]],[[115,101,108,101,99,116]])):=by show _ = _;rw [h3];decide +kernel
  have q3:=zag h3
  clear h3
  go_enter Tryz.func57,Tryz.ntmps57
  go_wp2
  go_ret2
  rw [HL.out]
  exact zcx w [[111,112,116,105,111,110]] [[115,101,108,101,99,116]] (by decide) (by decide)
 have H3 : Hid (¬ l = [111,112,116,105,111,110]):=h3
 have q3:=zai h3
 clear h3
 by_cases h4 : l = [116,114]
 ·have HL : Hid (Tre.zgU l = ([[116,114]],[[116,97,98,108,101]])):=by show _ = _;rw [h4];decide +kernel
  have q4:=zag h4
  clear h4
  go_enter Tryz.func57,Tryz.ntmps57
  go_wp2
  go_ret2
  rw [HL.out]
  exact zcx w [[116,114]] [[116,97,98,108,101]] (by decide) (by decide)
 have H4 : Hid (¬ l = [116,114]):=h4
 have q4:=zai h4
 clear h4
 by_cases h5 : l = [116,100]
 ·have HL : Hid (Tre.zgU l = ([[116,100],[116,104]],[[116,114],[116,97,98,108,101]])):=by show _ = _;rw [h5];decide +kernel
  have q5:=zag h5
  clear h5
  go_enter Tryz.func57,Tryz.ntmps57
  go_wp2
  go_ret2
  rw [HL.out]
  exact zcx w [[116,100],[116,104]] [[116,114],[116,97,98,108,101]] (by decide) (by decide)
 have H5 : Hid (¬ l = [116,100]):=h5
 have q5:=zai h5
 clear h5
 by_cases h6 : l = [116,104]
 ·have HL : Hid (Tre.zgU l = ([[116,100],[116,104]],[[116,114],[116,97,98,108,101]])):=by show _ = _;rw [h6];decide +kernel
  have q6:=zag h6
  clear h6
  go_enter Tryz.func57,Tryz.ntmps57
  go_wp2
  go_ret2
  rw [HL.out]
  exact zcx w [[116,100],[116,104]] [[116,114],[116,97,98,108,101]] (by decide) (by decide)
 have H6 : Hid (¬ l = [116,104]):=h6
 have q6:=zai h6
 clear h6
 have HLB:=zaa (zjf l w)
 cases hb : Tre.zsf l
 ·have HL : Hid (Tre.zgU l = ([],[])):=by
   show _ = _
   unfold Tre.zgU
   rw [if_neg H0.out,if_neg H1.out,if_neg H2.out,if_neg H3.out,if_neg H4.out,if_neg H5.out,if_neg H6.out,hb]
   rfl
  rw [hb] at HLB
  clear hb
  go_enter Tryz.func57,Tryz.ntmps57
  go_wp2_with (go_at_call 98;refine HLB.out.mono ?_;rintro e w1 ⟨rfl,hb1⟩)
  go_ret2
  rw [HL.out]
  exact ⟨_,_,rfl,.inl ⟨_,_,rfl,rfl⟩,.inl ⟨_,_,rfl,rfl⟩,hb1⟩
 ·have HL : Hid (Tre.zgU l = ([[112]],[[98,117,116,116,111,110],[116,97,98,108,101],[116,100],[116,104],[108,105],[111,98,106,101,99,116]])):=by
   show _ = _
   unfold Tre.zgU
   rw [if_neg H0.out,if_neg H1.out,if_neg H2.out,if_neg H3.out,if_neg H4.out,if_neg H5.out,if_neg H6.out,hb]
   rfl
  rw [hb] at HLB
  clear hb
  go_enter Tryz.func57,Tryz.ntmps57
  go_wp2_with (go_at_call 98;refine HLB.out.mono ?_;rintro e w1 ⟨rfl,hb1⟩)
  go_ret2
  rw [HL.out]
  obtain ⟨v1,v2,e1,r1,r2,r3⟩:=zcx w1 [[112]] [[98,117,116,116,111,110],[116,97,98,108,101],[116,100],[116,104],[108,105],[111,98,106,101,99,116]] (by decide) (by decide)
  exact ⟨_,_,e1,r1,r2,bel hb1 r3⟩
end Go.Proofs.YtiodaahncadodaaGreatDoor
