/- The contract of the reference's start, where attributes are added to the zsh or body that is there. -/
import Derived.Test.YtiodaahncadodaaGreatDoorKTrqH
import Derived.Test.YtiodaahncadodaaGreatDoorKTreOQ
import Derived.Test.YtiodaahncadodaaGreatDoorKTreH
set_option maxRecDepth 100000
set_option maxHeartbeats 8000000
set_option linter.unusedVariables false
set_option linter.unusedSimpArgs false
namespace Go.Proofs.YtiodaahncadodaaGreatDoor
open Go.RowKit
theorem zjh {w : World} {y : Nat} {xn xv : List UInt8} {t : TypeId} (h : w.heap[y]? = some (.cells #[.string (str xn),.string (str xv)] t (0,0))) : zar w (.slice (some ⟨y,0,none⟩) 1 1) [(xn,xv)]:=by
 refine .inr ⟨y,0,1,rfl,Nat.le_refl _,fun j p hj=>?_⟩
 cases j with
 | zero =>
  cases hj
  exact ⟨Lib.cell_of_heap h 0,Lib.cell_of_heap h 1⟩
 | succ j=>simp at hj
section
variable {w : World} {B bb : Nat} {nv ov : Value} {ps : List PN} {op : List Nat}
theorem zma {M : Nat} (h : QAt w B bb nv ov ps op) (hOk : Tre.Ok ⟨ps.map (·.1),op⟩ M) (kk : Int) (l : List UInt8) (ats : List Pr) (sf : Bool) (x : List UInt8) (aa : Option Addr) (ac : Nat) (hv : ∀ W,Below B w W → zar W (.slice aa ats.length ac) ats) (hats : ats.length ≤ 64) (i : Nat) (hf : Tre.zra (ps.map (·.1)) l = some i) :
  Calls Tryz.prog 26 #[.pointer (some ⟨bb,0,none⟩),zsd kk l (.slice aa ats.length ac) sf x] w (zgD B bb w (Tre.ziI ⟨ps.map (·.1),op⟩ l ats)):=by
 have hst : Tre.ziI ⟨ps.map (·.1),op⟩ l ats = .ok ⟨(ps.map (·.1)).modify i (fun m=>{ m with attrs:=Tre.zgV m.attrs ats }),op⟩:=by
  unfold Tre.ziI
  simp only
  rw [hf]
 rw [hst]
 have hb : Tre.isHB l = true:=by
  unfold Tre.zra at hf
  split at hf
  ·assumption
  ·cases hf
 have hfi : Tre.zei (ps.map (·.1)) l = some i:=by
  unfold Tre.zra at hf
  rw [if_pos hb] at hf
  exact hf
 have hil : i < ps.length:=by
  have:=(Tre.zp7 hfi).1
  rwa [List.length_map] at this
 have hlm : (ps.map (·.1)).length = ps.length:=List.length_map ..
 have hl:=hOk.len
 simp only [hlm] at hl
 have hBw : B ≤ w.heap.size:=Nat.le_trans h.bB (Nat.le_of_lt h.lt)
 have hlt:=h.lt
 have hnlt : ∀ k,nv.ownBlock = some k → k < w.heap.size:=fun k e=>(World.ownsRow.lt h.row k e).2
 obtain ⟨⟨n,va,vk⟩,hp⟩ : ∃ p,ps[i]? = some p:=⟨_,List.getElem?_eq_getElem hil⟩
 have hna : n.attrs.length ≤ 64:=hOk.ats n (ziW hOk hp)
 obtain ⟨g,c,rfl,hc,hBg,hgl,hgb⟩:=h.nform (by omega)
 have hbw0 : Below w.heap.size w (w.alloc (.cells #[.int .i64 kk,.string (str l),.slice aa ats.length ac,.bool sf,.string (str x)] 48)):=(Below.refl _ w).alloc (Nat.le_refl _) _
 have htk0:=zaf w (.cells #[.int .i64 kk,.string (str l),.slice aa ats.length ac,.bool sf,.string (str x)] 48)
 have h0:=h.below hbw0
 obtain ⟨W0,hW0⟩ : ∃ W,w.alloc (.cells #[.int .i64 kk,.string (str l),.slice aa ats.length ac,.bool sf,.string (str x)] 48) = W:=⟨_,rfl⟩
 rw [hW0] at hbw0 htk0 h0
 have HW0:=zaa hW0
 obtain ⟨tb,htb⟩ : ∃ tb,w.heap.size = tb:=⟨_,rfl⟩
 rw [htb] at htk0
 have HTB:=zaa htb
 have cn0 : W0.cell? ⟨tb,1,none⟩ = some (.string (str l)):=Lib.cell_of_heap htk0 1
 have hsW0 : tb < W0.heap.size:=(Array.getElem?_eq_some_iff.1 htk0).1
 have hbtb : bb ≠ tb:=by omega
 have hgtb : g ≠ tb:=by omega
 have hBtb : B ≤ tb:=by omega
 have HTK0:=zaa htk0
 have HBW0 : Hid (Below B w W0):=hbw0.mono hBw
 have HV:=zaa hv
 have HP:=zaa hp
 have HFI:=zaa (zje h0 (by omega) (by omega) l)
 rw [hfi,show optI (some i) = (i : Int) from rfl] at HFI
 have HMap:=zaa (fun va'=>zcn ps i (n,va,vk) ({ n with attrs:=Tre.zgV n.attrs ats },va',vk) (fun m=>{ m with attrs:=Tre.zgV m.attrs ats }) hp rfl)
 have H0:=zaa h0
 have hi0 : (0 : Int) ≤ (i : Int):=by omega
 clear hW0 htb h hv h0 hbw0 htk0 hnlt hOk hlt hp hst hf hfi
 by_cases hhl : l = Tre.zsh
 (have q1:=zag (l:=l) (m:=[104,116,109,108]) hhl)
 rotate_left
 (have q1:=zai (l:=l) (m:=[104,116,109,108]) hhl
  have q2:=zag (l:=l) (m:=[98,111,100,121]) (((Tre.isHB_iff l).1 hb).resolve_left hhl))
 rotate_left
 all_goals
  clear hhl hb
  go_enter Tryz.func26,Tryz.ntmps26
  go_upto_region 1 with fail
  rw [HW0.out,HTB.out]
  go_upto_region 4 with (go_at_call 56;refine HFI.out.mono ?_;rintro e w9 ⟨rfl,he⟩;rw [he];clear he)
  go_wp2
  go_loopw [6] (fun s wr=>∃ j : Nat,s = .int .i64 j ∧ j ≤ ats.length ∧ Hid (∃ va',QAt wr B bb (.slice (some ⟨g,0,none⟩) ps.length c) ov (ps.set i ({ n with attrs:=Tre.zgV n.attrs (ats.take j) },va',vk)) op ∧ Below B W0 wr ∧ Kq bb (.slice (some ⟨g,0,none⟩) ps.length c) W0 wr)) (fun s _=>ats.length - (intOf s).toNat)
  case atStart =>
   refine ⟨0,rfl,Nat.zero_le _,va,?_,Below.refl _ _,fun k _ _ _=>rfl⟩
   show QAt W0 B bb (.slice (some ⟨g,0,none⟩) ps.length c) ov (ps.set i (n,va,vk)) op
   rw [zek ps i _ HP.out]
   exact H0.out
  case round =>
   obtain ⟨j,rfl,hj,HI⟩:=hrel
   rename World=>Y
   obtain ⟨va',hQY,hBY,hKY⟩:=HI.out
   have htkY:=(hKY tb hsW0 (fun e=>hbtb e.symm) (fun e=>hgtb (by injection e))).trans HTK0.out
   have cTX : Y.cell? ⟨tb,2,none⟩ = some (.slice aa ats.length ac):=Lib.cell_of_heap htkY 2
   have htX : tb < Y.heap.size:=(Array.getElem?_eq_some_iff.1 htkY).1
   by_cases hjl : j < ats.length
   ·have hx : ats[j]? = some ats[j]:=List.getElem?_eq_getElem hjl
    obtain ⟨sb,so,e1,hcc,hsbX,cnX,cvX⟩:=(HV.out Y (HBW0.out.trans hBY)).at hx
    subst e1
    have HJ : Hid (j + 1 ≤ ats.length):=hjl
    have HAdd:=zaa (zf5 n.attrs ats j _ hx)
    have HEnd : Hid (∀ W,(∃ va',QAt W B bb (.slice (some ⟨g,0,none⟩) ps.length c) ov (ps.set i ({ n with attrs:=Tre.zgV n.attrs (ats.take (j + 1)) },va',vk)) op ∧ Below B W0 W ∧ Kq bb (.slice (some ⟨g,0,none⟩) ps.length c) W0 W) → Hid (∃ va',QAt W B bb (.slice (some ⟨g,0,none⟩) ps.length c) ov (ps.set i ({ n with attrs:=Tre.zgV n.attrs (ats.take (j + 1)) },va',vk)) op ∧ Below B W0 W ∧ Kq bb (.slice (some ⟨g,0,none⟩) ps.length c) W0 W)):=fun W h9=>h9
    generalize ats[j]'hjl = xx at *
    obtain ⟨xn,xv⟩:=xx
    simp only at cnX cvX
    have hle : (Tre.zgV n.attrs (ats.take j)).length ≤ 64:=ziY _ _ hna
    have hpj : (ps.set i ({ n with attrs:=Tre.zgV n.attrs (ats.take j) },va',vk))[i]? = some ({ n with attrs:=Tre.zgV n.attrs (ats.take j) },va',vk):=by
     rw [List.getElem?_set,if_pos rfl,if_pos hil]
    generalize hAd : Tre.zgV n.attrs (ats.take j) = ds at *
    have hvA:=hQY.ats i _ hpj
    obtain ⟨ba,bc,e2⟩:=(zbd.reads hvA).form
    simp only at e2 hvA
    subst e2
    have HRD:=zaa (zbd.reads hvA)
    have cNX : Y.cell? ⟨bb,0,none⟩ = some (.slice (some ⟨g,0,none⟩) ps.length c):=Lib.cell_of_heap hQY.blk 0
    have cAX : Y.cell? ⟨g,i * 6 + 2,none⟩ = some (.slice ba ds.length bc):=(hQY.cell hpj (i:=2) rfl).1
    have hbbX : bb < Y.heap.size:=hQY.lt
    have hgX : g < Y.heap.size:=zaK cAX
    have HQY:=zaa hQY
    have HBY:=zaa hBY
    have HKY:=zaa hKY
    have HSY : Hid (W0.heap.size ≤ Y.heap.size):=hBY.size
    have hQn : ∀ W,Below Y.heap.size Y W → QAt W B bb (.slice (some ⟨g,0,none⟩) ps.length c) ov (ps.set i ({ n with attrs:=ds },(.slice ba ds.length bc),vk)) op:=fun W hb9=>HQY.out.below hb9
    have HQn:=zaa hQn
    clear hQY hBY hKY HI hx htkY hvA hAd hQn
    cases hh : Tk.has ds xn
    ·by_cases h64 : ds.length < 64
     ·have q64 : (ds.length : Int) < 64:=by omega
      have HAd2 : Hid (Tk.add ds (xn,xv) = ds ++ [(xn,xv)]):=by
       show _ = _
       unfold Tk.add
       rw [if_pos ⟨hh,h64⟩]
      go_upto_region 7 with fail
      obtain ⟨S,hS1⟩ : ∃ S : World → Prop,∀ W,S W ↔ Below Y.heap.size Y W:=⟨_,fun _=>Iff.rfl⟩
      refine wp_region_held_drew (S:=S) (by kernel_rfl) ((hS1 _).2 ((Below.refl _ _).drew)) (fun hS=>?_)
      obtain ⟨Y1,hY1⟩ : ∃ Z,Y.drew = Z:=⟨_,rfl⟩
      rw [hY1] at hS ⊢
      have HY1:=zaa hY1
      clear hY1
      refine zab 0 32 (.pointer (some ⟨bb,0,none⟩)) rfl rfl (by kernel_rfl) (by kernel_rfl) (by kernel_rfl) (fun _ _ _ h=>h) (Or.inl ⟨by kernel_rfl,fun W _=>by go_simp⟩) hS ?_
      simp only [Act.put,List.setIfInBounds_toArray,List.set_cons_zero,List.set_cons_succ]
      refine zab 1 33 (.pointer (some ⟨bb,0,none⟩)) rfl rfl (by kernel_rfl) (by kernel_rfl) (by kernel_rfl) (fun _ _ _ h=>h) (Or.inl ⟨by kernel_rfl,fun W _=>by go_simp⟩) hS ?_
      simp only [Act.put,List.setIfInBounds_toArray,List.set_cons_zero,List.set_cons_succ]
      refine zab 2 34 (.pointer (some ⟨bb,0,none⟩)) rfl rfl (by kernel_rfl) (by kernel_rfl) (by kernel_rfl) (fun _ _ _ h=>h) (Or.inl ⟨by kernel_rfl,fun W _=>by go_simp⟩) hS ?_
      simp only [Act.put,List.setIfInBounds_toArray,List.set_cons_zero,List.set_cons_succ]
      refine zab 3 35 (.slice (some ⟨g,0,none⟩) ps.length c) rfl rfl (by kernel_rfl) (by kernel_rfl) (by kernel_rfl) (fun _ _ _ h=>h) (Or.inl ⟨by kernel_rfl,fun W hW=>by have hc:=((((hS1 W).1 hW).cell (p:=⟨bb,0,none⟩) hbbX).trans cNX);go_simp⟩) hS ?_
      simp only [Act.put,List.setIfInBounds_toArray,List.set_cons_zero,List.set_cons_succ]
      refine zab 4 36 (.int .i64 (i : Int)) rfl rfl (by kernel_rfl) (by kernel_rfl) (by kernel_rfl) (fun _ _ _ h=>h) (Or.inl ⟨by kernel_rfl,fun W _=>by go_simp⟩) hS ?_
      simp only [Act.put,List.setIfInBounds_toArray,List.set_cons_zero,List.set_cons_succ]
      refine zab 5 37 (.pointer (some ⟨g,i * 6,none⟩)) rfl rfl (by kernel_rfl) (by kernel_rfl) (by kernel_rfl) (fun _ _ _ h=>h) (Or.inl ⟨by kernel_rfl,fun W _=>by go_simp⟩) hS ?_
      simp only [Act.put,List.setIfInBounds_toArray,List.set_cons_zero,List.set_cons_succ]
      refine zab 6 38 (.pointer (some ⟨g,i * 6 + 2,none⟩)) rfl rfl (by kernel_rfl) (by kernel_rfl) (by kernel_rfl) (fun _ _ _ h=>h) (Or.inl ⟨by kernel_rfl,fun W _=>by go_simp⟩) hS ?_
      simp only [Act.put,List.setIfInBounds_toArray,List.set_cons_zero,List.set_cons_succ]
      refine zab 7 39 (.slice ba ds.length bc) rfl rfl (by kernel_rfl) (by kernel_rfl) (by kernel_rfl) (fun _ _ _ h=>h) (Or.inl ⟨by kernel_rfl,fun W hW=>by have hc:=((((hS1 W).1 hW).cell (p:=⟨g,i * 6 + 2,none⟩) hgX).trans cAX);go_simp⟩) hS ?_
      simp only [Act.put,List.setIfInBounds_toArray,List.set_cons_zero,List.set_cons_succ]
      refine zab 8 40 (.pointer (some ⟨tb,2,none⟩)) rfl rfl (by kernel_rfl) (by kernel_rfl) (by kernel_rfl) (fun _ _ _ h=>h) (Or.inl ⟨by kernel_rfl,fun W _=>by go_simp⟩) hS ?_
      simp only [Act.put,List.setIfInBounds_toArray,List.set_cons_zero,List.set_cons_succ]
      refine zab 9 41 (.slice (some ⟨sb,so,none⟩) ats.length ac) rfl rfl (by kernel_rfl) (by kernel_rfl) (by kernel_rfl) (fun _ _ _ h=>h) (Or.inl ⟨by kernel_rfl,fun W hW=>by have hc:=((((hS1 W).1 hW).cell (p:=⟨tb,2,none⟩) htX).trans cTX);go_simp⟩) hS ?_
      simp only [Act.put,List.setIfInBounds_toArray,List.set_cons_zero,List.set_cons_succ]
      refine zab 10 42 (.int .i64 (j : Int)) rfl rfl (by kernel_rfl) (by kernel_rfl) (by kernel_rfl) (fun _ _ _ h=>h) (Or.inl ⟨by kernel_rfl,fun W _=>by go_simp⟩) hS ?_
      simp only [Act.put,List.setIfInBounds_toArray,List.set_cons_zero,List.set_cons_succ]
      refine zab 11 43 (.pointer (some ⟨sb,so + j * 2,none⟩)) rfl rfl (by kernel_rfl) (by kernel_rfl) (by kernel_rfl) (fun _ _ _ h=>h) (Or.inl ⟨by kernel_rfl,fun W _=>by go_simp⟩) hS ?_
      simp only [Act.put,List.setIfInBounds_toArray,List.set_cons_zero,List.set_cons_succ]
      refine zab 12 44 (.pointer (some ⟨sb,so + j * 2,none⟩)) rfl rfl (by kernel_rfl) (by kernel_rfl) (by kernel_rfl) (fun _ _ _ h=>h) (Or.inl ⟨by kernel_rfl,fun W _=>by go_simp⟩) hS ?_
      simp only [Act.put,List.setIfInBounds_toArray,List.set_cons_zero,List.set_cons_succ]
      refine zab 13 45 (.string (str xn)) rfl rfl (by kernel_rfl) (by kernel_rfl) (by kernel_rfl) (fun _ _ _ h=>h) (Or.inl ⟨by kernel_rfl,fun W hW=>by have hc:=((((hS1 W).1 hW).cell (p:=⟨sb,so + j * 2,none⟩) hsbX).trans cnX);go_simp⟩) hS ?_
      simp only [Act.put,List.setIfInBounds_toArray,List.set_cons_zero,List.set_cons_succ]
      refine wpAnyH_ready (rs:=[14]) (by kernel_rfl) (by simp) ?_
      refine AllReadyH.cons rfl (fun K hK=>?_) AllReadyH.nil
      go_simp
      refine (zeQ ds (.slice ba ds.length bc) xn _ (HRD.out.below ((hS1 _).1 hS)) (by omega)).mono ?_
      rintro e w7 ⟨rfl,he⟩
      rw [he,hh]
      clear he
      refine hK.out _ _ (hS) (fun hS=>?_)
      clear hK K
      refine zab 15 47 (.bool true) rfl rfl (by kernel_rfl) (by kernel_rfl) (by kernel_rfl) (fun _ _ _ h=>h) (Or.inl ⟨by kernel_rfl,fun W _=>by go_simp⟩) hS ?_
      simp only [Act.put,List.setIfInBounds_toArray,List.set_cons_zero,List.set_cons_succ]
      refine zab 16 48 (.bool true) rfl rfl (by kernel_rfl) (by kernel_rfl) (by kernel_rfl) (fun _ _ _ h=>h) (Or.inl ⟨by kernel_rfl,fun W _=>by go_simp⟩) hS ?_
      simp only [Act.put,List.setIfInBounds_toArray,List.set_cons_zero,List.set_cons_succ]
      refine zab 17 49 (.pointer (some ⟨bb,0,none⟩)) rfl rfl (by kernel_rfl) (by kernel_rfl) (by kernel_rfl) (fun _ _ _ h=>h) (Or.inl ⟨by kernel_rfl,fun W _=>by go_simp⟩) hS ?_
      simp only [Act.put,List.setIfInBounds_toArray,List.set_cons_zero,List.set_cons_succ]
      refine zab 18 50 (.pointer (some ⟨bb,0,none⟩)) rfl rfl (by kernel_rfl) (by kernel_rfl) (by kernel_rfl) (fun _ _ _ h=>h) (Or.inl ⟨by kernel_rfl,fun W _=>by go_simp⟩) hS ?_
      simp only [Act.put,List.setIfInBounds_toArray,List.set_cons_zero,List.set_cons_succ]
      refine zab 19 51 (.pointer (some ⟨bb,0,none⟩)) rfl rfl (by kernel_rfl) (by kernel_rfl) (by kernel_rfl) (fun _ _ _ h=>h) (Or.inl ⟨by kernel_rfl,fun W _=>by go_simp⟩) hS ?_
      simp only [Act.put,List.setIfInBounds_toArray,List.set_cons_zero,List.set_cons_succ]
      refine zab 20 52 (.slice (some ⟨g,0,none⟩) ps.length c) rfl rfl (by kernel_rfl) (by kernel_rfl) (by kernel_rfl) (fun _ _ _ h=>h) (Or.inl ⟨by kernel_rfl,fun W hW=>by have hc:=((((hS1 W).1 hW).cell (p:=⟨bb,0,none⟩) hbbX).trans cNX);go_simp⟩) hS ?_
      simp only [Act.put,List.setIfInBounds_toArray,List.set_cons_zero,List.set_cons_succ]
      refine zab 21 53 (.int .i64 (i : Int)) rfl rfl (by kernel_rfl) (by kernel_rfl) (by kernel_rfl) (fun _ _ _ h=>h) (Or.inl ⟨by kernel_rfl,fun W _=>by go_simp⟩) hS ?_
      simp only [Act.put,List.setIfInBounds_toArray,List.set_cons_zero,List.set_cons_succ]
      refine zab 22 54 (.pointer (some ⟨g,i * 6,none⟩)) rfl rfl (by kernel_rfl) (by kernel_rfl) (by kernel_rfl) (fun _ _ _ h=>h) (Or.inl ⟨by kernel_rfl,fun W _=>by go_simp⟩) hS ?_
      simp only [Act.put,List.setIfInBounds_toArray,List.set_cons_zero,List.set_cons_succ]
      refine zab 23 55 (.pointer (some ⟨g,i * 6 + 2,none⟩)) rfl rfl (by kernel_rfl) (by kernel_rfl) (by kernel_rfl) (fun _ _ _ h=>h) (Or.inl ⟨by kernel_rfl,fun W _=>by go_simp⟩) hS ?_
      simp only [Act.put,List.setIfInBounds_toArray,List.set_cons_zero,List.set_cons_succ]
      refine zab 24 56 (.slice ba ds.length bc) rfl rfl (by kernel_rfl) (by kernel_rfl) (by kernel_rfl) (fun _ _ _ h=>h) (Or.inl ⟨by kernel_rfl,fun W hW=>by have hc:=((((hS1 W).1 hW).cell (p:=⟨g,i * 6 + 2,none⟩) hgX).trans cAX);go_simp⟩) hS ?_
      simp only [Act.put,List.setIfInBounds_toArray,List.set_cons_zero,List.set_cons_succ]
      refine zab 25 57 (.int .i64 (ds.length : Int)) rfl rfl (by kernel_rfl) (by kernel_rfl) (by kernel_rfl) (fun _ _ _ h=>h) (Or.inl ⟨by kernel_rfl,fun W _=>by go_simp⟩) hS ?_
      simp only [Act.put,List.setIfInBounds_toArray,List.set_cons_zero,List.set_cons_succ]
      refine zab 26 58 (.bool true) rfl rfl (by kernel_rfl) (by kernel_rfl) (by kernel_rfl) (fun _ _ _ h=>h) (Or.inl ⟨by kernel_rfl,fun W _=>by go_simp⟩) hS ?_
      simp only [Act.put,List.setIfInBounds_toArray,List.set_cons_zero,List.set_cons_succ]
      refine zab 27 59 (.bool true) rfl rfl (by kernel_rfl) (by kernel_rfl) (by kernel_rfl) (fun _ _ _ h=>h) (Or.inl ⟨by kernel_rfl,fun W _=>by go_simp⟩) hS ?_
      simp only [Act.put,List.setIfInBounds_toArray,List.set_cons_zero,List.set_cons_succ]
      refine wpAnyH_done (by kernel_rfl) ?_ _
      have hY1 : Below Y.heap.size Y Y1:=(hS1 _).1 hS
      clear hS hS1
      go_upto_region 8 with fail
      have hQX0 : QAt Y1.drew B bb (.slice (some ⟨g,0,none⟩) ps.length c) ov (ps.set i ({ n with attrs:=ds },.slice ba ds.length bc,vk)) op:=(HQY.out.below hY1).below (Below.refl _ _).drew
      have hY1X : Below Y.heap.size Y Y1.drew:=hY1.trans (Below.refl _ _).drew
      have cTX1:=(hY1X.cell (p:=⟨tb,2,none⟩) htX).trans cTX
      have rsX:=zco ((hY1X.cell (p:=⟨sb,so + j * 2,none⟩) hsbX).trans cnX) ((hY1X.cell (p:=⟨sb,so + j * 2 + 1,none⟩) hsbX).trans cvX)
      have hbX0 : Below B W0 Y1.drew:=HBY.out.trans (hY1X.mono (Nat.le_trans (by omega) HSY.out))
      have hkX0 : Kq bb (.slice (some ⟨g,0,none⟩) ps.length c) W0 Y1.drew:=fun k hk hkb hkg=>(hY1X.block k (Nat.lt_of_lt_of_le hk HSY.out)).trans (HKY.out k hk hkb hkg)
      have hsX0 : W0.heap.size ≤ Y1.drew.heap.size:=Nat.le_trans HSY.out hY1X.size
      obtain ⟨S,hS1⟩ : ∃ S : World → Prop,∀ W,S W ↔ (W.cell? ⟨bb,0,none⟩ = some (.slice (some ⟨g,0,none⟩) ps.length c) ∧ W.cell? ⟨g,i * 6 + 2,none⟩ = some (.slice ba ds.length bc) ∧ W.frozen? ⟨g,i * 6 + 2,none⟩ = false ∧ W.cell? ⟨tb,2,none⟩ = some (.slice (some ⟨sb,so,none⟩) ats.length ac) ∧ W.rangeAt sb (so + j * 2) [.string (str xn),.string (str xv)]):=⟨_,fun _=>Iff.rfl⟩
      have htX1 : tb < Y1.drew.heap.size:=Nat.lt_of_lt_of_le htX hY1X.size
      have hsbX1 : sb < Y1.drew.heap.size:=Nat.lt_of_lt_of_le hsbX hY1X.size
      have hSQ : ∀ W,Below Y1.drew.heap.size Y1.drew W → S W:=fun W hb=>(hS1 W).2 ⟨Lib.cell_of_heap (hQX0.below hb).blk 0,((hQX0.below hb).cell hpj (i:=2) rfl).1,((hQX0.below hb).cell hpj (i:=2) rfl).2,(hb.cell (p:=⟨tb,2,none⟩) htX1).trans cTX1,fun q u hq=>(hb.cell (p:=⟨sb,so + j * 2 + q,none⟩) hsbX1).trans (rsX q u hq)⟩
      have HSQ:=zaa hSQ
      refine zba (S:=S) 23 (by kernel_rfl) (hSQ _ (Below.refl _ _)) (fun hS=>?_)
      obtain ⟨X,hX⟩ : ∃ X,Y1.drew = X:=⟨_,rfl⟩
      rw [hX] at hQX0 HSQ hS hbX0 hkX0 hsX0 ⊢
      rename_i _
      have hQX:=hQX0
      have HBX:=zaa hbX0
      have HKX:=zaa hkX0
      have HSX:=zaa hsX0
      have hBX : B ≤ X.heap.size:=Nat.le_trans (by omega) hsX0
      clear hX hSQ hQX0 hbX0 hkX0 hsX0 cTX1 rsX hY1X htX1 hsbX1 hY1
      have hbX0 : Below X.heap.size X X:=Below.refl _ _
      refine zas 0 60 (.pointer (some ⟨bb,0,none⟩)) rfl rfl rfl (by kernel_rfl) (by kernel_rfl) (by kernel_rfl) (by kernel_rfl) (fun _ _ _ h=>h) (Or.inl ⟨by kernel_rfl,fun W _=>by go_simp⟩) hS ?_
      simp only [Act.put,List.setIfInBounds_toArray,List.set_cons_zero,List.set_cons_succ]
      refine zas 1 61 (.pointer (some ⟨bb,0,none⟩)) rfl rfl rfl (by kernel_rfl) (by kernel_rfl) (by kernel_rfl) (by kernel_rfl) (fun _ _ _ h=>h) (Or.inl ⟨by kernel_rfl,fun W _=>by go_simp⟩) hS ?_
      simp only [Act.put,List.setIfInBounds_toArray,List.set_cons_zero,List.set_cons_succ]
      refine zas 2 62 (.pointer (some ⟨bb,0,none⟩)) rfl rfl rfl (by kernel_rfl) (by kernel_rfl) (by kernel_rfl) (by kernel_rfl) (fun _ _ _ h=>h) (Or.inl ⟨by kernel_rfl,fun W _=>by go_simp⟩) hS ?_
      simp only [Act.put,List.setIfInBounds_toArray,List.set_cons_zero,List.set_cons_succ]
      refine zas 3 63 (.slice (some ⟨g,0,none⟩) ps.length c) rfl rfl rfl (by kernel_rfl) (by kernel_rfl) (by kernel_rfl) (by kernel_rfl) (fun _ _ _ h=>h) (Or.inl ⟨by kernel_rfl,fun W hW=>by have hc:=(((hS1 W).1 hW).1);go_simp⟩) hS ?_
      simp only [Act.put,List.setIfInBounds_toArray,List.set_cons_zero,List.set_cons_succ]
      refine zas 4 64 (.int .i64 (i : Int)) rfl rfl rfl (by kernel_rfl) (by kernel_rfl) (by kernel_rfl) (by kernel_rfl) (fun _ _ _ h=>h) (Or.inl ⟨by kernel_rfl,fun W _=>by go_simp⟩) hS ?_
      simp only [Act.put,List.setIfInBounds_toArray,List.set_cons_zero,List.set_cons_succ]
      refine zas 5 65 (.pointer (some ⟨bb,0,none⟩)) rfl rfl rfl (by kernel_rfl) (by kernel_rfl) (by kernel_rfl) (by kernel_rfl) (fun _ _ _ h=>h) (Or.inl ⟨by kernel_rfl,fun W _=>by go_simp⟩) hS ?_
      simp only [Act.put,List.setIfInBounds_toArray,List.set_cons_zero,List.set_cons_succ]
      refine zas 6 66 (.pointer (some ⟨bb,0,none⟩)) rfl rfl rfl (by kernel_rfl) (by kernel_rfl) (by kernel_rfl) (by kernel_rfl) (fun _ _ _ h=>h) (Or.inl ⟨by kernel_rfl,fun W _=>by go_simp⟩) hS ?_
      simp only [Act.put,List.setIfInBounds_toArray,List.set_cons_zero,List.set_cons_succ]
      refine zas 7 67 (.pointer (some ⟨bb,0,none⟩)) rfl rfl rfl (by kernel_rfl) (by kernel_rfl) (by kernel_rfl) (by kernel_rfl) (fun _ _ _ h=>h) (Or.inl ⟨by kernel_rfl,fun W _=>by go_simp⟩) hS ?_
      simp only [Act.put,List.setIfInBounds_toArray,List.set_cons_zero,List.set_cons_succ]
      refine zas 8 68 (.slice (some ⟨g,0,none⟩) ps.length c) rfl rfl rfl (by kernel_rfl) (by kernel_rfl) (by kernel_rfl) (by kernel_rfl) (fun _ _ _ h=>h) (Or.inl ⟨by kernel_rfl,fun W hW=>by have hc:=(((hS1 W).1 hW).1);go_simp⟩) hS ?_
      simp only [Act.put,List.setIfInBounds_toArray,List.set_cons_zero,List.set_cons_succ]
      refine zas 9 69 (.int .i64 (i : Int)) rfl rfl rfl (by kernel_rfl) (by kernel_rfl) (by kernel_rfl) (by kernel_rfl) (fun _ _ _ h=>h) (Or.inl ⟨by kernel_rfl,fun W _=>by go_simp⟩) hS ?_
      simp only [Act.put,List.setIfInBounds_toArray,List.set_cons_zero,List.set_cons_succ]
      refine zas 10 70 (.pointer (some ⟨g,i * 6,none⟩)) rfl rfl rfl (by kernel_rfl) (by kernel_rfl) (by kernel_rfl) (by kernel_rfl) (fun _ _ _ h=>h) (Or.inl ⟨by kernel_rfl,fun W _=>by go_simp⟩) hS ?_
      simp only [Act.put,List.setIfInBounds_toArray,List.set_cons_zero,List.set_cons_succ]
      refine zas 11 71 (.pointer (some ⟨g,i * 6 + 2,none⟩)) rfl rfl rfl (by kernel_rfl) (by kernel_rfl) (by kernel_rfl) (by kernel_rfl) (fun _ _ _ h=>h) (Or.inl ⟨by kernel_rfl,fun W _=>by go_simp⟩) hS ?_
      simp only [Act.put,List.setIfInBounds_toArray,List.set_cons_zero,List.set_cons_succ]
      refine zas 12 72 (.slice ba ds.length bc) rfl rfl rfl (by kernel_rfl) (by kernel_rfl) (by kernel_rfl) (by kernel_rfl) (fun _ _ _ h=>h) (Or.inl ⟨by kernel_rfl,fun W hW=>by have hc:=(((hS1 W).1 hW).2.1);go_simp⟩) hS ?_
      simp only [Act.put,List.setIfInBounds_toArray,List.set_cons_zero,List.set_cons_succ]
      refine zas 14 74 (.pointer (some ⟨tb,2,none⟩)) rfl rfl rfl (by kernel_rfl) (by kernel_rfl) (by kernel_rfl) (by kernel_rfl) (fun _ _ _ h=>h) (Or.inl ⟨by kernel_rfl,fun W _=>by go_simp⟩) hS ?_
      simp only [Act.put,List.setIfInBounds_toArray,List.set_cons_zero,List.set_cons_succ]
      refine zas 15 75 (.slice (some ⟨sb,so,none⟩) ats.length ac) rfl rfl rfl (by kernel_rfl) (by kernel_rfl) (by kernel_rfl) (by kernel_rfl) (fun _ _ _ h=>h) (Or.inl ⟨by kernel_rfl,fun W hW=>by have hc:=(((hS1 W).1 hW).2.2.2.1);go_simp⟩) hS ?_
      simp only [Act.put,List.setIfInBounds_toArray,List.set_cons_zero,List.set_cons_succ]
      refine zas 16 76 (.int .i64 (j : Int)) rfl rfl rfl (by kernel_rfl) (by kernel_rfl) (by kernel_rfl) (by kernel_rfl) (fun _ _ _ h=>h) (Or.inl ⟨by kernel_rfl,fun W _=>by go_simp⟩) hS ?_
      simp only [Act.put,List.setIfInBounds_toArray,List.set_cons_zero,List.set_cons_succ]
      refine zas 17 77 (.pointer (some ⟨sb,so + j * 2,none⟩)) rfl rfl rfl (by kernel_rfl) (by kernel_rfl) (by kernel_rfl) (by kernel_rfl) (fun _ _ _ h=>h) (Or.inl ⟨by kernel_rfl,fun W _=>by go_simp⟩) hS ?_
      simp only [Act.put,List.setIfInBounds_toArray,List.set_cons_zero,List.set_cons_succ]
      refine zas 18 78 (.agg #[.string (str xn),.string (str xv)]) rfl rfl rfl (by kernel_rfl) (by kernel_rfl) (by kernel_rfl) (by kernel_rfl) (fun _ _ _ h=>h) (yieldsIf_load_mid (by kernel_rfl) 67 (Operand.tmp 77) rfl sb (so + j * 2) (by kernel_rfl) [.string (str xn),.string (str xv)] _ (fun W hW=>((hS1 W).1 hW).2.2.2.2) Tryz.underlying67 rfl znx) hS ?_
      simp only [Act.put,List.setIfInBounds_toArray,List.set_cons_zero,List.set_cons_succ]
      refine zg9 (i:=13) (j:=19) (by kernel_rfl) rfl rfl (fun K hK=>?_) (fun K hK=>?_)
      ·refine zaO rfl (.const (.slice none 0 0)) (.tmp 72) rfl B (.slice none 0 0) [] (by kernel_rfl) (zbd.nil _ _ _) (.slice ba ds.length bc) ds (by kernel_rfl) (zbd.reads (hQX.ats i _ hpj)) (by simp;omega) (Nat.le_trans hBX hbX0.size) ?_
       intro v5 w5 h5 g5 hat5
       have hb5:=za1 g5
       have hQ5:=hQX.below hb5
       have hb5X:=bel hbX0 hb5
       have hf5 : ∀ k,v5.ownBlock = some k → X.heap.size ≤ k:=fun k e=>by
        rcases hat5 with h9 | h9
        ·rw [h9] at e
         cases e
        ·rw [h9] at e
         cases e
         exact hbX0.size
       obtain ⟨xa5,xc5,e5⟩:=(zbd.reads h5).form
       rw [List.nil_append] at e5 h5
       subst e5
       refine hK.out _ _ (fun _=>HSQ.out _ hb5X) ?_
       have hS:=HSQ.out _ hb5X
       clear hK K
       refine zal (i:=19) (by kernel_rfl) rfl (fun K hK=>?_)
       go_simp
       have hbA : Below w5.heap.size w5 (w5.alloc (.cells #[.string (str xn),.string (str xv)] 67)):=(Below.refl _ _).alloc (Nat.le_refl _) _
       have hQA:=hQ5.below hbA
       have hbAX : Below X.heap.size X (w5.alloc (.cells #[.string (str xn),.string (str xv)] 67)):=bel hb5X hbA
       have hAA:=zaf w5 (.cells #[.string (str xn),.string (str xv)] 67)
       refine hK.out _ _ (fun _=>HSQ.out _ hbAX) ?_
       have hS:=HSQ.out _ hbAX
       have h5A:=zae h5 (fun k e hl=>hbA.block k hl)
       obtain ⟨y,hy⟩ : ∃ y,w5.heap.size = y:=⟨_,rfl⟩
       rw [hy] at hAA ⊢
       clear hy
       generalize hYe : (w5.alloc (.cells #[.string (str xn),.string (str xv)] 67)) = Y2 at *
       clear hYe
       clear hK K hbA
       refine zal (i:=20) (by kernel_rfl) rfl (fun K hK=>?_)
       refine zaO rfl (.tmp 73) (.tmp 79) rfl B (.slice xa5 ds.length xc5) ds (by kernel_rfl) h5A (.slice (some ⟨y,0,none⟩) 1 1) [(xn,xv)] (by kernel_rfl) (zjh hAA) (by simp;omega) (Nat.le_trans hBX hbAX.size) ?_
       intro v7 w7 h7 g7 hat7
       have hf7 : ∀ k,v7.ownBlock = some k → X.heap.size ≤ k:=fun k e=>by
        rcases hat7 with h9 | h9
        ·rw [h9] at e
         exact hf5 k e
        ·rw [h9] at e
         cases e
         exact hbAX.size
       have hb7 : Below X.heap.size X w7:=hbAX.trans ⟨g7.os,g7.tape,g7.output,g7.size,fun k hk=>g7.block k (Nat.lt_of_lt_of_le hk hbAX.size) (fun e=>by have:=hf5 k e.symm;omega)⟩
       obtain ⟨xa7,xc7,e7⟩:=(zbd.reads h7).form
       rw [List.length_append,List.length_singleton] at e7
       subst e7
       have hQ7:=hQX.below hb7
       refine hK.out _ _ (fun _=>HSQ.out _ hb7) ?_
       have hS:=HSQ.out _ hb7
       clear hK K
       refine zal (i:=21) (by kernel_rfl) rfl (fun K hK=>?_)
       have cN9:=((hS1 _).1 hS).1
       go_simp
       refine hK.out _ _ (fun _=>hS) ?_
       clear hK K
       refine zas 22 82 (.pointer (some ⟨g,i * 6 + 2,none⟩)) rfl rfl rfl (by kernel_rfl) (by kernel_rfl) (by kernel_rfl) (by kernel_rfl) (fun _ _ _ h=>h) (Or.inl ⟨by kernel_rfl,fun W _=>by go_simp⟩) hS ?_
       simp only [Act.put,List.setIfInBounds_toArray,List.set_cons_zero,List.set_cons_succ]
       refine zal (i:=23) (by kernel_rfl) rfl (fun K hK=>?_)
       have c7:=(hQ7.cell hpj (i:=2) rfl).1
       have f7:=(hQ7.cell hpj (i:=2) rfl).2
       simp only at c7
       go_simp
       refine hK.out _ _ (fun h=>absurd rfl h) ?_
       clear hK K
       refine za2 (by kernel_rfl) ?_ _
       have hgX:=(World.ownsRow.lt hQX.row g rfl).2
       have hbbl:=hQX.lt
       have hne : ∀ k,(Value.slice xa7 (ds.length + 1) xc7).ownBlock = some k → k ≠ g ∧ k ≠ bb:=fun k e=>by
        have h1:=hf7 k e
        exact ⟨by omega,by omega⟩
       obtain ⟨hQ8,hb8⟩:=hQ7.put hpj ({ n with attrs:=ds ++ [(xn,xv)] },.slice xa7 (ds.length + 1) xc7,vk) 2 (.slice xa7 (ds.length + 1) xc7) (by decide) rfl h7 (hQ7.kds i ({ n with attrs:=ds },(.slice ba ds.length bc),vk) hpj)
        ⟨fun e=>(hne g e).1 rfl,fun e=>(hne bb e).2 rfl⟩ ⟨fun e=>hQX.apn _ (by simp [(zaB (List.mem_of_getElem? hpj)).2]) g e rfl,fun e=>hQX.off _ (by simp [(zaB (List.mem_of_getElem? hpj)).2]) e⟩
       rw [zf6] at hQ8
       have HE:=zaa (HEnd.out _ (by rw [HAdd.out,HAd2.out];exact ⟨_,hQ8,(HBX.out.trans (hb7.mono hBX)).trans hb8,fun k hk hkb hkg=>(zaM w7 g _ _ (fun e=>hkg (by rw [e];rfl))).trans ((hb7.block k (Nat.lt_of_lt_of_le hk HSX.out)).trans (HKX.out k hk hkb hkg))⟩))
       go_wp2
       go_roundw
       case rel=>exact ⟨j + 1,by go_num,HJ.out,HE⟩
       case measure=>have:=HJ.out;simp [intOf];omega
      ·go_simp
       have hbA : Below X.heap.size X (X.alloc (.cells #[.string (str xn),.string (str xv)] 67)):=(Below.refl _ _).alloc (Nat.le_refl _) _
       have hQA:=hQX.below hbA
       have hbAX : Below X.heap.size X (X.alloc (.cells #[.string (str xn),.string (str xv)] 67)):=bel hbX0 hbA
       have hAA:=zaf X (.cells #[.string (str xn),.string (str xv)] 67)
       refine hK.out _ _ (fun _=>HSQ.out _ hbAX) ?_
       have hS:=HSQ.out _ hbAX
       obtain ⟨y,hy⟩ : ∃ y,X.heap.size = y:=⟨_,rfl⟩
       rw [hy] at hAA ⊢
       clear hy
       generalize hYe : (X.alloc (.cells #[.string (str xn),.string (str xv)] 67)) = Y2 at *
       clear hYe
       clear hK K hbA
       refine zal (i:=13) (by kernel_rfl) rfl (fun K hK=>?_)
       refine zaO rfl (.const (.slice none 0 0)) (.tmp 72) rfl B (.slice none 0 0) [] (by kernel_rfl) (zbd.nil _ _ _) (.slice ba ds.length bc) ds (by kernel_rfl) (zbd.reads (hQA.ats i _ hpj)) (by simp;omega) (Nat.le_trans hBX hbAX.size) ?_
       intro v5 w5 h5 g5 hat5
       have hb5:=za1 g5
       have hQ5:=hQA.below hb5
       have hb5X:=bel hbAX hb5
       have hf5 : ∀ k,v5.ownBlock = some k → X.heap.size ≤ k:=fun k e=>by
        rcases hat5 with h9 | h9
        ·rw [h9] at e
         cases e
        ·rw [h9] at e
         cases e
         exact hbAX.size
       obtain ⟨xa5,xc5,e5⟩:=(zbd.reads h5).form
       rw [List.nil_append] at e5 h5
       subst e5
       refine hK.out _ _ (fun _=>HSQ.out _ hb5X) ?_
       have hS:=HSQ.out _ hb5X
       clear hK K
       refine zal (i:=20) (by kernel_rfl) rfl (fun K hK=>?_)
       have hAA5:=(hb5.block y (Array.getElem?_eq_some_iff.1 hAA).1).trans hAA
       refine zaO rfl (.tmp 73) (.tmp 79) rfl B (.slice xa5 ds.length xc5) ds (by kernel_rfl) h5 (.slice (some ⟨y,0,none⟩) 1 1) [(xn,xv)] (by kernel_rfl) (zjh hAA5) (by simp;omega) (Nat.le_trans hBX hb5X.size) ?_
       intro v7 w7 h7 g7 hat7
       have hf7 : ∀ k,v7.ownBlock = some k → X.heap.size ≤ k:=fun k e=>by
        rcases hat7 with h9 | h9
        ·rw [h9] at e
         exact hf5 k e
        ·rw [h9] at e
         cases e
         exact hb5X.size
       have hb7 : Below X.heap.size X w7:=hb5X.trans ⟨g7.os,g7.tape,g7.output,g7.size,fun k hk=>g7.block k (Nat.lt_of_lt_of_le hk hb5X.size) (fun e=>by have:=hf5 k e.symm;omega)⟩
       obtain ⟨xa7,xc7,e7⟩:=(zbd.reads h7).form
       rw [List.length_append,List.length_singleton] at e7
       subst e7
       have hQ7:=hQX.below hb7
       refine hK.out _ _ (fun _=>HSQ.out _ hb7) ?_
       have hS:=HSQ.out _ hb7
       clear hK K
       refine zal (i:=21) (by kernel_rfl) rfl (fun K hK=>?_)
       have cN9:=((hS1 _).1 hS).1
       go_simp
       refine hK.out _ _ (fun _=>hS) ?_
       clear hK K
       refine zas 22 82 (.pointer (some ⟨g,i * 6 + 2,none⟩)) rfl rfl rfl (by kernel_rfl) (by kernel_rfl) (by kernel_rfl) (by kernel_rfl) (fun _ _ _ h=>h) (Or.inl ⟨by kernel_rfl,fun W _=>by go_simp⟩) hS ?_
       simp only [Act.put,List.setIfInBounds_toArray,List.set_cons_zero,List.set_cons_succ]
       refine zal (i:=23) (by kernel_rfl) rfl (fun K hK=>?_)
       have c7:=(hQ7.cell hpj (i:=2) rfl).1
       have f7:=(hQ7.cell hpj (i:=2) rfl).2
       simp only at c7
       go_simp
       refine hK.out _ _ (fun h=>absurd rfl h) ?_
       clear hK K
       refine za2 (by kernel_rfl) ?_ _
       have hgX:=(World.ownsRow.lt hQX.row g rfl).2
       have hbbl:=hQX.lt
       have hne : ∀ k,(Value.slice xa7 (ds.length + 1) xc7).ownBlock = some k → k ≠ g ∧ k ≠ bb:=fun k e=>by
        have h1:=hf7 k e
        exact ⟨by omega,by omega⟩
       obtain ⟨hQ8,hb8⟩:=hQ7.put hpj ({ n with attrs:=ds ++ [(xn,xv)] },.slice xa7 (ds.length + 1) xc7,vk) 2 (.slice xa7 (ds.length + 1) xc7) (by decide) rfl h7 (hQ7.kds i ({ n with attrs:=ds },(.slice ba ds.length bc),vk) hpj)
        ⟨fun e=>(hne g e).1 rfl,fun e=>(hne bb e).2 rfl⟩ ⟨fun e=>hQX.apn _ (by simp [(zaB (List.mem_of_getElem? hpj)).2]) g e rfl,fun e=>hQX.off _ (by simp [(zaB (List.mem_of_getElem? hpj)).2]) e⟩
       rw [zf6] at hQ8
       have HE:=zaa (HEnd.out _ (by rw [HAdd.out,HAd2.out];exact ⟨_,hQ8,(HBX.out.trans (hb7.mono hBX)).trans hb8,fun k hk hkb hkg=>(zaM w7 g _ _ (fun e=>hkg (by rw [e];rfl))).trans ((hb7.block k (Nat.lt_of_lt_of_le hk HSX.out)).trans (HKX.out k hk hkb hkg))⟩))
       go_wp2
       go_roundw
       case rel=>exact ⟨j + 1,by go_num,HJ.out,HE⟩
       case measure=>have:=HJ.out;simp [intOf];omega
     ·have q64 : ¬ (ds.length : Int) < 64:=by omega
      have HAd2 : Hid (Tk.add ds (xn,xv) = ds):=by
       show _ = _
       unfold Tk.add
       rw [if_neg (fun h9=>h64 h9.2)]
      go_upto_region 7 with fail
      obtain ⟨S,hS1⟩ : ∃ S : World → Prop,∀ W,S W ↔ Below Y.heap.size Y W:=⟨_,fun _=>Iff.rfl⟩
      refine wp_region_held_drew (S:=S) (by kernel_rfl) ((hS1 _).2 ((Below.refl _ _).drew)) (fun hS=>?_)
      obtain ⟨Y1,hY1⟩ : ∃ Z,Y.drew = Z:=⟨_,rfl⟩
      rw [hY1] at hS ⊢
      have HY1:=zaa hY1
      clear hY1
      refine zab 0 32 (.pointer (some ⟨bb,0,none⟩)) rfl rfl (by kernel_rfl) (by kernel_rfl) (by kernel_rfl) (fun _ _ _ h=>h) (Or.inl ⟨by kernel_rfl,fun W _=>by go_simp⟩) hS ?_
      simp only [Act.put,List.setIfInBounds_toArray,List.set_cons_zero,List.set_cons_succ]
      refine zab 1 33 (.pointer (some ⟨bb,0,none⟩)) rfl rfl (by kernel_rfl) (by kernel_rfl) (by kernel_rfl) (fun _ _ _ h=>h) (Or.inl ⟨by kernel_rfl,fun W _=>by go_simp⟩) hS ?_
      simp only [Act.put,List.setIfInBounds_toArray,List.set_cons_zero,List.set_cons_succ]
      refine zab 2 34 (.pointer (some ⟨bb,0,none⟩)) rfl rfl (by kernel_rfl) (by kernel_rfl) (by kernel_rfl) (fun _ _ _ h=>h) (Or.inl ⟨by kernel_rfl,fun W _=>by go_simp⟩) hS ?_
      simp only [Act.put,List.setIfInBounds_toArray,List.set_cons_zero,List.set_cons_succ]
      refine zab 3 35 (.slice (some ⟨g,0,none⟩) ps.length c) rfl rfl (by kernel_rfl) (by kernel_rfl) (by kernel_rfl) (fun _ _ _ h=>h) (Or.inl ⟨by kernel_rfl,fun W hW=>by have hc:=((((hS1 W).1 hW).cell (p:=⟨bb,0,none⟩) hbbX).trans cNX);go_simp⟩) hS ?_
      simp only [Act.put,List.setIfInBounds_toArray,List.set_cons_zero,List.set_cons_succ]
      refine zab 4 36 (.int .i64 (i : Int)) rfl rfl (by kernel_rfl) (by kernel_rfl) (by kernel_rfl) (fun _ _ _ h=>h) (Or.inl ⟨by kernel_rfl,fun W _=>by go_simp⟩) hS ?_
      simp only [Act.put,List.setIfInBounds_toArray,List.set_cons_zero,List.set_cons_succ]
      refine zab 5 37 (.pointer (some ⟨g,i * 6,none⟩)) rfl rfl (by kernel_rfl) (by kernel_rfl) (by kernel_rfl) (fun _ _ _ h=>h) (Or.inl ⟨by kernel_rfl,fun W _=>by go_simp⟩) hS ?_
      simp only [Act.put,List.setIfInBounds_toArray,List.set_cons_zero,List.set_cons_succ]
      refine zab 6 38 (.pointer (some ⟨g,i * 6 + 2,none⟩)) rfl rfl (by kernel_rfl) (by kernel_rfl) (by kernel_rfl) (fun _ _ _ h=>h) (Or.inl ⟨by kernel_rfl,fun W _=>by go_simp⟩) hS ?_
      simp only [Act.put,List.setIfInBounds_toArray,List.set_cons_zero,List.set_cons_succ]
      refine zab 7 39 (.slice ba ds.length bc) rfl rfl (by kernel_rfl) (by kernel_rfl) (by kernel_rfl) (fun _ _ _ h=>h) (Or.inl ⟨by kernel_rfl,fun W hW=>by have hc:=((((hS1 W).1 hW).cell (p:=⟨g,i * 6 + 2,none⟩) hgX).trans cAX);go_simp⟩) hS ?_
      simp only [Act.put,List.setIfInBounds_toArray,List.set_cons_zero,List.set_cons_succ]
      refine zab 8 40 (.pointer (some ⟨tb,2,none⟩)) rfl rfl (by kernel_rfl) (by kernel_rfl) (by kernel_rfl) (fun _ _ _ h=>h) (Or.inl ⟨by kernel_rfl,fun W _=>by go_simp⟩) hS ?_
      simp only [Act.put,List.setIfInBounds_toArray,List.set_cons_zero,List.set_cons_succ]
      refine zab 9 41 (.slice (some ⟨sb,so,none⟩) ats.length ac) rfl rfl (by kernel_rfl) (by kernel_rfl) (by kernel_rfl) (fun _ _ _ h=>h) (Or.inl ⟨by kernel_rfl,fun W hW=>by have hc:=((((hS1 W).1 hW).cell (p:=⟨tb,2,none⟩) htX).trans cTX);go_simp⟩) hS ?_
      simp only [Act.put,List.setIfInBounds_toArray,List.set_cons_zero,List.set_cons_succ]
      refine zab 10 42 (.int .i64 (j : Int)) rfl rfl (by kernel_rfl) (by kernel_rfl) (by kernel_rfl) (fun _ _ _ h=>h) (Or.inl ⟨by kernel_rfl,fun W _=>by go_simp⟩) hS ?_
      simp only [Act.put,List.setIfInBounds_toArray,List.set_cons_zero,List.set_cons_succ]
      refine zab 11 43 (.pointer (some ⟨sb,so + j * 2,none⟩)) rfl rfl (by kernel_rfl) (by kernel_rfl) (by kernel_rfl) (fun _ _ _ h=>h) (Or.inl ⟨by kernel_rfl,fun W _=>by go_simp⟩) hS ?_
      simp only [Act.put,List.setIfInBounds_toArray,List.set_cons_zero,List.set_cons_succ]
      refine zab 12 44 (.pointer (some ⟨sb,so + j * 2,none⟩)) rfl rfl (by kernel_rfl) (by kernel_rfl) (by kernel_rfl) (fun _ _ _ h=>h) (Or.inl ⟨by kernel_rfl,fun W _=>by go_simp⟩) hS ?_
      simp only [Act.put,List.setIfInBounds_toArray,List.set_cons_zero,List.set_cons_succ]
      refine zab 13 45 (.string (str xn)) rfl rfl (by kernel_rfl) (by kernel_rfl) (by kernel_rfl) (fun _ _ _ h=>h) (Or.inl ⟨by kernel_rfl,fun W hW=>by have hc:=((((hS1 W).1 hW).cell (p:=⟨sb,so + j * 2,none⟩) hsbX).trans cnX);go_simp⟩) hS ?_
      simp only [Act.put,List.setIfInBounds_toArray,List.set_cons_zero,List.set_cons_succ]
      refine wpAnyH_ready (rs:=[14]) (by kernel_rfl) (by simp) ?_
      refine AllReadyH.cons rfl (fun K hK=>?_) AllReadyH.nil
      go_simp
      refine (zeQ ds (.slice ba ds.length bc) xn _ (HRD.out.below ((hS1 _).1 hS)) (by omega)).mono ?_
      rintro e w7 ⟨rfl,he⟩
      rw [he,hh]
      clear he
      refine hK.out _ _ (hS) (fun hS=>?_)
      clear hK K
      refine zab 15 47 (.bool true) rfl rfl (by kernel_rfl) (by kernel_rfl) (by kernel_rfl) (fun _ _ _ h=>h) (Or.inl ⟨by kernel_rfl,fun W _=>by go_simp⟩) hS ?_
      simp only [Act.put,List.setIfInBounds_toArray,List.set_cons_zero,List.set_cons_succ]
      refine zab 16 48 (.bool true) rfl rfl (by kernel_rfl) (by kernel_rfl) (by kernel_rfl) (fun _ _ _ h=>h) (Or.inl ⟨by kernel_rfl,fun W _=>by go_simp⟩) hS ?_
      simp only [Act.put,List.setIfInBounds_toArray,List.set_cons_zero,List.set_cons_succ]
      refine zab 17 49 (.pointer (some ⟨bb,0,none⟩)) rfl rfl (by kernel_rfl) (by kernel_rfl) (by kernel_rfl) (fun _ _ _ h=>h) (Or.inl ⟨by kernel_rfl,fun W _=>by go_simp⟩) hS ?_
      simp only [Act.put,List.setIfInBounds_toArray,List.set_cons_zero,List.set_cons_succ]
      refine zab 18 50 (.pointer (some ⟨bb,0,none⟩)) rfl rfl (by kernel_rfl) (by kernel_rfl) (by kernel_rfl) (fun _ _ _ h=>h) (Or.inl ⟨by kernel_rfl,fun W _=>by go_simp⟩) hS ?_
      simp only [Act.put,List.setIfInBounds_toArray,List.set_cons_zero,List.set_cons_succ]
      refine zab 19 51 (.pointer (some ⟨bb,0,none⟩)) rfl rfl (by kernel_rfl) (by kernel_rfl) (by kernel_rfl) (fun _ _ _ h=>h) (Or.inl ⟨by kernel_rfl,fun W _=>by go_simp⟩) hS ?_
      simp only [Act.put,List.setIfInBounds_toArray,List.set_cons_zero,List.set_cons_succ]
      refine zab 20 52 (.slice (some ⟨g,0,none⟩) ps.length c) rfl rfl (by kernel_rfl) (by kernel_rfl) (by kernel_rfl) (fun _ _ _ h=>h) (Or.inl ⟨by kernel_rfl,fun W hW=>by have hc:=((((hS1 W).1 hW).cell (p:=⟨bb,0,none⟩) hbbX).trans cNX);go_simp⟩) hS ?_
      simp only [Act.put,List.setIfInBounds_toArray,List.set_cons_zero,List.set_cons_succ]
      refine zab 21 53 (.int .i64 (i : Int)) rfl rfl (by kernel_rfl) (by kernel_rfl) (by kernel_rfl) (fun _ _ _ h=>h) (Or.inl ⟨by kernel_rfl,fun W _=>by go_simp⟩) hS ?_
      simp only [Act.put,List.setIfInBounds_toArray,List.set_cons_zero,List.set_cons_succ]
      refine zab 22 54 (.pointer (some ⟨g,i * 6,none⟩)) rfl rfl (by kernel_rfl) (by kernel_rfl) (by kernel_rfl) (fun _ _ _ h=>h) (Or.inl ⟨by kernel_rfl,fun W _=>by go_simp⟩) hS ?_
      simp only [Act.put,List.setIfInBounds_toArray,List.set_cons_zero,List.set_cons_succ]
      refine zab 23 55 (.pointer (some ⟨g,i * 6 + 2,none⟩)) rfl rfl (by kernel_rfl) (by kernel_rfl) (by kernel_rfl) (fun _ _ _ h=>h) (Or.inl ⟨by kernel_rfl,fun W _=>by go_simp⟩) hS ?_
      simp only [Act.put,List.setIfInBounds_toArray,List.set_cons_zero,List.set_cons_succ]
      refine zab 24 56 (.slice ba ds.length bc) rfl rfl (by kernel_rfl) (by kernel_rfl) (by kernel_rfl) (fun _ _ _ h=>h) (Or.inl ⟨by kernel_rfl,fun W hW=>by have hc:=((((hS1 W).1 hW).cell (p:=⟨g,i * 6 + 2,none⟩) hgX).trans cAX);go_simp⟩) hS ?_
      simp only [Act.put,List.setIfInBounds_toArray,List.set_cons_zero,List.set_cons_succ]
      refine zab 25 57 (.int .i64 (ds.length : Int)) rfl rfl (by kernel_rfl) (by kernel_rfl) (by kernel_rfl) (fun _ _ _ h=>h) (Or.inl ⟨by kernel_rfl,fun W _=>by go_simp⟩) hS ?_
      simp only [Act.put,List.setIfInBounds_toArray,List.set_cons_zero,List.set_cons_succ]
      refine zab 26 58 (.bool false) rfl rfl (by kernel_rfl) (by kernel_rfl) (by kernel_rfl) (fun _ _ _ h=>h) (Or.inl ⟨by kernel_rfl,fun W _=>by go_simp⟩) hS ?_
      simp only [Act.put,List.setIfInBounds_toArray,List.set_cons_zero,List.set_cons_succ]
      refine zab 27 59 (.bool false) rfl rfl (by kernel_rfl) (by kernel_rfl) (by kernel_rfl) (fun _ _ _ h=>h) (Or.inl ⟨by kernel_rfl,fun W _=>by go_simp⟩) hS ?_
      simp only [Act.put,List.setIfInBounds_toArray,List.set_cons_zero,List.set_cons_succ]
      refine wpAnyH_done (by kernel_rfl) ?_ _
      have hY1 : Below Y.heap.size Y Y1:=(hS1 _).1 hS
      clear hS hS1
      have HE:=zaa (HEnd.out Y1 (by rw [HAdd.out,HAd2.out];exact ⟨_,HQn.out _ hY1,HBY.out.trans (hY1.mono (Nat.le_trans (by omega) HSY.out)),fun k hk hkb hkg=>(hY1.block k (Nat.lt_of_lt_of_le hk HSY.out)).trans (HKY.out k hk hkb hkg)⟩))
      go_wp2
      go_roundw
      case rel=>exact ⟨j + 1,by go_num,HJ.out,HE⟩
      case measure=>have:=HJ.out;simp [intOf];omega
    ·have HAd2 : Hid (Tk.add ds (xn,xv) = ds):=by
      show _ = _
      unfold Tk.add
      rw [if_neg (fun h9=>by rw [hh] at h9;cases h9.1)]
     go_upto_region 7 with fail
     obtain ⟨S,hS1⟩ : ∃ S : World → Prop,∀ W,S W ↔ Below Y.heap.size Y W:=⟨_,fun _=>Iff.rfl⟩
     refine wp_region_held_drew (S:=S) (by kernel_rfl) ((hS1 _).2 ((Below.refl _ _).drew)) (fun hS=>?_)
     obtain ⟨Y1,hY1⟩ : ∃ Z,Y.drew = Z:=⟨_,rfl⟩
     rw [hY1] at hS ⊢
     have HY1:=zaa hY1
     clear hY1
     refine zab 0 32 (.pointer (some ⟨bb,0,none⟩)) rfl rfl (by kernel_rfl) (by kernel_rfl) (by kernel_rfl) (fun _ _ _ h=>h) (Or.inl ⟨by kernel_rfl,fun W _=>by go_simp⟩) hS ?_
     simp only [Act.put,List.setIfInBounds_toArray,List.set_cons_zero,List.set_cons_succ]
     refine zab 1 33 (.pointer (some ⟨bb,0,none⟩)) rfl rfl (by kernel_rfl) (by kernel_rfl) (by kernel_rfl) (fun _ _ _ h=>h) (Or.inl ⟨by kernel_rfl,fun W _=>by go_simp⟩) hS ?_
     simp only [Act.put,List.setIfInBounds_toArray,List.set_cons_zero,List.set_cons_succ]
     refine zab 2 34 (.pointer (some ⟨bb,0,none⟩)) rfl rfl (by kernel_rfl) (by kernel_rfl) (by kernel_rfl) (fun _ _ _ h=>h) (Or.inl ⟨by kernel_rfl,fun W _=>by go_simp⟩) hS ?_
     simp only [Act.put,List.setIfInBounds_toArray,List.set_cons_zero,List.set_cons_succ]
     refine zab 3 35 (.slice (some ⟨g,0,none⟩) ps.length c) rfl rfl (by kernel_rfl) (by kernel_rfl) (by kernel_rfl) (fun _ _ _ h=>h) (Or.inl ⟨by kernel_rfl,fun W hW=>by have hc:=((((hS1 W).1 hW).cell (p:=⟨bb,0,none⟩) hbbX).trans cNX);go_simp⟩) hS ?_
     simp only [Act.put,List.setIfInBounds_toArray,List.set_cons_zero,List.set_cons_succ]
     refine zab 4 36 (.int .i64 (i : Int)) rfl rfl (by kernel_rfl) (by kernel_rfl) (by kernel_rfl) (fun _ _ _ h=>h) (Or.inl ⟨by kernel_rfl,fun W _=>by go_simp⟩) hS ?_
     simp only [Act.put,List.setIfInBounds_toArray,List.set_cons_zero,List.set_cons_succ]
     refine zab 5 37 (.pointer (some ⟨g,i * 6,none⟩)) rfl rfl (by kernel_rfl) (by kernel_rfl) (by kernel_rfl) (fun _ _ _ h=>h) (Or.inl ⟨by kernel_rfl,fun W _=>by go_simp⟩) hS ?_
     simp only [Act.put,List.setIfInBounds_toArray,List.set_cons_zero,List.set_cons_succ]
     refine zab 6 38 (.pointer (some ⟨g,i * 6 + 2,none⟩)) rfl rfl (by kernel_rfl) (by kernel_rfl) (by kernel_rfl) (fun _ _ _ h=>h) (Or.inl ⟨by kernel_rfl,fun W _=>by go_simp⟩) hS ?_
     simp only [Act.put,List.setIfInBounds_toArray,List.set_cons_zero,List.set_cons_succ]
     refine zab 7 39 (.slice ba ds.length bc) rfl rfl (by kernel_rfl) (by kernel_rfl) (by kernel_rfl) (fun _ _ _ h=>h) (Or.inl ⟨by kernel_rfl,fun W hW=>by have hc:=((((hS1 W).1 hW).cell (p:=⟨g,i * 6 + 2,none⟩) hgX).trans cAX);go_simp⟩) hS ?_
     simp only [Act.put,List.setIfInBounds_toArray,List.set_cons_zero,List.set_cons_succ]
     refine zab 8 40 (.pointer (some ⟨tb,2,none⟩)) rfl rfl (by kernel_rfl) (by kernel_rfl) (by kernel_rfl) (fun _ _ _ h=>h) (Or.inl ⟨by kernel_rfl,fun W _=>by go_simp⟩) hS ?_
     simp only [Act.put,List.setIfInBounds_toArray,List.set_cons_zero,List.set_cons_succ]
     refine zab 9 41 (.slice (some ⟨sb,so,none⟩) ats.length ac) rfl rfl (by kernel_rfl) (by kernel_rfl) (by kernel_rfl) (fun _ _ _ h=>h) (Or.inl ⟨by kernel_rfl,fun W hW=>by have hc:=((((hS1 W).1 hW).cell (p:=⟨tb,2,none⟩) htX).trans cTX);go_simp⟩) hS ?_
     simp only [Act.put,List.setIfInBounds_toArray,List.set_cons_zero,List.set_cons_succ]
     refine zab 10 42 (.int .i64 (j : Int)) rfl rfl (by kernel_rfl) (by kernel_rfl) (by kernel_rfl) (fun _ _ _ h=>h) (Or.inl ⟨by kernel_rfl,fun W _=>by go_simp⟩) hS ?_
     simp only [Act.put,List.setIfInBounds_toArray,List.set_cons_zero,List.set_cons_succ]
     refine zab 11 43 (.pointer (some ⟨sb,so + j * 2,none⟩)) rfl rfl (by kernel_rfl) (by kernel_rfl) (by kernel_rfl) (fun _ _ _ h=>h) (Or.inl ⟨by kernel_rfl,fun W _=>by go_simp⟩) hS ?_
     simp only [Act.put,List.setIfInBounds_toArray,List.set_cons_zero,List.set_cons_succ]
     refine zab 12 44 (.pointer (some ⟨sb,so + j * 2,none⟩)) rfl rfl (by kernel_rfl) (by kernel_rfl) (by kernel_rfl) (fun _ _ _ h=>h) (Or.inl ⟨by kernel_rfl,fun W _=>by go_simp⟩) hS ?_
     simp only [Act.put,List.setIfInBounds_toArray,List.set_cons_zero,List.set_cons_succ]
     refine zab 13 45 (.string (str xn)) rfl rfl (by kernel_rfl) (by kernel_rfl) (by kernel_rfl) (fun _ _ _ h=>h) (Or.inl ⟨by kernel_rfl,fun W hW=>by have hc:=((((hS1 W).1 hW).cell (p:=⟨sb,so + j * 2,none⟩) hsbX).trans cnX);go_simp⟩) hS ?_
     simp only [Act.put,List.setIfInBounds_toArray,List.set_cons_zero,List.set_cons_succ]
     refine wpAnyH_ready (rs:=[14]) (by kernel_rfl) (by simp) ?_
     refine AllReadyH.cons rfl (fun K hK=>?_) AllReadyH.nil
     go_simp
     refine (zeQ ds (.slice ba ds.length bc) xn _ (HRD.out.below ((hS1 _).1 hS)) (by omega)).mono ?_
     rintro e w7 ⟨rfl,he⟩
     rw [he,hh]
     clear he
     refine hK.out _ _ (hS) (fun hS=>?_)
     clear hK K
     refine zab 15 47 (.bool false) rfl rfl (by kernel_rfl) (by kernel_rfl) (by kernel_rfl) (fun _ _ _ h=>h) (Or.inl ⟨by kernel_rfl,fun W _=>by go_simp⟩) hS ?_
     simp only [Act.put,List.setIfInBounds_toArray,List.set_cons_zero,List.set_cons_succ]
     refine zab 16 48 (.bool false) rfl rfl (by kernel_rfl) (by kernel_rfl) (by kernel_rfl) (fun _ _ _ h=>h) (Or.inl ⟨by kernel_rfl,fun W _=>by go_simp⟩) hS ?_
     simp only [Act.put,List.setIfInBounds_toArray,List.set_cons_zero,List.set_cons_succ]
     refine zab 17 49 (undef) rfl rfl (by kernel_rfl) (by kernel_rfl) (by kernel_rfl) (fun _ _ _ h=>h) (Or.inr ⟨by kernel_rfl,rfl⟩) hS ?_
     simp only [Act.put,List.setIfInBounds_toArray,List.set_cons_zero,List.set_cons_succ]
     refine zab 18 50 (undef) rfl rfl (by kernel_rfl) (by kernel_rfl) (by kernel_rfl) (fun _ _ _ h=>h) (Or.inr ⟨by kernel_rfl,rfl⟩) hS ?_
     simp only [Act.put,List.setIfInBounds_toArray,List.set_cons_zero,List.set_cons_succ]
     refine zab 19 51 (undef) rfl rfl (by kernel_rfl) (by kernel_rfl) (by kernel_rfl) (fun _ _ _ h=>h) (Or.inr ⟨by kernel_rfl,rfl⟩) hS ?_
     simp only [Act.put,List.setIfInBounds_toArray,List.set_cons_zero,List.set_cons_succ]
     refine zab 20 52 (undef) rfl rfl (by kernel_rfl) (by kernel_rfl) (by kernel_rfl) (fun _ _ _ h=>h) (Or.inr ⟨by kernel_rfl,rfl⟩) hS ?_
     simp only [Act.put,List.setIfInBounds_toArray,List.set_cons_zero,List.set_cons_succ]
     refine zab 21 53 (undef) rfl rfl (by kernel_rfl) (by kernel_rfl) (by kernel_rfl) (fun _ _ _ h=>h) (Or.inr ⟨by kernel_rfl,rfl⟩) hS ?_
     simp only [Act.put,List.setIfInBounds_toArray,List.set_cons_zero,List.set_cons_succ]
     refine zab 22 54 (undef) rfl rfl (by kernel_rfl) (by kernel_rfl) (by kernel_rfl) (fun _ _ _ h=>h) (Or.inr ⟨by kernel_rfl,rfl⟩) hS ?_
     simp only [Act.put,List.setIfInBounds_toArray,List.set_cons_zero,List.set_cons_succ]
     refine zab 23 55 (undef) rfl rfl (by kernel_rfl) (by kernel_rfl) (by kernel_rfl) (fun _ _ _ h=>h) (Or.inr ⟨by kernel_rfl,rfl⟩) hS ?_
     simp only [Act.put,List.setIfInBounds_toArray,List.set_cons_zero,List.set_cons_succ]
     refine zab 24 56 (undef) rfl rfl (by kernel_rfl) (by kernel_rfl) (by kernel_rfl) (fun _ _ _ h=>h) (Or.inr ⟨by kernel_rfl,rfl⟩) hS ?_
     simp only [Act.put,List.setIfInBounds_toArray,List.set_cons_zero,List.set_cons_succ]
     refine zab 25 57 (undef) rfl rfl (by kernel_rfl) (by kernel_rfl) (by kernel_rfl) (fun _ _ _ h=>h) (Or.inr ⟨by kernel_rfl,rfl⟩) hS ?_
     simp only [Act.put,List.setIfInBounds_toArray,List.set_cons_zero,List.set_cons_succ]
     refine zab 26 58 (undef) rfl rfl (by kernel_rfl) (by kernel_rfl) (by kernel_rfl) (fun _ _ _ h=>h) (Or.inr ⟨by kernel_rfl,rfl⟩) hS ?_
     simp only [Act.put,List.setIfInBounds_toArray,List.set_cons_zero,List.set_cons_succ]
     refine zab 27 59 (.bool false) rfl rfl (by kernel_rfl) (by kernel_rfl) (by kernel_rfl) (fun _ _ _ h=>h) (Or.inl ⟨by kernel_rfl,fun W _=>by go_simp⟩) hS ?_
     simp only [Act.put,List.setIfInBounds_toArray,List.set_cons_zero,List.set_cons_succ]
     refine wpAnyH_done (by kernel_rfl) ?_ _
     have hY1 : Below Y.heap.size Y Y1:=(hS1 _).1 hS
     clear hS hS1
     have HE:=zaa (HEnd.out Y1 (by rw [HAdd.out,HAd2.out];exact ⟨_,HQn.out _ hY1,HBY.out.trans (hY1.mono (Nat.le_trans (by omega) HSY.out)),fun k hk hkb hkg=>(hY1.block k (Nat.lt_of_lt_of_le hk HSY.out)).trans (HKY.out k hk hkb hkg)⟩))
     go_wp2
     go_roundw
     case rel=>exact ⟨j + 1,by go_num,HJ.out,HE⟩
     case measure=>have:=HJ.out;simp [intOf];omega
   ·have hje : j = ats.length:=by omega
    subst hje
    rw [List.take_length] at HI
    clear hQY hBY hKY
    go_wp2
    go_ret
    obtain ⟨va2,hQ2,hB2,_⟩:=HI.out
    exact ⟨rfl,_,_,_,hQ2,HMap.out va2,HBW0.out.trans hB2⟩
end
end Go.Proofs.YtiodaahncadodaaGreatDoor
